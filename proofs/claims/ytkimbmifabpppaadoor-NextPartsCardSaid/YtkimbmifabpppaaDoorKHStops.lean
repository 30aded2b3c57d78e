/- The times of a day, told one by one: the iterator, walked, of the program. -/
import Derived.Test.YtkimbmifabpppaaDoorK3
import Derived.Test.YtkimbmifabpppaaDoorK5
import Derived.Test.YtkimbmifabpppaaDoorKHIter
namespace Go.Proofs.YtkimbmifabpppaaDoor
open Go.RowKit

attribute [local go_sem] Oper.semAt_some

theorem on_next {hs ms : List Int} {n h : Int} {k : Nat} (hk : hs[k]? = some h) : onW (hs.take k) ms n ++ (ms.map fun m => n * 86400 + h * 3600 + m * 60) = onW (hs.take (k + 1)) ms n := by
  unfold onW
  rw [List.take_add_one, hk, List.flatMap_append]
  simp
theorem on_pre {hs ms : List Int} {n h : Int} {k j : Nat} (hk : hs[k]? = some h) : onW (hs.take k) ms n ++ ((ms.take j).map fun m => n * 86400 + h * 3600 + m * 60) <+: onW hs ms n := by
  have e : onW hs ms n = onW (hs.take k) ms n ++ ((ms.map fun m => n * 86400 + h * 3600 + m * 60) ++ onW (hs.drop (k + 1)) ms n) := by
    rw [← List.append_assoc, on_next hk]
    unfold onW
    rw [← List.flatMap_append, List.take_append_drop]
  rw [e, List.prefix_append_right_inj, List.map_take]
  exact List.IsPrefix.trans (List.take_prefix _ _) (List.prefix_append _ _)
theorem on_step {ms : List Int} {n h m : Int} {P : List Int} {j : Nat} (hj : ms[j]? = some m) : (P ++ ((ms.take j).map fun m => n * 86400 + h * 3600 + m * 60)) ++ [n * 86400 + h * 3600 + m * 60] = P ++ ((ms.take (j + 1)).map fun m => n * 86400 + h * 3600 + m * 60) := by
  rw [List.take_add_one, hj]
  simp
theorem on_len {hs ms : List Int} {n : Int} (h1 : hs.length ≤ 64) (h2 : ms.length ≤ 64) : (onW hs ms n).length ≤ 4096 := by
  have : ∀ hs : List Int, (onW hs ms n).length = hs.length * ms.length := by
    intro hs
    induction hs with
    | nil => simp [onW]
    | cons h hs ih =>
      unfold onW at ih ⊢
      rw [List.flatMap_cons, List.length_append, ih, List.length_map, List.length_cons, Nat.succ_mul, Nat.add_comm]
  rw [this]
  exact Nat.le_trans (Nat.mul_le_mul h1 h2) (by omega)
theorem own_arr {w : World} {B n c : Nat} {e : TypeId} {A : Option Addr} {l : List Int} (h : w.ownsRow B e 1 (.slice A n c) n (l.map int1)) : ArrT w A n l := by
  have hl : l.length = n := by have := h.1; rw [List.length_map] at this; omega
  refine ⟨hl, fun i x hx => ?_⟩
  rcases h.2 with ⟨h1, h2⟩ | ⟨g, cp, cur, h1, _, hg, _⟩
  · subst h2
    rw [List.length_eq_zero_iff] at hl
    subst hl
    cases hx
  · cases h1
    refine ⟨g, 0, rfl, (Array.getElem?_eq_some_iff.1 hg).1, ?_⟩
    rw [Nat.zero_add, h.cellAt i (by have := (List.getElem?_eq_some_iff.1 hx).1; omega), List.getElem?_map, hx]
    rfl
/-- What the iterator reads. -/
structure ItAt (w : World) (Dp H M : Nat) (y m d : Int) (hs ms : List Int) : Prop where
  date : D.Box w Dp 56 #[.int .i64 y, .int .i64 m, .int .i64 d]
  hour : ∃ A c, D.Box w H 33 #[.slice A hs.length c] ∧ ArrT w A hs.length hs
  min : ∃ A c, D.Box w M 33 #[.slice A ms.length c] ∧ ArrT w A ms.length ms
theorem ItAt.on {w w' : World} {Dp H M : Nat} {y m d : Int} {hs ms : List Int} (h : ItAt w Dp H M y m d hs ms) (hb : Below w.heap.size w w') : ItAt w' Dp H M y m d hs ms := by
  obtain ⟨h1, ⟨A, c, h2, h3⟩, A', c', h4, h5⟩ := h
  exact ⟨D.Box.belowAll h1 hb, ⟨A, c, D.Box.belowAll h2 hb, h3.on hb⟩, A', c', D.Box.belowAll h4 hb, h5.on hb⟩
theorem Twin.at_ {B H M Dp : Nat} {W0 W : World} {vh vm : Value} {y m d : Int} {hs ms : List Int} (h : Twin B W0 W vh vm hs ms H M) (hd : D.Box W Dp 56 #[.int .i64 y, .int .i64 m, .int .i64 d]) : ItAt W Dp H M y m d hs ms := by
  obtain ⟨A, c, e⟩ := own_slice0 h.r.h
  obtain ⟨A', c', e'⟩ := own_slice0 h.r.m
  have h1 := h.xh; have h2 := h.xm; have h3 := h.r.h; have h4 := h.r.m
  rw [e] at h1 h3; rw [e'] at h2 h4
  exact ⟨hd, ⟨A, c, h1, own_arr h3⟩, A', c', h2, own_arr h4⟩
theorem grown_of {w w' : World} (h : Below w.heap.size w w') : w.grownBy w' none := ⟨h.os, h.tape, h.output, h.size, fun k hk _ => h.block k hk⟩
set_option maxRecDepth 100000 in
set_option maxHeartbeats 2000000 in
theorem times1_in (n : Nat) (hn : 1 ≤ n) (l Dp H M : Nat) (y m d : Int) (hs ms : List Int) (w0 : World) (hI : ItAt w0 Dp H M y m d hs ms) (hL : D.Laid w0) (hr : D.RightZ y m d)
    (hh : ∀ h ∈ hs, 0 ≤ h ∧ h ≤ 23) (hm : ∀ h ∈ ms, 0 ≤ h ∧ h ≤ 59) (h64 : hs.length ≤ 64) (m64 : ms.length ≤ 64) (J Jx : List Int → World → Prop)
    (hY : ∀ pre (x : Int) W, J pre W → pre.length < 4097 → YieldAt Fence.wide (n - 1) Tryd.prog l #[.int .i64 x] W fun e W' =>
      (e = .returned (.bool true) ∧ J (pre ++ [x]) W' ∧ Below w0.heap.size W W') ∨ (e = .returned (.bool false) ∧ Jx (pre ++ [x]) W'))
    (W : World) (hW : Below w0.heap.size w0 W) (hJ : AbidesFrom W.heap.size J) (h0 : J [] W) :
    CallsIn Fence.wide n Tryd.prog 78 #[.func (.yield l) #[] #[], .pointer (some ⟨Dp, 0, none⟩), .pointer (some ⟨H, 0, none⟩), .pointer (some ⟨M, 0, none⟩)] W fun e W' => (∃ v, e = .returned v) ∧
      ((∃ ys, ys = onW hs ms (D.numZ y m d) ∧ J ys W') ∨ (∃ pre, pre <+: onW hs ms (D.numZ y m d) ∧ Jx pre W')) := by
  have HO := Lib.hid (fun W hW => D.tof_ok y m d 0 0 0 W hW ⟨hr, by omega, by omega, by omega, by omega, by omega, by omega⟩)
  unfold D.civV at HO
  obtain ⟨n0, n1⟩ := D.num_range hr
  have ht : D.timeZ y m d 0 0 0 = D.numZ y m d * 86400 := by unfold D.timeZ; omega
  rw [ht] at HO
  clear ht hr
  generalize D.numZ y m d = N at *
  have HI := Lib.hid hI; have HL := Lib.hid hL
  have HIW := Lib.hid (hI.on hW)
  have HLW := Lib.hid (hL.on hW)
  obtain ⟨d0, d1, d2, _, _, _⟩ := D.Box.three HIW.out.date
  clear hI hL
  refine callsIn_of_wp Tryd.func78 rfl trivial ?_ rfl
  simp only [Tryd.ntmps78, List.size_toArray, List.length_cons, List.length_nil, Nat.reduceAdd, Nat.reduceSub, Array.replicate_succ, Array.replicate_zero, List.push_toArray, List.append_toArray, List.nil_append, List.cons_append]
  gi_wp2_with fail
  refine ⟨trivial, (callsIn_wide.2 (HO.out _ HLW.out)).mono ?_⟩
  rintro e w1 ⟨rfl, hb⟩
  have hJ1 := hJ [] _ _ none h0 (grown_of hb) (fun r e => by cases e)
  have hW1 : Below w0.heap.size w0 w1 := hW.trans (hb.mono hW.size)
  obtain ⟨_, ⟨Ah, ch, hbh, harh⟩, Am, cm, hbm, harm⟩ := HI.out
  have HBH := Lib.hid hbh; have HBM := Lib.hid hbm; have HAH := Lib.hid harh; have HAM := Lib.hid harm
  have HJ1 := Lib.hid hJ1; have HW1 := Lib.hid hW1
  obtain ⟨e0, _⟩ := (D.Box.belowAll HBH.out HW1.out).one
  have hhl : hs.length ≤ maxLen := by unfold maxLen; omega
  have hml : ms.length ≤ maxLen := by unfold maxLen; omega
  clear hb hJ1 hW1 d0 d1 d2 HO HIW HLW HL hbh hbm harh harm hJ h0
  gi_wp2_with fail
  gi_loopw [19] (fun i wr => ∃ (k : Nat) (pre : List Int), k ≤ hs.length ∧ i = .int .i64 (k : Int) ∧ pre = onW (hs.take k) ms N ∧ J pre wr ∧ Below w0.heap.size w0 wr) (fun i _ => hs.length - (intOf i).toNat)
  case atStart => exact ⟨0, [], Nat.zero_le _, rfl, rfl, HJ1.out, HW1.out⟩
  case round =>
    clear HJ1 HW1 e0
    obtain ⟨k, pre, hk, rfl, hpre, hj, hx⟩ := hrel
    by_cases hlt : k < hs.length
    · obtain ⟨h, hkk⟩ : ∃ h, hs[k]? = some h := ⟨_, List.getElem?_eq_getElem hlt⟩
      obtain ⟨hh0, hh1⟩ := hh h (List.mem_of_getElem? hkk)
      obtain ⟨b, off, hA, hlb, hc⟩ := (HAH.out.on hx).2 k h hkk
      subst hA
      obtain ⟨e0, _⟩ := (D.Box.belowAll HBM.out hx).one
      have HJ := Lib.hid hj; have HB := Lib.hid hx; have HP := Lib.hid hpre; have HKK := Lib.hid hkk
      clear hj hx hpre hkk
      gi_wp2_with fail
      generalize hwe : wr = we at *
      gi_loopw [25] (fun i wr => ∃ (j : Nat) (pre : List Int), j ≤ ms.length ∧ i = .int .i64 (j : Int) ∧ pre = onW (hs.take k) ms N ++ ((ms.take j).map fun m => N * 86400 + h * 3600 + m * 60) ∧ J pre wr ∧ Below w0.heap.size w0 wr) (fun i _ => ms.length - (intOf i).toNat)
      case atStart => exact ⟨0, pre, Nat.zero_le _, rfl, by rw [HP.out]; simp, HJ.out, HB.out⟩
      case round =>
        clear HJ HP HB e0 hc
        obtain ⟨j, pre', hj, rfl, hpre, hjj, hx⟩ := hrel
        by_cases hlt2 : j < ms.length
        · obtain ⟨mi, hmm⟩ : ∃ mi, ms[j]? = some mi := ⟨_, List.getElem?_eq_getElem hlt2⟩
          obtain ⟨hm0, hm1⟩ := hm mi (List.mem_of_getElem? hmm)
          obtain ⟨b2, off2, hA2, hlb2, hc2⟩ := (HAM.out.on hx).2 j mi hmm
          subst hA2
          have HJ := Lib.hid hjj; have HB := Lib.hid hx; have HMM := Lib.hid hmm
          have HP := Lib.hid hpre
          have hpl : pre'.length < 4097 := by
            have h1 := (on_pre (hs := hs) (ms := ms) (n := N) (j := j) HKK.out).length_le
            have h2 := on_len (n := N) h64 m64
            rw [hpre]; omega
          clear hjj hx hpre hmm
          obtain ⟨fn, tmps, assign, body, hy, hR⟩ := hY pre' (N * 86400 + h * 3600 + mi * 60) wr HJ.out hpl
          gi_wp2_with fail
          refine hR.mono ?_
          rintro e W3 (⟨rfl, hJ3, hk3⟩ | ⟨rfl, hJx3⟩)
          · have H3 := Lib.hid hJ3
            have HB3 := Lib.hid (HB.out.trans hk3)
            clear hJ3 hk3
            gi_wp2_with fail
            go_roundw
            case rel => exact ⟨j + 1, pre' ++ [N * 86400 + h * 3600 + mi * 60], by omega, by go_num, by rw [HP.out]; exact on_step HMM.out, H3.out, HB3.out⟩
            case measure => simp [intOf]; omega
          · gi_wp2_with fail
            refine bodyPost_ret (results_none rfl _ _ _) rfl ?_
            refine ⟨⟨_, rfl⟩, .inr ⟨pre' ++ [N * 86400 + h * 3600 + mi * 60], ?_, hJx3⟩⟩
            rw [HP.out, on_step HMM.out]
            exact on_pre HKK.out
        · have hj2 : j = ms.length := by omega
          have HJ := Lib.hid hjj; have HB := Lib.hid hx; have HP := Lib.hid hpre
          clear hjj hx hpre
          gi_wp2_with fail
          go_roundw
          case rel => exact ⟨k + 1, pre', by omega, by go_num, by rw [HP.out, hj2, List.take_length]; exact on_next HKK.out, HJ.out, HB.out⟩
          case measure => simp [intOf]; omega
    · have hk2 : k = hs.length := by omega
      have HJ := Lib.hid hj
      have HP := Lib.hid (show pre = onW hs ms N by rw [hpre, hk2, List.take_length])
      clear hj hx hpre
      gi_wp2_with fail
      go_end0
      exact ⟨⟨_, rfl⟩, .inl ⟨pre, HP.out, HJ.out⟩⟩
/-- It tells just the day's times, whatever the loop's body does above. -/
theorem times_stops (n : Nat) (hn : 1 ≤ n) (Dp H M : Nat) (y m d : Int) (hs ms : List Int) (w0 : World) (hI : ItAt w0 Dp H M y m d hs ms) (hL : D.Laid w0) (hr : D.RightZ y m d)
    (hh : ∀ h ∈ hs, 0 ≤ h ∧ h ≤ 23) (hm : ∀ h ∈ ms, 0 ≤ h ∧ h ≤ 59) (h64 : hs.length ≤ 64) (m64 : ms.length ≤ 64) :
    SeqStopsK Fence.wide n Tryd.prog 78 #[.pointer (some ⟨Dp, 0, none⟩), .pointer (some ⟨H, 0, none⟩), .pointer (some ⟨M, 0, none⟩)] (fun x : Int => #[.int .i64 x]) (Below w0.heap.size) (fun ys => ys = onW hs ms (D.numZ y m d)) (fun pre => pre <+: onW hs ms (D.numZ y m d)) 4097 w0 :=
  fun l J Jx W hW hJ _ hY h0 => times1_in n hn l Dp H M y m d hs ms w0 hI hL hr hh hm h64 m64 J Jx hY W hW hJ h0
end Go.Proofs.YtkimbmifabpppaaDoor
