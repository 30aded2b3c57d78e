/- The document's words of a text: walked. -/
import Derived.Test.YtmjjdccpnepjjaaGreatDoorK2
import Derived.Test.YtmjjdccpnepjjaaGreatDoorKGLaw
namespace Go.Proofs.YtmjjdccpnepjjaaGreatDoor
open Go.RowKit

def wenc (x : Nat × List UInt8) : List Value := [.int .i64 (x.1 : Int), .string ⟨x.2.toArray⟩]
theorem wenc_len (l : List (Nat × List UInt8)) : (l.flatMap wenc).length = l.length * 2 := by
  induction l with
  | nil => rfl
  | cons a l ih => rw [List.flatMap_cons, List.length_append, ih, List.length_cons]; show 2 + _ = _; omega
theorem word_set (pre : List (Nat × List UInt8)) (a : Nat) (t u : List UInt8) : ((pre ++ [(a, t)]).flatMap wenc).set (pre.length * 2 + 1) (.string ⟨u.toArray⟩) = (pre ++ [(a, u)]).flatMap wenc := by
  rw [List.flatMap_append, List.flatMap_append, List.set_append_right _ _ (by rw [wenc_len]; omega), wenc_len, show pre.length * 2 + 1 - pre.length * 2 = 1 by omega]
  rfl
theorem word_cells {w : World} {base : Nat} {A : Option Addr} {c : Nat} {pre : List (Nat × List UInt8)} {x : Nat × List UInt8} (h : w.ownsRow base 73 2 (.slice A (pre.length + 1) c) (pre.length + 1) ((pre ++ [x]).flatMap wenc)) :
    ∃ g, A = some ⟨g, 0, none⟩ ∧ g < w.heap.size ∧ w.cell? ⟨g, pre.length * 2 + 1, none⟩ = some (.string ⟨x.2.toArray⟩) := by
  have hx : ((pre ++ [x]).flatMap wenc)[pre.length * 2 + 1]? = some (.string ⟨x.2.toArray⟩) := by
    rw [List.flatMap_append, List.getElem?_append_right (by rw [wenc_len]; omega), wenc_len, show pre.length * 2 + 1 - pre.length * 2 = 1 by omega]
    rfl
  rcases h.2 with ⟨hv, h0⟩ | ⟨g, cap, cur, hv, hg, hh, _⟩
  · omega
  · injection hv with e1 e2 e3
    subst e1; subst e3
    exact ⟨g, rfl, (Array.getElem?_eq_some_iff.1 hh).1, by rw [h.cellAt _ (by omega), hx]⟩
theorem info_word : (Tryz.prog.info? 73).map (fun i => (i.zero, i.size, i.bytes)) = some (some (.agg #[.int .i64 0, .string ⟨#[]⟩]), 2, 24) := by kernel_rfl
theorem str_add' (a b : List UInt8) : (⟨a.toArray⟩ : ByteArray) ++ ⟨b.toArray⟩ = ⟨(a ++ b).toArray⟩ := by
  apply ByteArray.ext
  rw [ByteArray.data_append]; simp
theorem one_at (s : ByteArray) (k : Nat) (h : k < s.size) : s.extract k (k + 1) = ⟨[s[k]].toArray⟩ := by
  apply ByteArray.ext
  rw [ByteArray.data_extract]
  apply Array.ext'
  rw [Array.toList_extract]
  have : s.data.toList.drop k = s[k] :: s.data.toList.drop (k + 1) := by
    rw [List.drop_eq_getElem_cons (by simpa using h)]; rfl
  simp [List.extract, this]
theorem byte_at (s : ByteArray) (k : Nat) (h : k < s.size) : s.data.toList[k]? = some s[k] := by
  rw [List.getElem?_eq_getElem (by simpa using h)]; rfl
theorem words_count : ∀ (l : List UInt8) (a : Nat) (w : Option (Nat × List UInt8)), (wordsF l a w).length ≤ l.length + w.toList.length
  | [], _, none => by simp [wordsF]
  | [], _, some w => by simp [wordsF]
  | b :: l, a, none => by
    have h1 := words_count l (a + 1) none
    have h2 := words_count l (a + 1) (some (a, [b]))
    rw [wordsF]; simp at h1 h2 ⊢; split <;> omega
  | b :: l, a, some w => by
    have h1 := words_count l (a + 1) none
    have h2 := words_count l (a + 1) (some (w.1, w.2 ++ [b]))
    rw [wordsF]; simp at h1 h2 ⊢; split
    · rw [List.length_cons]; omega
    · omega
theorem words_bd (l : List UInt8) (k : Nat) : (wordsL (l.take k)).length ≤ k ∧ ∀ x ∈ wordsL (l.take k), x.2.length ≤ k := by
  have h := words_count (l.take k) 0 none
  have hl : (l.take k).length ≤ k := by rw [List.length_take]; omega
  refine ⟨by unfold wordsL; have e : (none : Option (Nat × List UInt8)).toList.length = 0 := rfl; omega, fun x hx => ?_⟩
  have := (words_in (l.take k) 0 none (fun _ e => by cases e) x hx).2.2
  omega
set_option maxRecDepth 100000 in
set_option maxHeartbeats 4000000 in
theorem rwords_any (s : ByteArray) (w : World) (hs : s.size ≤ 256) :
    Calls Tryz.prog 31 #[.string s] w fun e w' => ∃ v, e = .returned v ∧ w'.ownsRow w.heap.size 73 2 v (wordsL s.data.toList).length ((wordsL s.data.toList).flatMap wenc) ∧ Below w.heap.size w w' := by
  obtain ⟨i0, hi, hz0, hz1, hz2⟩ := info_parts info_word
  go_enter Tryz.func31, Tryz.ntmps31
  go_wp2_with fail
  go_loopw [3, 4] (fun v i wr => ∃ k : Nat, k ≤ s.size ∧ i = .int .i64 (k : Int) ∧ wr.ownsRow w.heap.size 73 2 v (wordsL (s.data.toList.take k)).length ((wordsL (s.data.toList.take k)).flatMap wenc) ∧ Below w.heap.size w wr) (fun _ i _ => s.size - (intOf i).toNat)
  case atStart => exact ⟨0, Nat.zero_le _, rfl, World.ownsRow_nil _ _ _ _, Below.refl _ _⟩
  case round =>
    obtain ⟨k, hk, rfl, hrow, hb⟩ := hrel
    obtain ⟨A, c, rfl⟩ := own_slice0 hrow
    by_cases hlt : k < s.size
    · obtain ⟨T1, T2, T3⟩ := words_take (byte_at s k hlt)
      obtain ⟨B1, B2⟩ := words_bd s.data.toList k
      have hle := hb.size
      by_cases hc : s[k] = 32
      · have hW := Lib.hid (T1 hc)
        have hc' : ((s[k].toNat : Int) == 32) = true := by rw [hc]; rfl
        clear T1 T2 T3 hc
        go_wp2_with fail
        go_roundw
        case rel => exact ⟨k + 1, by omega, by go_num, by rw [hW.out]; exact hrow, hb⟩
        case measure => simp [intOf]; omega
      · have hc' : ((s[k].toNat : Int) == 32) = false := by
          rw [beq_eq_false_iff_ne]; intro e; exact hc (by apply UInt8.toNat_inj.1; have : (32 : UInt8).toNat = 32 := rfl; omega)
        by_cases h0 : k = 0
        · subst h0
          have hW := Lib.hid (T2 hc (.inl rfl))
          clear T1 T2 T3 hc
          go_wp2_with (at_builtin; refine wpList_append_own _ rfl _ _ 70 rfl w.heap.size 73 i0 (.agg #[.int .i64 0, .string ⟨#[]⟩]) 2 24 Tryz.underlying70 hi hz0 hz1 hz2 rfl (by decide) _ _ _ rfl (hrow.alloc _) ⟨wr.heap.size, 0, none⟩ 1 1 [.int .i64 0, .string ⟨#[]⟩] rfl rfl (cells_two _ _ _ _) (by simp [Value.oneCell']) (by unfold maxLen; omega) (by omega) (by simp; omega) ?_; intro v' w5 hown5 hgrow5 _)
          obtain ⟨A5, c5, rfl⟩ := own_slice0 hown5
          have hrow5 : w5.ownsRow w.heap.size 73 2 (.slice A5 ((wordsL (s.data.toList.take 0)).length + 1) c5) ((wordsL (s.data.toList.take 0)).length + 1) ((wordsL (s.data.toList.take 0) ++ [(0, [])]).flatMap wenc) := by
            rw [List.flatMap_append]; exact hown5
          clear hown5
          have HB5 := Lib.hid ((hb.alloc hle (.cells #[.int .i64 0, .string ⟨#[]⟩] 73)).grown hgrow5 (by simp; omega) (fun j e => (hrow.lt j e).1))
          clear hgrow5 hb
          generalize hp : wordsL (s.data.toList.take 0) = pre at *
          obtain ⟨g, rfl, hg, k1⟩ := word_cells hrow5
          have f1 := hrow5.frozenAt (pre.length * 2 + 1)
          have Hst := Lib.hid (hrow5.stored (pre.length * 2 + 1) (.string ⟨([] ++ [s[0]]).toArray⟩))
          have Hlo := Lib.hid (fun j e => (hrow5.lt j e).1)
          have Hfs := Lib.hid (word_set pre 0 [] ([] ++ [s[0]]))
          have hx := one_at s 0 hlt
          have ha := str_add' [] [s[0]]
          clear hrow5 hrow B2
          dsimp only at k1
          have hp0 : (0 : Int) ≤ (pre.length : Int) := by omega
          have hp1 : (pre.length : Int) < (pre.length : Int) + 1 := by omega
          go_region
          go_wp2_with fail
          go_roundw
          case rel =>
            refine ⟨0 + 1, by omega, by go_num, ?_, ((HB5.out).grown Hst.out.2 (by have := HB5.out.size; omega) (fun j e => Hlo.out j e)).drew⟩
            rw [hW.out, List.length_append]
            have := Hst.out.1
            rw [Hfs.out] at this
            exact this.drew
          case measure => simp [intOf]; omega
        · obtain ⟨j, rfl⟩ : ∃ j, k = j + 1 := ⟨k - 1, by omega⟩
          have hj : j < s.size := by omega
          have hj0 : (0 : Int) ≤ (j : Int) := by omega
          have hbj := byte_at s j hj
          clear h0
          by_cases hd : s[j] = 32
          · have hW := Lib.hid (T2 hc (.inr (by rw [show j + 1 - 1 = j by omega, hbj, hd])))
            have hd' : ((s[j].toNat : Int) == 32) = true := by rw [hd]; rfl
            clear T1 T2 T3 hc hd hbj B2
            go_wp2_with (at_builtin; refine wpList_append_own _ rfl _ _ 70 rfl w.heap.size 73 i0 (.agg #[.int .i64 0, .string ⟨#[]⟩]) 2 24 Tryz.underlying70 hi hz0 hz1 hz2 rfl (by decide) _ _ _ rfl (hrow.alloc _) ⟨wr.heap.size, 0, none⟩ 1 1 [.int .i64 ((j : Int) + 1), .string ⟨#[]⟩] rfl rfl (cells_two _ _ _ _) (by simp [Value.oneCell']) (by unfold maxLen; omega) (by omega) (by simp; omega) ?_; intro v' w5 hown5 hgrow5 _)
            obtain ⟨A5, c5, rfl⟩ := own_slice0 hown5
            have hrow5 : w5.ownsRow w.heap.size 73 2 (.slice A5 ((wordsL (s.data.toList.take (j + 1))).length + 1) c5) ((wordsL (s.data.toList.take (j + 1))).length + 1) ((wordsL (s.data.toList.take (j + 1)) ++ [(j + 1, [])]).flatMap wenc) := by
              rw [List.flatMap_append]; exact hown5
            clear hown5
            have HB5 := Lib.hid ((hb.alloc hle (.cells #[.int .i64 ((j : Int) + 1), .string ⟨#[]⟩] 73)).grown hgrow5 (by simp; omega) (fun j e => (hrow.lt j e).1))
            clear hgrow5 hb
            generalize hp : wordsL (s.data.toList.take (j + 1)) = pre at *
            obtain ⟨g, rfl, hg, k1⟩ := word_cells hrow5
            have f1 := hrow5.frozenAt (pre.length * 2 + 1)
            have Hst := Lib.hid (hrow5.stored (pre.length * 2 + 1) (.string ⟨([] ++ [s[j + 1]]).toArray⟩))
            have Hlo := Lib.hid (fun j e => (hrow5.lt j e).1)
            have Hfs := Lib.hid (word_set pre (j + 1) [] ([] ++ [s[j + 1]]))
            have hx := one_at s (j + 1) hlt
            have ha := str_add' [] [s[j + 1]]
            clear hrow5 hrow
            dsimp only at k1
            have hp0 : (0 : Int) ≤ (pre.length : Int) := by omega
            have hp1 : (pre.length : Int) < (pre.length : Int) + 1 := by omega
            go_region
            go_wp2_with fail
            go_roundw
            case rel =>
              refine ⟨j + 1 + 1, by omega, by go_num, ?_, ((HB5.out).grown Hst.out.2 (by have := HB5.out.size; omega) (fun j e => Hlo.out j e)).drew⟩
              rw [hW.out, List.length_append]
              have := Hst.out.1
              rw [Hfs.out] at this
              exact this.drew
            case measure => simp [intOf]; omega
          · have hd' : ((s[j].toNat : Int) == 32) = false := by
              rw [beq_eq_false_iff_ne]; intro e; exact hd (by apply UInt8.toNat_inj.1; have : (32 : UInt8).toNat = 32 := rfl; omega)
            obtain ⟨pre, ⟨xa, xt⟩, e1, e2⟩ := T3 hc s[j] (by omega) (by rw [show j + 1 - 1 = j by omega]; exact hbj) hd
            have hW := Lib.hid e2
            have hxt := B2 (xa, xt) (by rw [e1]; simp)
            rw [e1, List.length_append] at hrow B1
            rw [e1, List.length_append]
            simp only [List.length_cons, List.length_nil, Nat.zero_add] at hrow B1 hxt ⊢
            clear T1 T2 T3 hc hd hbj B2 e1 e2
            have hrow5 := hrow
            have HB5 := Lib.hid hb
            clear hb
            go_wp2_with fail
            obtain ⟨g, rfl, hg, k1⟩ := word_cells hrow5
            have f1 := hrow5.frozenAt (pre.length * 2 + 1)
            have Hst := Lib.hid (hrow5.stored (pre.length * 2 + 1) (.string ⟨(xt ++ [s[j + 1]]).toArray⟩))
            have Hlo := Lib.hid (fun j e => (hrow5.lt j e).1)
            have Hfs := Lib.hid (word_set pre xa xt (xt ++ [s[j + 1]]))
            have hx := one_at s (j + 1) hlt
            have ha := str_add' xt [s[j + 1]]
            clear hrow5 hrow
            dsimp only at k1
            have hp0 : (0 : Int) ≤ (pre.length : Int) := by omega
            have hp1 : (pre.length : Int) < (pre.length : Int) + 1 := by omega
            go_region
            go_wp2_with fail
            go_roundw
            case rel =>
              refine ⟨j + 1 + 1, by omega, by go_num, ?_, ((HB5.out).grown Hst.out.2 (by have := HB5.out.size; omega) (fun j e => Hlo.out j e)).drew⟩
              rw [hW.out, List.length_append]
              have := Hst.out.1
              rw [Hfs.out] at this
              exact this.drew
            case measure => simp [intOf]; omega
    · have hk2 : k = s.size := by omega
      have hlast : s.data.toList.take k = s.data.toList := by rw [List.take_of_length_le (by simp; omega)]
      have hlt' : decide ((k : Int) < (s.size : Int)) = false := by simp; omega
      generalize s.data.toList.take k = q at *
      subst hlast
      clear hk2
      go_wp2_with fail
      go_ret
      exact ⟨_, rfl, hrow, hb⟩
end Go.Proofs.YtmjjdccpnepjjaaGreatDoor
