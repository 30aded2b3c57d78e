/- Seal. -/
import Derived.Test.YtcfeijphiallfaaCNumber
namespace Go.Proofs.Ytcfeijphiallfaa
open Go.RowKit

theorem make_u8 (n c : Nat) (hnc : n ≤ c) (hc : c ≤ 100000) : ∃ zs : Array Value, zs.size = c ∧ (∀ j, j < c → zs[j]? = some (bv 0)) ∧ ∀ W : World, (Instr.makeSlice 24 (.int .i64 (n : Int)) (.int .i64 (c : Int))).run Try.prog W = .ok (.slice (some ⟨W.heap.size, 0, none⟩) n c) (W.alloc (.cells zs 5)) := by
  obtain ⟨i0, hi, hz0, hz1, hz2⟩ := info_parts (show (Try.prog.info? 5).map (fun i => (i.zero, i.size, i.bytes)) = some (some (.int .u8 0), 1, 1) by kernel_rfl)
  refine ⟨madeCells #[.int .u8 0] c, by rw [size_madeCells], fun j hj => ?_, fun W => ?_⟩
  · have : (madeCells #[.int .u8 0] c).toList[j]? = some (bv 0) := by
      rw [toList_madeCells_one, List.getElem?_replicate, if_pos hj]; rfl
    simpa using this
  · have h := run_make (P := Try.prog) W 24 5 i0 (.int .u8 0) Try.underlying24 hi hz0 .i64 .i64 (n : Int) (c : Int) (by omega) (by omega) (by rw [hz2]; omega) (by omega)
    rw [hz1, Nat.mul_one, Int.toNat_natCast, Int.toNat_natCast] at h
    exact h
/-- What lies at the head of a block is a row of one's own. -/
theorem OwnB.head {w : World} {base g c : Nat} {cs : Array Value} {bs : List Nat} (hb : base ≤ g) (hx : Box w g 5 cs) (hs : cs.size = c) (hn : bs.length ≤ c) (hc : c ≤ maxLen) (hby : ∀ x ∈ bs, x < 256) (hat : ∀ j, j < bs.length → cs[j]? = some (bv (nthB bs j))) :
    OwnB w base (.slice (some ⟨g, 0, none⟩) bs.length c) bs := by
  refine ⟨⟨by simp, .inr ⟨g, c, cs, rfl, hb, hx, hn, hc, by omega, ?_⟩⟩, hby⟩
  apply List.ext_getElem?
  intro j
  by_cases hj : j < bs.length
  · rw [List.getElem?_take, if_pos (by omega), bv_at bs j hj]
    simpa using hat j hj
  · rw [List.getElem?_eq_none (by rw [List.length_take]; omega), List.getElem?_eq_none (by rw [List.length_map]; omega)]
theorem copy_bytes {w : World} {ops : Array Oper} {rest : List Oper} {o : Oper} {a : Act} {Q : Exit → Act → World → Prop} (hgd : o.guard = none) (d s : Operand)
    (ho : o.op = .call { callee := .builtin .copy, args := #[d, s], argTypes := #[24, 24] })
    (g dLen dCap : Nat) (hd : a.eval d = .slice (some ⟨g, 0, none⟩) dLen dCap) (B : Nat) (A : Option Addr) (n c : Nat) (bs : List Nat) (hs : a.eval s = .slice A n c) (hr : RowB w B A n c bs)
    (k : Nat) (hk : k = min n dLen) (cur : Array Value) (hx : Box w g 5 cur) (hcur : dLen ≤ cur.size)
    (h : ∀ w' cs', Hid (Box w' g 5 cs') → Hid (cs'.size = cur.size) → Hid (∀ j, j < k → cs'[j]? = some (bv (nthB bs j))) → Hid (Below g w w') → wpList Try.prog ops Q rest (a.put o.dst (goInt k)) w') : wpList Try.prog ops Q (o :: rest) a w := by
  have hlen : ((bs.take k).map bv).length = k := by rw [List.length_map, List.length_take, hr.len]; omega
  refine wpList_copy_splice hgd d s 24 24 ho 5 Try.underlying24 (by kernel_rfl) _ _ dLen dCap n c hd hs g 0 cur.toList 5 hx ((bs.take k).map bv) (by rw [hlen, hk]) (fun hp => ⟨rfl, ?_⟩) (by rw [hlen, Array.length_toList]; omega) (fun v hv => by obtain ⟨x, _, rfl⟩ := List.mem_map.1 hv; rfl) g w (Below.refl _ _) (Nat.le_refl _) ?_
  · obtain ⟨b, o, rfl, _, _⟩ := hr.at_ 0 (by omega)
    refine ⟨_, rfl, fun j v hj => ?_⟩
    have hjk : j < k := by rw [← hlen]; exact (List.getElem?_eq_some_iff.1 hj).1
    obtain ⟨b2, o2, e, _, hc⟩ := hr.at_ j (by omega)
    cases e
    rw [add_none, hc, ← hj, bv_at _ _ (by rw [List.length_take, hr.len]; omega), nthB_take _ _ _ hjk]
  · intro w' hg hb
    rw [hlen]
    refine h w' _ hg (show _ = _ from ?_) (show ∀ j, j < k → _ from fun j hj => ?_) hb
    · rw [List.size_toArray, length_splice _ _ _ (by rw [hlen, Array.length_toList]; omega), Array.length_toList]
    · unfold splice
      rw [List.take_zero, List.nil_append, List.getElem?_toArray, List.getElem?_append_left (by omega), bv_at _ _ (by rw [List.length_take, hr.len]; omega), nthB_take _ _ _ hj]

theorem gr_alloc' {w w1 : World} (h : Below w.heap.size w w1) (o : Obj) : Below w.heap.size w (w1.alloc o) := h.alloc h.size o
/-- The first k of a number's four bytes. -/
theorem le4_take (x k : Nat) (h : k < 4) : (le4 x).take (k + 1) = (le4 x).take k ++ [x / 2 ^ (8 * k) % 256] := by
  unfold le4
  rcases (show k = 0 ∨ k = 1 ∨ k = 2 ∨ k = 3 by omega) with rfl | rfl | rfl | rfl <;> simp
set_option maxRecDepth 100000 in
set_option maxHeartbeats 1000000 in
theorem seal_any (A : Option Addr) (n c : Nat) (bs : List Nat) (w : World) (h : RowB w w.heap.size A n c bs) (hn : n ≤ 90000) :
    Calls Try.prog 16 #[.slice A n c] w fun e w' => ∃ v, e = .returned v ∧ OwnB w' w.heap.size v (sealOf bs) ∧ Below w.heap.size w w' := by
  obtain ⟨zs, hzs, hz0, hmk⟩ := make_u8 n (n + 4) (by omega) (by omega)
  rw [Int.natCast_add, show ((4 : Nat) : Int) = 4 from rfl] at hmk
  have HZ := Lib.hid hzs
  clear hzs hz0
  have hx := h.len
  have H := Lib.hid h; have HX := Lib.hid hx
  clear h hx
  go_enter Try.func16, Try.ntmps16
  have hb1 : Below w.heap.size w (w.alloc (.cells zs 5)) := (Below.refl _ w).alloc (Nat.le_refl _) _
  have hrow1 := H.out.below hb1
  have hbox1 : Box (w.alloc (.cells zs 5)) w.heap.size 5 zs := Box.new _ _ _
  have HB1 := Lib.hid hb1; have HR1 := Lib.hid hrow1; have HK1 := Lib.hid hbox1
  clear hb1 hrow1 hbox1
  go_wp2_with (refine copy_bytes rfl _ _ rfl w.heap.size n (n + 4) rfl w.heap.size A n c bs rfl HR1.out n (by omega) zs HK1.out (by rw [HZ.out]; omega) ?_; intro w2 cs2 hbox2 hsz2 hat2 hb2)
  have hsz : w.heap.size ≤ w2.heap.size := Nat.le_trans HB1.out.size hb2.out.size
  have hown : OwnB w2 w.heap.size (.slice (some ⟨w.heap.size, 0, none⟩) bs.length (n + 4)) bs := OwnB.head (Nat.le_refl _) hbox2.out (hsz2.out.trans HZ.out) (by rw [HX.out]; omega) (by unfold maxLen; omega) H.out.byte (fun j hj => hat2.out j (by rw [HX.out] at hj; exact hj))
  rw [HX.out] at hown
  have hb2' : Below w.heap.size w w2 := HB1.out.trans hb2.out
  have hrow2 : RowB w2 w2.heap.size A n c bs := (H.out.below hb2').mono hsz
  have HO := Lib.hid hown; have HB2 := Lib.hid hb2'; have HS := Lib.hid hsz
  clear hown hb2' hsz hmk
  refine (sum_any A n c bs w2 hrow2).mono ?_; rintro e w3 ⟨rfl, hb3⟩
  have ho3 := HO.out.below hb3
  have hbel3 : Below w.heap.size w w3 := HB2.out.trans (hb3.mono HS.out)
  have HO3 := Lib.hid ho3; have HB3 := Lib.hid hbel3
  have hS : sumOf bs < 4294967296 := sumOf_lt H.out.byte
  clear ho3 hbel3 hb3 hrow2 HO HB2 HS hb2 hat2 hsz2 hbox2 HK1 HR1 HB1 HZ
  generalize hSe : sumOf bs = S at *
  have HSE := Lib.hid hSe
  clear hSe
  go_wp2_with fail
  go_loopw [3, 17] (fun v i wr => ∃ k : Nat, k ≤ 4 ∧ i = .int .i64 k ∧ OwnB wr w.heap.size v (bs ++ (le4 S).take k) ∧ Below w.heap.size w wr) (fun _ i _ => 4 - (intOf i).toNat)
  case atStart => exact ⟨0, Nat.zero_le _, rfl, by simpa using HO3.out, HB3.out⟩
  case round =>
    obtain ⟨k, hk, rfl, ho, hb⟩ := hrel
    have HO := Lib.hid ho; have HB := Lib.hid hb
    clear ho hb HO3 HB3
    by_cases hlt : k < 4
    · have h0 : (0 : Int) ≤ (k : Int) := by omega
      have h1 : (k : Int) < 4 := by omega
      have hz : (S : Int) / 2 ^ (k * 8) % 256 = ((S / 2 ^ (8 * k) % 256 : Nat) : Int) := by rw [Int.natCast_emod, Int.natCast_ediv, Int.natCast_pow, Nat.mul_comm k 8]; rfl
      have hm : S / 2 ^ (8 * k) % 256 < 256 := Nat.mod_lt _ (by omega)
      have ha := HO.out.alloc (.cells #[.int .u8 ((S : Int) / 2 ^ (k * 8) % 256)] 5)
      have hr := RowB.fresh wr (z := (S : Int) / 2 ^ (k * 8) % 256) _ hm hz
      have HA := Lib.hid ha; have HR := Lib.hid hr; have HZ := Lib.hid hz
      have hlen : (bs ++ (le4 S).take k).length + 1 ≤ 140737488355328 := by rw [List.length_append, HX.out, List.length_take]; omega
      have hle : w.heap.size ≤ wr.heap.size := HB.out.size
      have HL := Lib.hid hlen; have HLE := Lib.hid hle
      clear ha hr hz hlen hle
      go_wp2_with (at_builtin; refine append_row rfl _ _ rfl w.heap.size _ (bs ++ (le4 S).take k) rfl HA.out (wr.heap.size + 1) (some ⟨wr.heap.size, 0, none⟩) 1 1 [S / 2 ^ (8 * k) % 256] rfl HR.out HL.out (by have := HLE.out; simp; omega) ?_; intro v5 w5 hown5 hgrow5)
      have hb5 := below_grown (gr_alloc' HB.out (.cells #[.int .u8 ((S : Int) / 2 ^ (k * 8) % 256)] 5)) HA.out hgrow5 (by have := HLE.out; simp; omega)
      have HO5 := Lib.hid hown5; have HB5 := Lib.hid hb5
      clear hown5 hb5 hgrow5
      go_wp2_with fail
      go_roundw
      case rel => exact ⟨k + 1, by omega, by go_num, by rw [le4_take _ _ hlt, ← List.append_assoc]; exact HO5.out, HB5.out⟩
      case measure => simp [intOf]; omega
    · obtain rfl : k = 4 := by omega
      go_wp2_with fail
      go_ret
      refine ⟨_, rfl, ?_, HB.out⟩
      unfold sealOf
      rw [HSE.out]
      have := HO.out
      rwa [show (le4 S).take 4 = le4 S by rfl] at this
end Go.Proofs.Ytcfeijphiallfaa
