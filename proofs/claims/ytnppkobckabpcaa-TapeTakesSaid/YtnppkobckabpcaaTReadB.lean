/- The reader of bytes. -/
import Derived.Test.YtnppkobckabpcaaTReads
namespace Go.Proofs.Ytnppkobckabpcaa
open Go.RowKit

/-- What TakeBytes reads. -/
def bytesR (bs : List Nat) (m : Int) : List Nat × Nat × Int :=
  if (rdS bs).2.2 ≠ 0 then ([], 0, ((rdS bs).2.2 : Int))
  else if m < 0 ∨ m < ((rdS bs).1 : Int) then ([], 0, 3)
  else if bs.length < (rdS bs).2.1 + (rdS bs).1 then ([], 0, 7)
  else ((bs.drop (rdS bs).2.1).take (rdS bs).1, (rdS bs).2.1 + (rdS bs).1, 0)
theorem RowB.mid {w : World} {B n c : Nat} {A : Option Addr} {bs : List Nat} (h : RowB w B A n c bs) {k j : Nat} (hk : k + j ≤ n) : RowB w B (if c = k then A else A.map (·.add k)) j (c - k) ((bs.drop k).take j) :=
  (h.drop (k := k) (by omega)).take (by omega)
set_option maxRecDepth 100000 in
set_option maxHeartbeats 2000000 in
theorem bytes1_any (A : Option Addr) (n c P : Nat) (m : Int) (bs : List Nat) (w : World) (h : RowB w w.heap.size A n c bs) (hn : n ≤ 16384) (hm : m ≤ 9223372036854775807) (hP : w.cell? ⟨P, 0, none⟩ = some (.int .i64 m)) :
    Calls Try.prog 52 #[.slice A n c, .pointer (some ⟨P, 0, none⟩)] w (ReadIs w (.bytes (bytesR bs m).1) (bytesR bs m).2.1 (bytesR bs m).2.2) := by
  have hs := short_any A n c w.heap.size bs w h
  unfold ShortIs at hs
  unfold bytesR
  have hf := rd_facts bs
  have hu := rd_u64 h.byte
  have hl := h.len
  have hcap := h.cap
  rw [hl] at hf ⊢
  have H := Lib.hid h
  generalize (rdS bs).1 = x at *
  generalize (rdS bs).2.1 = s at *
  generalize (rdS bs).2.2 = e at *
  have Hs := Lib.hid hs
  have hsn := hf.1
  clear h hs hf
  by_cases he : e = 0
  · subst he
    rw [if_neg (fun h => h rfl)]
    by_cases hneg : m < 0
    · rw [if_pos (.inl hneg)]
      have hd : decide (m < 0) = true := by simpa using hneg
      have Hm := Lib.hid hneg; have Hu := Lib.hid hu
      clear hneg hu hm
      go_enter Try.func52, Try.ntmps52
      go_wp2_with fail
      refine Hs.out.mono ?_; rintro e w' ⟨rfl, rfl⟩
      go_wp2_with fail
      go_ret3
      exact ⟨_, rfl, OwnB.nil _ _, Below.refl _ _⟩
    · have hd : decide (m < 0) = false := by simp; omega
      have hm0 : 0 ≤ m := by omega
      by_cases hmx : m < (x : Int)
      · rw [if_pos (.inr hmx)]
        have hd2 : decide (m < (x : Int)) = true := by simpa using hmx
        have Hm := Lib.hid hneg; have Hu := Lib.hid hu; have Hx := Lib.hid hmx
        clear hneg hu hmx
        go_enter Try.func52, Try.ntmps52
        go_wp2_with fail
        refine Hs.out.mono ?_; rintro e w' ⟨rfl, rfl⟩
        go_wp2_with fail
        go_ret3
        exact ⟨_, rfl, OwnB.nil _ _, Below.refl _ _⟩
      · rw [if_neg (by rintro (h | h); · exact hneg h
                       · exact hmx h)]
        have hd2 : decide (m < (x : Int)) = false := by simpa using hmx
        by_cases hsh : n < s + x
        · rw [if_pos hsh]
          have hd3 : decide ((n : Int) - (s : Int) < (x : Int)) = true := by simp; omega
          have Hm := Lib.hid hneg; have Hu := Lib.hid hu; have Hx := Lib.hid hmx; have Hh := Lib.hid hsh
          clear hneg hu hmx hsh
          go_enter Try.func52, Try.ntmps52
          go_wp2_with fail
          refine Hs.out.mono ?_; rintro e w' ⟨rfl, rfl⟩
          go_wp2_with fail
          go_ret3
          exact ⟨_, rfl, OwnB.nil _ _, Below.refl _ _⟩
        · rw [if_neg hsh]
          have hd3 : decide ((n : Int) - (s : Int) < (x : Int)) = false := by simp; omega
          have hx1 : x ≤ 16384 := by omega
          have hsx : s + x ≤ n := by omega
          have d0 := Lib.hid (H.out.mid hsx)
          have Hm := Lib.hid hneg; have Hu := Lib.hid hu; have Hx := Lib.hid hmx; have Hh := Lib.hid hsh
          have t1 : (((s : Int) + (x : Int)).toNat - s) = x := by omega
          clear hneg hu hmx hsh
          have T1 := Lib.hid t1
          clear t1
          go_enter Try.func52, Try.ntmps52
          go_wp2_with fail
          refine Hs.out.mono ?_; rintro e w' ⟨rfl, rfl⟩
          go_wp2_with fail
          · have hcs : c = s := by assumption
            have hr := d0.out
            rw [if_pos hcs, show c - s = 0 by omega] at hr
            refine (clone_bytes A x 0 _ w hr (by omega)).mono ?_; rintro e w' ⟨v, rfl, ho, hb⟩
            go_wp2_with fail
            go_ret3
            exact ⟨v, rfl, ho, hb⟩
          · have hcs : ¬ c = s := by assumption
            have hr := d0.out
            rw [if_neg hcs] at hr
            refine (clone_bytes _ x (c - s) _ w hr (by omega)).mono ?_; rintro e w' ⟨v, rfl, ho, hb⟩
            go_wp2_with fail
            go_ret3
            exact ⟨v, rfl, ho, hb⟩
  · rw [if_pos he]
    have hd : ((e : Int) != 0) = true := by simp; omega
    have He := Lib.hid he; have Hu := Lib.hid hu
    clear he hu hm
    go_enter Try.func52, Try.ntmps52
    go_wp2_with fail
    refine Hs.out.mono ?_; rintro e w' ⟨rfl, rfl⟩
    go_wp2_with fail
    go_ret3
    exact ⟨_, rfl, OwnB.nil _ _, Below.refl _ _⟩
end Go.Proofs.Ytnppkobckabpcaa
