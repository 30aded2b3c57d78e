/- value: the number of digits. -/
import Derived.Test.YtnhbkfmaaannnaaDoorETextR
namespace Go.Proofs.YtnhbkfmaaannnaaDoor
open Go.RowKit

theorem take_snoc8 (s : ByteArray) (k : Nat) (h : k < s.size) : s.data.toList.take (k + 1) = s.data.toList.take k ++ [s[k]] := by
  rw [List.take_succ_eq_append_getElem (by simpa using h)]; rfl
theorem digs_snoc (l : List UInt8) (b : UInt8) : digs (l ++ [b]) = (digs l && isDg b) := by unfold digs; simp
theorem digs_take {l : List UInt8} (h : digs l = true) (k : Nat) : digs (l.take k) = true := by
  unfold digs at *
  rw [List.all_eq_true] at *
  exact fun x hx => h x (List.mem_of_mem_take hx)
set_option maxRecDepth 100000 in
theorem value_yes (s : ByteArray) (w : World) (hs : s.size ≤ 4) (hd : digs s.data.toList = true) :
    Calls Tryd.prog 43 #[.string s] w fun e w' => e = .returned (.tuple #[.int .i64 (valL s.data.toList : Nat), .bool true]) ∧ w = w' := by
  have HD := Lib.hid hd
  clear hd
  go_enter Tryd.func43, Tryd.ntmps43
  go_wp2_with fail
  go_loop [4, 8] (fun n i => ∃ k : Nat, k ≤ s.size ∧ i = .int .i64 k ∧ n = .int .i64 ((valL (s.data.toList.take k) : Nat) : Int)) (fun _ i => s.size - (intOf i).toNat)
  case atStart => exact ⟨0, Nat.zero_le _, rfl, rfl⟩
  case round =>
    obtain ⟨k, hk, rfl, rfl⟩ := hrel
    have hv := valL_small (digs_take HD.out k) (by rw [List.length_take]; omega)
    by_cases hlt : k < s.size
    · have hts := take_snoc8 s k hlt
      have hdg := digs_take HD.out (k + 1)
      rw [hts, digs_snoc, Bool.and_eq_true] at hdg
      obtain ⟨c0, c1⟩ : 48 ≤ s[k].toNat ∧ s[k].toNat ≤ 57 := by have := hdg.2; unfold isDg at this; simpa using this
      have hvs := valL_snoc (s.data.toList.take k) s[k]
      rw [← hts] at hvs
      have HV := Lib.hid hvs
      clear hts hdg hvs
      generalize valL (s.data.toList.take k) = v at *
      have g0 : (48 : Int) ≤ (s[k].toNat : Int) := by omega
      have g1 : (s[k].toNat : Int) ≤ 57 := by omega
      have g2 : decide ((s[k].toNat : Int) < 48) = false := by simp; omega
      have g3 : decide (57 < (s[k].toNat : Int)) = false := by simp; omega
      have v1 : (v : Int) < 10000 := by omega
      clear c0 c1
      go_wp2_with fail
      go_round
      case rel => exact ⟨k + 1, by omega, by go_num, by rw [HV.out]; congr 1; omega⟩
      case measure => simp [intOf]; omega
    · have hk2 : k = s.size := by omega
      have hlast : valL (s.data.toList.take k) = valL s.data.toList := by rw [List.take_of_length_le (by simp; omega)]
      have HLS := Lib.hid hlast
      have hlt' : decide ((k : Int) < (s.size : Int)) = false := by simp; omega
      clear hlast hk2
      generalize valL (s.data.toList.take k) = v at *
      go_wp2_with fail
      go_ret2
      exact ⟨by rw [HLS.out]; rfl, rfl⟩
set_option maxRecDepth 100000 in
theorem value_no (s : ByteArray) (w : World) (hs : s.size ≤ 4) (hd : ¬ digs s.data.toList = true) :
    Calls Tryd.prog 43 #[.string s] w fun e w' => e = .returned (.tuple #[.int .i64 0, .bool false]) ∧ w = w' := by
  have HD := Lib.hid hd
  clear hd
  go_enter Tryd.func43, Tryd.ntmps43
  go_wp2_with fail
  go_loop [4, 8] (fun n i => ∃ k : Nat, k ≤ s.size ∧ i = .int .i64 k ∧ digs (s.data.toList.take k) = true ∧ n = .int .i64 ((valL (s.data.toList.take k) : Nat) : Int)) (fun _ i => s.size - (intOf i).toNat)
  case atStart => exact ⟨0, Nat.zero_le _, rfl, rfl, rfl⟩
  case round =>
    obtain ⟨k, hk, rfl, hdk, rfl⟩ := hrel
    have hv := valL_small hdk (by rw [List.length_take]; omega)
    by_cases hlt : k < s.size
    · have hts := take_snoc8 s k hlt
      have hvs := valL_snoc (s.data.toList.take k) s[k]
      rw [← hts] at hvs
      have hdn : digs (s.data.toList.take (k + 1)) = isDg s[k] := by rw [hts, digs_snoc, hdk]; rfl
      have HV := Lib.hid hvs; have HDN := Lib.hid hdn
      clear hts hvs hdn hdk
      generalize valL (s.data.toList.take k) = v at *
      have v1 : (v : Int) < 10000 := by omega
      by_cases hc : 48 ≤ s[k].toNat ∧ s[k].toNat ≤ 57
      · obtain ⟨c0, c1⟩ := hc
        have HDG := Lib.hid (show isDg s[k] = true by unfold isDg; simp [c0, c1])
        have g0 : (48 : Int) ≤ (s[k].toNat : Int) := by omega
        have g1 : (s[k].toNat : Int) ≤ 57 := by omega
        have g2 : decide ((s[k].toNat : Int) < 48) = false := by simp; omega
        have g3 : decide (57 < (s[k].toNat : Int)) = false := by simp; omega
        clear c0 c1
        go_wp2_with fail
        go_round
        case rel => exact ⟨k + 1, by omega, by go_num, by rw [HDN.out, HDG.out], by rw [HV.out]; congr 1; omega⟩
        case measure => simp [intOf]; omega
      · have hcc : s[k].toNat < 48 ∨ 57 < s[k].toNat := by omega
        clear hc
        rcases hcc with hcc | hcc
        · have g2 : decide ((s[k].toNat : Int) < 48) = true := by simp; omega
          go_wp2_with fail
          go_ret2
          exact ⟨rfl, rfl⟩
        · have g2 : decide ((s[k].toNat : Int) < 48) = false := by simp; omega
          have g3 : decide (57 < (s[k].toNat : Int)) = true := by simp; omega
          go_wp2_with fail
          go_ret2
          exact ⟨rfl, rfl⟩
    · exfalso
      rw [List.take_of_length_le (by simp; omega)] at hdk
      exact HD.out hdk
end Go.Proofs.YtnhbkfmaaannnaaDoor
