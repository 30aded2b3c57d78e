/- CrcSums, walked. -/
import Derived.Test.YtcfeijphiallfaaCTurned
import Derived.Test.YtcfeijphiallfaaCRows
import Derived.Deep.CutBlock
namespace Go.Proofs.Ytcfeijphiallfaa
open Go.RowKit

theorem sum_nil : sumOf [] = 0 := by decide
set_option maxRecDepth 100000 in
set_option maxHeartbeats 1000000 in
theorem sums_walk (A : Option Addr) (n c : Nat) (W : World) (h : RowsB W W.heap.size A n) (hn : n ≤ 9223372036854775807) :
    Calls Try.prog 3 #[.slice A n c] W fun e W' => e = .returned (.bool true) ∧ Below W.heap.size W W' := by
  have H := Lib.hid h; have HN := Lib.hid hn
  clear h hn
  go_enter Try.func3, Try.ntmps3
  go_wp2_with fail
  refine (wakes_any W).mono ?_; rintro e w1 ⟨rfl, hb1⟩
  have B1 := Lib.hid hb1
  clear hb1
  go_upto_block 0 with fail
  go_cut [3, 4, 5, 6, 7] from 14 to 48 (fun s3 s4 s5 s6 s7 wx => Below W.heap.size W wx)
  case first =>
    go_wp2_with fail
    go_loopw [3, 4, 14] (fun v s i wr => ∃ (k : Nat) (acc : List Nat), k ≤ n ∧ k ≤ 8 ∧ i = .int .i64 k ∧ OwnB wr W.heap.size v acc ∧ acc.length ≤ 3000 * k ∧ s = .int .u32 (sumOf acc : Nat) ∧ Below W.heap.size W wr) (fun _ _ i _ => n - (intOf i).toNat)
    case atStart => exact ⟨0, [], by omega, by omega, rfl, OwnB.nil _ _, by simp, by rw [sum_nil]; rfl, B1.out⟩
    case round =>
      obtain ⟨k, acc, hk, hk8, rfl, ho, hal, rfl, hb⟩ := hrel
      have HO := Lib.hid ho; have HB := Lib.hid hb; have HAL := Lib.hid hal
      clear ho hal B1
      have hn := HN.out
      by_cases hlt : k < n
      · obtain ⟨g, o, A', m, d, bs, rfl, hg, hcell, hrow⟩ := (H.out.below hb) k hlt
        have k0 : (0 : Int) ≤ (k : Int) := by omega
        have k1 : (k : Int) < (n : Int) := by omega
        by_cases h8 : k = 8
        · subst h8
          clear hb
          go_wp2_with fail
          go_meet
          exact HB.out
        · have h8' : ((k : Int) == 8) = false := by simp; omega
          have R := Lib.hid hrow
          have Z := Lib.hid hb.size
          clear hb hrow
          go_wp2_with fail
          refine (few_any A' m d bs wr (R.out.mono Z.out)).mono ?_; rintro e w2 ⟨v2, rfl, ho2, hb2⟩
          obtain ⟨l, hl⟩ : ∃ l, l = bs.take 3000 := ⟨_, rfl⟩
          have hll : l.length ≤ 3000 := by rw [hl, List.length_take]; omega
          rw [← hl] at ho2
          obtain ⟨A2, c2, rfl, r2⟩ := ho2.row
          have O2 := Lib.hid ho2; have R2 := Lib.hid r2; have HA2 := Lib.hid (HO.out.below hb2)
          have B2 := Lib.hid (hb2.mono Z.out); have Z2 := Lib.hid (Nat.le_trans Z.out hb2.size)
          have HLL := Lib.hid hll; have HL := Lib.hid hl
          have HBK := Lib.hid (fun k e => (HO.out.1.lt k e).2)
          clear ho2 hb2 r2 hll hl HO
          go_wp2_with (at_builtin; refine append_row rfl _ _ rfl W.heap.size _ acc rfl HA2.out w2.heap.size A2 l.length c2 l rfl R2.out (by have := HAL.out; have := HLL.out; omega) Z2.out ?_; intro v5 w5 hown5 hgrow5)
          have O5 := Lib.hid hown5
          have L5 := Lib.hid (O2.out.grown hgrow5 HBK.out)
          have B5 := Lib.hid (below_grown B2.out HA2.out hgrow5 Z2.out)
          have Z5 := Lib.hid (Nat.le_trans Z2.out hgrow5.size)
          clear hown5 hgrow5 HA2 R2 O2 B2 Z2 HBK
          have hsl : sumOf acc < 4294967296 := sumOf_lt (fun x hx => O5.out.2 x (List.mem_append.2 (.inl hx)))
          have hae : moreOf (sumOf acc) l = sumOf (acc ++ l) := more_sum acc l
          obtain ⟨S, hS⟩ : ∃ S, S = sumOf (acc ++ l) := ⟨_, rfl⟩
          have hal : (acc ++ l).length ≤ 3000 * (k + 1) := by rw [List.length_append]; have := HAL.out; have := HLL.out; omega
          have HAL5 := Lib.hid hal
          rw [← hS] at hae
          have HAE := Lib.hid hae; have HS := Lib.hid hS
          clear hae hS hal
          generalize acc ++ l = acc5 at *
          obtain ⟨A5, c5, he5, r5⟩ := L5.out.row
          cases he5
          have R5 := Lib.hid r5
          clear r5
          go_wp2_with fail
          refine (more_any (sumOf acc) A2 l.length c2 l w5 R5.out hsl).mono ?_; rintro e w6 ⟨rfl, hb6⟩
          rw [HAE.out]
          have O6 := Lib.hid (O5.out.below hb6); have L6 := Lib.hid ((R5.out.below hb6).mono hb6.size); have B6 := Lib.hid (B5.out.trans (hb6.mono Z5.out)); have Z6 := Lib.hid (Nat.le_trans Z5.out hb6.size)
          clear hb6 O5 L5 R5 B5 Z5
          go_wp2_with fail
          refine (sum_any A2 l.length c2 l w6 L6.out).mono ?_; rintro e w7 ⟨rfl, hb7⟩
          have O7 := Lib.hid (O6.out.below hb7); have L7 := Lib.hid ((L6.out.below hb7).mono hb7.size); have B7 := Lib.hid (B6.out.trans (hb7.mono Z6.out)); have Z7 := Lib.hid (Nat.le_trans Z6.out hb7.size)
          clear hb7 O6 L6 B6 Z6
          go_wp2_with fail
          refine (few_any A' m d bs w7 ((R.out.below B7.out).mono Z7.out)).mono ?_; rintro e w8 ⟨v8, rfl, ho8, hb8⟩
          rw [← HL.out] at ho8
          obtain ⟨A8, c8, rfl, r8⟩ := ho8.row
          have O8 := Lib.hid (O7.out.below hb8); have L8 := Lib.hid ((L7.out.below hb8).mono hb8.size); have B8 := Lib.hid (B7.out.trans (hb8.mono Z7.out)); have Z8 := Lib.hid (Nat.le_trans Z7.out hb8.size); have R8 := Lib.hid r8
          clear ho8 r8 hb8 O7 L7 B7 Z7
          go_wp2_with fail
          refine (rsum_any A8 l.length c8 _ l w8 R8.out).mono ?_; rintro e w9 ⟨rfl, rfl⟩
          obtain ⟨A9, c9, he9, r9⟩ := O8.out.row
          subst he9
          have R9 := Lib.hid r9
          clear r9 R8
          go_wp2_with fail
          refine (rsum_any A9 acc5.length c9 _ acc5 w8 R9.out).mono ?_; rintro e w10 ⟨rfl, rfl⟩
          rw [← HS.out]
          go_wp2_with fail
          refine (few_any A' m d bs w8 ((R.out.below B8.out).mono Z8.out)).mono ?_; rintro e w11 ⟨v11, rfl, ho11, hb11⟩
          rw [← HL.out] at ho11
          obtain ⟨A11, c11, rfl, r11⟩ := ho11.row
          have O11 := Lib.hid (O8.out.below hb11); have L11 := Lib.hid ((L8.out.below hb11).mono hb11.size); have B11 := Lib.hid (B8.out.trans (hb11.mono Z8.out)); have Z11 := Lib.hid (Nat.le_trans Z8.out hb11.size); have R11 := Lib.hid r11
          clear ho11 r11 hb11 O8 L8 B8 Z8 R9
          go_wp2_with fail
          refine (same_bytes A2 A11 l.length c2 c11 _ _ l w11 L11.out R11.out).mono ?_; rintro e w12 ⟨rfl, q, rfl⟩
          have O12 := Lib.hid (O11.out.drewN q); have B12 := Lib.hid (below_drew (HB.out.trans B11.out) q)
          clear O11 L11 B11 R11 Z11
          generalize w11.drewN q = w12 at *
          have k8 : (k : Int) ≤ 8 := by omega
          go_wp2_with fail
          go_roundw
          case rel => exact ⟨k + 1, acc5, by omega, by omega, by go_num, O12.out, HAL5.out, by rw [← HS.out], B12.out⟩
          case measure => simp [intOf]; omega
      · obtain rfl : k = n := by omega
        clear hb hlt
        go_wp2_with fail
        go_meet
        exact HB.out
  case rest =>
    have HC := Lib.hid hcut
    clear hcut B1
    obtain ⟨hz, hi⟩ := zero_of_info (P := Try.prog) (t := 30) (v := .agg (Array.replicate 256 (.int .u32 0))) (n := 256) (by kernel_rfl)
    rw [← tabK_zero] at hz
    have Hi := Lib.hid hi
    clear hi
    go_wp2_with fail
    refine (table_any wc).mono ?_; rintro e w2 ⟨rfl, hb2⟩
    have B2 := Lib.hid (HC.out.trans (hb2.mono HC.out.size))
    have Z2 := Lib.hid B2.out.size
    clear hb2 HC
    go_wp2_with fail
    have hbx : Box (w2.alloc (.cells (tabK 0) 30)) w2.heap.size 30 (tabK 0) := Box.new _ _ _
    simp only [run_storeCells_box hbx (show (tabK 0).size = (tabK 256).size by rw [tabK_size, tabK_size]) (tabK_one 256), Result.andThen_ok]
    rw [Oper.upon_skip]
    have hb3 := Lib.hid (below_setRow (gr_alloc B2.out (.cells (tabK 0) 30)) Z2.out (tabK 256))
    have hx3 := Lib.hid (hbx.setRow (tabK 256))
    clear hbx B2
    generalize (w2.alloc (.cells (tabK 0) 30)).setRow w2.heap.size (tabK 256) = w3 at *
    go_wp2_with fail
    go_loopw [50] (fun i wr => ∃ k : Nat, k ≤ 256 ∧ i = .int .i64 k ∧ ∃ q, wr = w3.drewN q) (fun i _ => 256 - (intOf i).toNat)
    case atStart => exact ⟨0, by omega, rfl, 0, rfl⟩
    case round =>
      obtain ⟨k, hk, rfl, q, rfl⟩ := hrel
      by_cases hlt : k < 256
      · have hc := (hx3.out.drewN q).cell k
        rw [tabK_at hlt, if_pos hlt] at hc
        unfold u32v at hc
        have k0 : (0 : Int) ≤ (k : Int) := by omega
        have k1 : (k : Int) < 256 := by omega
        have he : ∀ w, Calls Try.prog 15 #[.int .u32 (k : Int)] w _ := fun w => eight_any k w (by omega)
        have HE := Lib.hid he
        clear he
        have hkw : IntKind.u32.wrap (k : Int) = (k : Int) := by rw [IntKind.wrap_u32]; omega
        generalize eN 8 k = y at *
        go_wp2_with fail
        obtain ⟨wq, hwq⟩ : ∃ wq, wq = w3.drewN q := ⟨_, rfl⟩
        have HWQ : Hid (∃ q, wq = w3.drewN q) := ⟨q, hwq⟩
        rw [← hwq] at hc ⊢
        clear hwq
        go_region_held3 (fun w' => w'.cell? ⟨w2.heap.size, k, none⟩ = some (.int .u32 (y : Int))) (exact hc) (first
          | (go_at_call 15
             (with_reducible refine (HE.out _).mono ?_)
             rintro e wE ⟨rfl, hwE⟩
             subst hwE))
        all_goals
          go_wp2_with fail
          go_roundw
          case rel =>
            obtain ⟨q', hq'⟩ := HWQ
            exact ⟨k + 1, by omega, by go_num, q' + 1, by rw [hq']; exact World.drewN_drewN w3 q' 1⟩
          case measure => simp [intOf]; omega
      · obtain rfl : k = 256 := by omega
        go_wp2_with fail
        go_ret
        exact ⟨rfl, below_drew hb3.out q⟩
end Go.Proofs.Ytcfeijphiallfaa
