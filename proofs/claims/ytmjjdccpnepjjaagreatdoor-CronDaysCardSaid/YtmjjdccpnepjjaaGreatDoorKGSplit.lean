/- strings.Split at blanks; what a text's words are told by: the iterator, walked. -/
import Derived.Test.YtmjjdccpnepjjaaGreatDoorK1
import Derived.Test.YtmjjdccpnepjjaaGreatDoorK3
import Derived.Test.YtmjjdccpnepjjaaGreatDoorKGRun
namespace Go.Proofs.YtmjjdccpnepjjaaGreatDoor
open Go.RowKit Go.Shelf

attribute [local go_sem] Oper.semAt_some

theorem split_sp (l : List UInt8) (w : World) (hL : Laid w) (hl : l.length ≤ 256) :
    Calls Tryz.prog 65 #[strV l, .string ⟨#[32]⟩] w fun e w' => ∃ c, e = .returned (.slice (some ⟨w.heap.size, 0, none⟩) (splitW 32 l).length c) ∧ w' = w.alloc (.cells ((splitW 32 l).map strV).toArray 9) := by
  obtain ⟨m, hm⟩ := hL.maxLen
  have hs : (⟨l.toArray⟩ : ByteArray).size < 4294967281 := by show l.toArray.size < _; simp; omega
  refine (strings_Split ⟨l.toArray⟩ ⟨#[32]⟩ m w hs hm (by decide)).mono ?_
  rintro e w' ⟨rfl, rfl⟩
  have hc : Lib.countB ⟨l.toArray⟩ ⟨#[32]⟩ = Lib.count l [32] := by unfold Lib.countB; simp
  have hd := Lib.splitB_data ⟨#[32]⟩ 0 (Lib.countB ⟨l.toArray⟩ ⟨#[32]⟩) ⟨l.toArray⟩
  rw [hc, show (⟨#[32]⟩ : ByteArray).data.toList = [32] by rfl, show (⟨l.toArray⟩ : ByteArray).data.toList = l by simp, splitK_w 32 _ _ rfl] at hd
  have hm2 : ((Lib.splitB ⟨#[32]⟩ 0 (Lib.countB ⟨l.toArray⟩ ⟨#[32]⟩) ⟨l.toArray⟩).map Value.string) = (splitW 32 l).map strV := by
    rw [← hd, hc, List.map_map]
    apply List.map_congr_left
    intro x _
    exact strV_data x
  have hl := Lib.splitB_all ⟨#[32]⟩ (by decide) 0 (Lib.countB ⟨l.toArray⟩ ⟨#[32]⟩) ⟨l.toArray⟩ rfl
  have hn : (splitW 32 l).length = Lib.countB ⟨l.toArray⟩ ⟨#[32]⟩ + 1 := by rw [← hl, ← hd, List.length_map, hc]
  rw [hm2, hn]
  exact ⟨_, rfl, rfl⟩
/-- A word of a short text, and its place. -/
abbrev WordT := { x : Nat × List UInt8 // x.1 + x.2.length ≤ 256 }
/-- What a round keeps: what lay below a, and the cells from b on. -/
def KeepC (a b : Nat) (W W' : World) : Prop := Below a W W' ∧ ∀ k o, b ≤ k → W.heap[k]? = some o → o.isCells = true → W'.heap[k]? = some o
theorem keepC_t {a b : Nat} {A B C : World} (h : KeepC a b A B) (k : KeepC a b B C) : KeepC a b A C := ⟨h.1.trans k.1, fun i o hi hA ho => k.2 i o hi (h.2 i o hi hA ho) ho⟩
theorem keepC_b {a b : Nat} {w : World} (hn : a ≤ w.heap.size) (W : World) (l : Nat) (o o' : Obj) (hl : w.heap.size ≤ l) (h : W.heap[l]? = some o) (hc : o.isCells = false) (hw : o.isWalk = false) : KeepC a b W (W.putObj l o') :=
  ⟨belowK_b hn W l o o' hl h hc hw, fun k x _ hx hxc => by
    have hne : k ≠ l := by
      rintro rfl
      rw [h] at hx; cases hx
      rw [hc] at hxc; cases hxc
    exact (by simp [World.putObj, Ne.symm hne] : (W.putObj l o').heap[k]? = W.heap[k]?).trans hx⟩
theorem wordsP_len : ∀ (ps : List (List UInt8)) (a : Nat), (wordsP ps a).length ≤ ps.length
  | [], _ => Nat.le_refl _
  | p :: ps, a => by
    have h1 := wordsP_len ps (a + 1)
    have h2 := wordsP_len ps (a + p.length + 1)
    rw [wordsP]
    split
    · simp; omega
    · simp; omega
theorem keepC_box {a b g : Nat} {W W' : World} {t : TypeId} {cs : Array Value} (h : D.Box W g t cs) (hk : KeepC a b W W') (hg : b ≤ g) : D.Box W' g t cs := hk.2 g _ hg h rfl
set_option maxRecDepth 100000 in
set_option maxHeartbeats 2000000 in
theorem words1_in (n : Nat) (hn : 1 ≤ n) (l B n₀ n₁ : Nat) (s : List UInt8) (hs : s.length ≤ 256) (J Jx : List WordT → World → Prop)
    (hY : ∀ pre (x : WordT) W, J pre W → pre.length < 300 → YieldAt Fence.wide (n - 1) Tryz.prog l #[.int .i64 ((x.1.1 : Nat) : Int), .string ⟨x.1.2.toArray⟩] W fun e W' =>
      (e = .returned (.bool true) ∧ J (pre ++ [x]) W' ∧ KeepC n₀ n₁ W W') ∨ (e = .returned (.bool false) ∧ Jx (pre ++ [x]) W'))
    (W : World) (hn1 : n₁ ≤ W.heap.size) (hJ : AbidesFrom W.heap.size J) (hB : W.cell? ⟨B, 0, none⟩ = some (strV s)) (hL : Laid W) (h0 : J [] W) :
    CallsIn Fence.wide n Tryz.prog 64 #[.func (.yield l) #[] #[], .pointer (some ⟨B, 0, none⟩)] W fun e W' => (∃ v, e = .returned v) ∧
      ((∃ ys, ys.map (fun y : WordT => y.1) = wordsL s ∧ J ys W') ∨ (∃ pre, pre.map (fun y : WordT => y.1) <+: wordsL s ∧ Jx pre W')) := by
  rw [words_pieces]
  have HS := Lib.hid (split_sp s W hL hs)
  have HN : Hid (∀ k p, (splitW 32 s)[k]? = some p → atP (splitW 32 s) k + p.length ≤ 256) := Lib.hid (fun k p h => by have := split_at 32 h; omega)
  have HF := Lib.hid (fun k => wordsP_front (splitW 32 s) k)
  have HX := Lib.hid (fun (k : Nat) p (h : (splitW 32 s)[k]? = some p) => wordsP_next h)
  have HA := Lib.hid (fun (k : Nat) p (h : (splitW 32 s)[k]? = some p) => atP_succ h)
  have hlen : (splitW 32 s).length ≤ 257 := by
    have := splitW_sum 32 s
    have h2 : ∀ ps : List (List UInt8), ps.length ≤ (ps.map fun p => p.length + 1).sum := by
      intro ps
      induction ps with
      | nil => simp
      | cons p ps ih => simp; omega
    have := h2 (splitW 32 s)
    omega
  unfold strV at HS hB
  generalize splitW 32 s = ps at *
  refine callsIn_of_wp Tryz.func64 rfl trivial ?_ rfl
  simp only [Tryz.ntmps64, List.size_toArray, List.length_cons, List.length_nil, Nat.reduceAdd, Nat.reduceSub, Array.replicate_succ, Array.replicate_zero, List.push_toArray, List.append_toArray, List.nil_append, List.cons_append]
  gi_wp2_with fail
  refine ⟨trivial, (callsIn_wide.2 HS.out).mono ?_⟩
  rintro e w1 ⟨c, rfl, rfl⟩
  have hJ1 : J [] (W.alloc (.cells (ps.map fun l => .string ⟨l.toArray⟩).toArray 9)) := hJ [] _ _ none h0 (World.grownBy_alloc W _ none) (fun r e => by cases e)
  have hX1 : D.Box (W.alloc (.cells (ps.map fun l => .string ⟨l.toArray⟩).toArray 9)) W.heap.size 9 (ps.map fun l => .string ⟨l.toArray⟩).toArray := D.Box.new _ _ _
  have hn0 : ps.length ≤ maxLen := by unfold maxLen; omega
  generalize W.alloc _ = w1 at *
  have H1 := Lib.hid hJ1; have H2 := Lib.hid hX1
  clear hJ1 hX1 HS hB
  gi_wp2_with fail
  gi_loopw [3, 5, 9] (fun a _ i wr => ∃ (k : Nat) (pre : List WordT), k ≤ ps.length ∧ i = .int .i64 (k : Int) ∧ a = .int .i64 (atP ps k : Nat) ∧ pre.map (fun y : WordT => y.1) = wordsP (ps.take k) 0 ∧ J pre wr ∧ D.Box wr W.heap.size 9 (ps.map fun l => .string ⟨l.toArray⟩).toArray) (fun _ _ i _ => ps.length - (intOf i).toNat)
  case atStart => exact ⟨0, [], Nat.zero_le _, rfl, rfl, rfl, H1.out, H2.out⟩
  case round =>
    clear H1 H2
    obtain ⟨k, pre, hk, rfl, rfl, hpre, hj, hx⟩ := hrel
    by_cases hlt : k < ps.length
    · obtain ⟨p, hp⟩ : ∃ p, ps[k]? = some p := ⟨_, List.getElem?_eq_getElem hlt⟩
      have hcell : wr.cell? ⟨W.heap.size, k, none⟩ = some (.string ⟨p.toArray⟩) := by
        rw [D.Box.cell hx, List.getElem?_toArray, List.getElem?_map, hp]; rfl
      have hb1 := HN.out k p hp
      have HA' := Lib.hid (HA.out k p hp)
      have HX' := Lib.hid (HX.out k p hp)
      have HJ := Lib.hid hj; have HB := Lib.hid hx; have HP := Lib.hid hpre
      have hpl : pre.length < 300 := by
        have h1 := congrArg List.length hpre
        have h2 := wordsP_len (ps.take k) 0
        rw [List.length_take] at h2
        rw [List.length_map] at h1
        omega
      generalize atP ps k = q at *
      clear hj hx hpre HA HX HN
      by_cases he : p = []
      · subst he
        have he1 : (⟨([] : List UInt8).toArray⟩ : ByteArray) = ByteArray.empty := rfl
        simp only [List.length_nil] at HA' hb1
        gi_wp2_with fail
        refine ⟨fun _ h => (by cases h), ?_⟩
        gi_wp2_with fail
        go_roundw
        case rel => exact ⟨k + 1, pre, by omega, by go_num, by rw [HA'.out]; go_num, by rw [HX'.out, HP.out]; simp, HJ.out, HB.out⟩
        case measure => simp [intOf]; omega
      · have he2 : (!p.isEmpty) = true := by
          cases p with
          | nil => exact absurd rfl he
          | cons b p => rfl
        have hxp := Lib.hid (HX'.out.trans (by rw [if_neg he]))
        clear HX'
        obtain ⟨fn, tmps, assign, body, hy, hR⟩ := hY pre ⟨(q, p), hb1⟩ wr HJ.out hpl
        dsimp only at hy hR
        gi_wp2_with fail
        refine hR.mono ?_
        rintro e W3 (⟨rfl, hJ3, hk3⟩ | ⟨rfl, hJx3⟩)
        · have HX3 := Lib.hid (keepC_box HB.out hk3 hn1)
          have H3 := Lib.hid hJ3
          clear hJ3 hk3
          gi_wp2_with fail
          go_roundw
          case rel => exact ⟨k + 1, pre ++ [⟨(q, p), hb1⟩], by omega, by go_num, by rw [HA'.out]; go_num, by rw [hxp.out, List.map_append, HP.out]; rfl, H3.out, HX3.out⟩
          case measure => simp [intOf]; omega
        · gi_wp2_with fail
          refine bodyPost_ret (results_none rfl _ _ _) rfl ?_
          refine ⟨⟨_, rfl⟩, .inr ⟨pre ++ [⟨(q, p), hb1⟩], ?_, hJx3⟩⟩
          have h1 : (pre ++ [(⟨(q, p), hb1⟩ : WordT)]).map (fun y : WordT => y.1) = wordsP (ps.take (k + 1)) 0 := by rw [hxp.out, List.map_append, HP.out]; rfl
          rw [h1]
          exact HF.out (k + 1)
    · have hk2 : k = ps.length := by omega
      have hP : pre.map (fun y : WordT => y.1) = wordsP ps 0 := by rw [hpre, hk2, List.take_length]
      have HP := Lib.hid hP; have HJ := Lib.hid hj
      clear hP hpre hj hx HN HF HX HA
      gi_wp2_with fail
      go_end0
      exact ⟨⟨_, rfl⟩, .inl ⟨pre, HP.out, HJ.out⟩⟩
set_option maxHeartbeats 1000000 in
theorem words_in7 (n : Nat) (s : List UInt8) (w : World) :
    CallsIn Fence.wide n Tryz.prog 29 #[strV s] w fun e w' => e = .returned (.func (.func 64) #[] #[.pointer (some ⟨w.heap.size, 0, none⟩)]) ∧ w' = w.alloc (.cells #[strV s] 9) := by
  unfold strV
  refine callsIn_of_wp Tryz.func29 rfl trivial ?_ rfl
  simp only [Tryz.ntmps29, List.size_toArray, List.length_cons, List.length_nil, Nat.reduceAdd, Nat.reduceSub, Array.replicate_succ, Array.replicate_zero, List.push_toArray, List.append_toArray, List.nil_append, List.cons_append]
  gi_wp2
  go_ret
  exact ⟨rfl, rfl⟩
/-- It tells just the words, whatever the loop's body does between n₀ and n₁. -/
theorem words_stops (n : Nat) (hn : 1 ≤ n) (B n₀ : Nat) (s : List UInt8) (hs : s.length ≤ 256) (w : World) (hBl : B < w.heap.size) (hB : w.cell? ⟨B, 0, none⟩ = some (strV s)) (hL : Laid w) :
    SeqStopsK Fence.wide n Tryz.prog 64 #[.pointer (some ⟨B, 0, none⟩)] (fun x : WordT => #[.int .i64 ((x.1.1 : Nat) : Int), .string ⟨x.1.2.toArray⟩]) (KeepC n₀ w.heap.size) (fun ys => ys.map (fun y : WordT => y.1) = wordsL s) (fun pre => pre.map (fun y : WordT => y.1) <+: wordsL s) 300 w :=
  fun l J Jx W hW hJ _ hY h0 => words1_in n hn l B n₀ w.heap.size s hs J Jx hY W hW.size hJ ((hW.cell (p := ⟨B, 0, none⟩) hBl).trans hB) (hL.on hW) h0
end Go.Proofs.YtmjjdccpnepjjaaGreatDoor
