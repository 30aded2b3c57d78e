/- empty, as Turn calls it: walked. -/
import Derived.Test.YtidgiohjgkfjcaaDoorQEmpty
import Derived.Test.YtidgiohjgkfjcaaDoorQDraw
namespace Go.Proofs.YtidgiohjgkfjcaaDoor
open Go.RowKit

attribute [local go_sem] Oper.semAt_some

/-- How things stand while a wheel is turned. -/
def TurnSt (t u : Int) (l : List (Int × Int)) (V0 : Nat → Option Addr × Nat) (C p B tb : Nat) (s : WSt) (W : World) : Prop :=
  RowsFrom C s.S s.V (stQ t l) V0 ∧   ∃ v told, QBox W tb 29 #[v] ∧ OwnD W B v told ∧ ((WhAt W C p u s.S s.V ∧ s.k ≤ plQ t u ∧ s.S = turnS t l s.k ∧ told = l.filter (fun d => decide (plQ t d.1 < s.k))) ∨ (WhAt W W.heap.size p u s.S s.V ∧ plQ t u < s.k ∧ s.S = stQ u (leftQ u l) ∧ told = dueQ u l))
/-- And behind it. -/
def TurnEnd (t u : Int) (l : List (Int × Int)) (V0 : Nat → Option Addr × Nat) (C p B tb : Nat) (W : World) : Prop := ∃ v V, QBox W tb 29 #[v] ∧ OwnD W B v (dueQ u l) ∧ WhAt W W.heap.size p u (stQ u (leftQ u l)) V ∧ RowsFrom C (stQ u (leftQ u l)) V (stQ t l) V0
theorem bears_turnSt (X : Nat) (t u : Int) (l : List (Int × Int)) (V0 : Nat → Option Addr × Nat) (C p B tb : Nat) (s : WSt) : Bears X (TurnSt t u l V0 C p B tb s) :=
  (bears_const _ _).and <| bears_ex fun _ => bears_ex fun _ => (bears_box _ _ _ _).and ((bears_own _ _ _ _).and (bears_or ((bears_wh _ _ _ _ _ _).and (bears_const _ _)) ((bears_whs _ _ _ _ _).and (bears_const _ _))))
theorem bears_turnEnd (X : Nat) (t u : Int) (l : List (Int × Int)) (V0 : Nat → Option Addr × Nat) (C p B tb : Nat) : Bears X (TurnEnd t u l V0 C p B tb) :=
  bears_ex fun _ => bears_ex fun _ => (bears_box _ _ _ _).and ((bears_own _ _ _ _).and ((bears_whs _ _ _ _ _).and (bears_const _ _)))
theorem TurnSt.end_ {t u : Int} {l : List (Int × Int)} {V0 : Nat → Option Addr × Nat} {C p B tb : Nat} {s : WSt} {W : World} (h : TurnSt t u l V0 C p B tb s W) (hr : RightQ t l) (htu : t ≤ u) (hu : u ≤ topQ) (hC : C ≤ W.heap.size) (hn : ∀ i, s.k ≤ i → i ≤ plQ t u → s.S i = []) : TurnEnd t u l V0 C p B tb W := by
  obtain ⟨hf, v, told, h1, h2, (⟨h3, h4, h5, h6⟩ | ⟨h3, h4, h5, h6⟩)⟩ := h
  · obtain ⟨e1, e2⟩ := turn_none hr htu hu h4 (fun i a b => by
      have := hn i a b
      rw [h5] at this
      unfold turnS at this
      rwa [if_neg (by omega)] at this)
    rw [h5, e1] at h3 hf
    rw [h6, e2] at h2
    exact ⟨v, s.V, h1, h2, h3.mono hC, hf⟩
  · rw [h5] at h3 hf
    rw [h6] at h2
    exact ⟨v, s.V, h1, h2, h3, hf⟩
theorem TurnSt.wh {t u : Int} {l : List (Int × Int)} {V0 : Nat → Option Addr × Nat} {C p B tb : Nat} {s : WSt} {W : World} (h : TurnSt t u l V0 C p B tb s W) : ∃ B', WhAt W B' p u s.S s.V := by
  obtain ⟨_, v, told, h1, h2, (⟨h3, _⟩ | ⟨h3, _⟩)⟩ := h
  · exact ⟨_, h3⟩
  · exact ⟨_, h3⟩
theorem turn_next {t u : Int} {l : List (Int × Int)} {C p B tb k j : Nat} {told : List (Int × Int)} {v : Value} {V V1 V0 : Nat → Option Addr × Nat} {W : World} (hr : RightQ t l) (htu : t ≤ u) (hu : u ≤ topQ) (hkj : k ≤ j) (hjq : j ≤ plQ t u) (hn : ∀ i, k ≤ i → i < j → stQ t l i = [])
    (hto : told = l.filter (fun d => decide (plQ t d.1 < k))) (ht : QBox W tb 29 #[v]) (ho : OwnD W B v (told ++ dueQ u (stQ t l j))) (hw : WhAt W W.heap.size p u (laysQ u (turnS t l (j + 1)) (leftQ u (stQ t l j))) V)
    (hnil : leftQ u (stQ t l j) = [] → WhAt W C p u (turnS t l (j + 1)) V1) (hf1 : RowsFrom C (turnS t l (j + 1)) V1 (stQ t l) V0) (hf : RowsFrom C (laysQ u (turnS t l (j + 1)) (leftQ u (stQ t l j))) V (stQ t l) V0) : ∃ s : WSt, s.k = j + 1 ∧ TurnSt t u l V0 C p B tb s W := by
  have htj : told = l.filter (fun d => decide (plQ t d.1 < j)) := by rw [hto]; exact filter_lt_skip hkj hn
  rcases Nat.lt_or_eq_of_le hjq with h | h
  · obtain ⟨e1, e2⟩ := turn_before hr htu hu h
    rw [e1, htj, ← filter_lt_succ hr] at ho
    exact ⟨⟨j + 1, turnS t l (j + 1), V1⟩, rfl, hf1, v, _, ht, ho, .inl ⟨hnil e2, h, rfl, rfl⟩⟩
  · subst h
    rw [htj, told_last hr htu hu] at ho
    rw [turn_last hr htu hu] at hw hf
    exact ⟨⟨plQ t u + 1, stQ u (leftQ u l), V⟩, rfl, hf, v, _, ht, ho, .inr ⟨hw, Nat.lt_succ_self _, rfl, rfl⟩⟩
theorem OwnD.onlyP {w w' : World} {base p : Nat} {v : Value} {l : List (Int × Int)} (h : OwnD w base v l) (ho : Only p w w') (hp : p < base) : OwnD w' base v l := by
  refine ⟨h.1, ?_⟩
  rcases h.2 with h2 | ⟨g, cap, cur, hv, hg, hh, r⟩
  · exact .inl h2
  · exact .inr ⟨g, cap, cur, hv, hg, (ho.block g (Array.getElem?_eq_some_iff.1 hh).1 (by omega)).trans hh, r⟩
theorem DuesT.onlyP {w w' : World} {B B' p n c : Nat} {t : Int} {A : Option Addr} {l : List (Int × Int)} {S : Nat → List (Int × Int)} {V : Nat → Option Addr × Nat} (h : DuesT w B A n c l) (hW : WhAt w B' p t S V) (ho : Only p w w') (hB : B ≤ w.heap.size) : DuesT w' B A n c l := by
  obtain ⟨cs2, h2, _⟩ := hW.ty
  exact h.keep (fun b hb cs f hc => ho.block b (by omega) (fun e => by subst e; rw [h2] at hc; cases hc))
theorem two_slots {t : Int} {l : List (Int × Int)} (hr : RightQ t l) (j i : Nat) : (turnS t l (j + 1) i).length + (stQ t l j).length ≤ 64 := by
  unfold turnS
  split
  · have := (hr.slot j).len; simp; omega
  · rename_i h
    have h2 := filter_two (fun d : Int × Int => decide (plQ t d.1 = i)) (fun d => decide (plQ t d.1 = j)) (fun x h1 h2 => by simp at h1 h2; omega) l
    have := hr.len
    unfold stQ
    omega
theorem new_nums {t : Int} {l : List (Int × Int)} (hr : RightQ t l) {j : Nat} : ∀ d ∈ stQ t l j, ∀ i, ∀ x ∈ turnS t l (j + 1) i, x.2 ≠ d.2 := by
  intro d hd i x hx e
  unfold turnS at hx
  split at hx
  · cases hx
  · obtain ⟨h1, h2⟩ := stQ_mem.1 hx
    obtain ⟨h3, h4⟩ := stQ_mem.1 hd
    have := nums_one hr.nums h1 h3 e
    subst this
    omega
theorem turnS_sort {t : Int} {l : List (Int × Int)} (hr : RightQ t l) (k j : Nat) : SortQ (turnS t l k j) := by
  unfold turnS; split
  · exact .nil
  · exact (hr.slot j).sort
set_option maxRecDepth 100000 in
set_option maxHeartbeats 4000000 in
theorem empty_in (n : Nat) (hn : 3 ≤ n) (p nb tb wb t u : Nat) (l : List (Int × Int)) (V : Nat → Option Addr × Nat) (w0 w : World) (hr : RightQ t l) (hpos : ∀ d ∈ l, 0 ≤ d.2) (htu : t ≤ u) (hu : (u : Int) ≤ topQ)
    (hW : WhAt w w0.heap.size p u (stQ t l) V) (h0 : Only p w0 w) (hbn : QBox w nb 2 #[.int .i64 u]) (hbw : QBox w wb 24 #[.pointer (some ⟨p, 0, none⟩)]) (hbt : QBox w tb 29 #[.slice none 0 0]) (htb : w0.heap.size ≤ tb)
    (hT : Tab w) (hg : 0 < w0.heap.size) (hgp : 0 ≠ p) :
    CallsIn Fence.wide n Tryd.prog 41 #[.pointer (some ⟨p, 0, none⟩), plV (plQ t u), .func (.func 42) #[] #[.pointer (some ⟨nb, 0, none⟩), .pointer (some ⟨tb, 0, none⟩), .pointer (some ⟨wb, 0, none⟩)]] w fun e w' =>
      (∃ v, e = .returned v) ∧ TurnEnd t u l V w0.heap.size p w0.heap.size tb w' ∧ Only p w0 w' := by
  have h1 : 1 ≤ n := by omega
  obtain ⟨q, hq⟩ : ∃ q, q = plQ t u := ⟨_, rfl⟩
  have hq256 : q ≤ 256 := by rw [hq]; exact plQ_le _ _
  rw [← hq]
  have HQ := Lib.hid hq
  have HW := Lib.hid hW
  have HFI := Lib.hid (fun W => filled_any (.pointer (some ⟨p, 0, none⟩)) W ⟨_, rfl⟩)
  unfold plV
  obtain ⟨qa, hqa⟩ : ∃ qa, qa = q / 64 := ⟨_, rfl⟩
  obtain ⟨qb, hqb⟩ : ∃ qb, qb = q % 64 := ⟨_, rfl⟩
  rw [← hqa, ← hqb]
  have HQA := Lib.hid hqa; have HQB := Lib.hid hqb
  clear hW hq hqa hqb
  refine callsIn_of_wp_marks Tryd.func41 rfl trivial ?_ rfl
  simp only [Tryd.ntmps41, List.size_toArray, List.length_cons, List.length_nil, Nat.reduceAdd, Nat.reduceSub, Array.replicate_succ, Array.replicate_zero, List.push_toArray, List.append_toArray, List.nil_append, List.cons_append]
  gi_wp2_with fail
  refine ⟨trivial, (callsIn_wide.2 (HFI.out _)).mono ?_⟩
  rintro e w1 ⟨rfl, rfl⟩
  gi_wp2_with fail
  obtain ⟨W, hWe⟩ : ∃ W, W = (((w.alloc (.cells #[.pointer (some ⟨p, 0, none⟩)] 24)).alloc (.cells #[.int .i64 ((qa : Nat) : Int), .int .i64 ((qb : Nat) : Int)] 80)).alloc (.cells #[.func (.func 42) #[] #[.pointer (some ⟨nb, 0, none⟩), .pointer (some ⟨tb, 0, none⟩), .pointer (some ⟨wb, 0, none⟩)]] 67)).alloc (.cells #[.pointer (some ⟨p, 0, none⟩)] 24) := ⟨_, rfl⟩
  have hB : Below w.heap.size w W := by rw [hWe]; exact ((((Below.refl _ _).alloc (Nat.le_refl _) _).alloc (by simp) _).alloc (by simp; omega) _).alloc (by simp; omega) _
  have hsz : W.heap.size = w.heap.size + 4 := by rw [hWe]; simp
  have hEB : EmpB w.heap.size p nb tb wb u q W := by
    have x0 := QBox.new w 24 #[.pointer (some ⟨p, 0, none⟩)]
    have x1 := QBox.new (w.alloc (.cells #[.pointer (some ⟨p, 0, none⟩)] 24)) 80 #[.int .i64 ((qa : Nat) : Int), .int .i64 ((qb : Nat) : Int)]
    have x2 := QBox.new ((w.alloc (.cells #[.pointer (some ⟨p, 0, none⟩)] 24)).alloc (.cells #[.int .i64 ((qa : Nat) : Int), .int .i64 ((qb : Nat) : Int)] 80)) 67 #[.func (.func 42) #[] #[.pointer (some ⟨nb, 0, none⟩), .pointer (some ⟨tb, 0, none⟩), .pointer (some ⟨wb, 0, none⟩)]]
    have x3 := QBox.new (((w.alloc (.cells #[.pointer (some ⟨p, 0, none⟩)] 24)).alloc (.cells #[.int .i64 ((qa : Nat) : Int), .int .i64 ((qb : Nat) : Int)] 80)).alloc (.cells #[.func (.func 42) #[] #[.pointer (some ⟨nb, 0, none⟩), .pointer (some ⟨tb, 0, none⟩), .pointer (some ⟨wb, 0, none⟩)]] 67)) 24 #[.pointer (some ⟨p, 0, none⟩)]
    simp only [World.size_alloc] at x1 x2 x3
    refine ⟨?_, ?_, ?_, ?_, hbn.belowAll hB, hbw.belowAll hB⟩
    · rw [hWe]; exact ((x0.alloc _).alloc _).alloc _
    · rw [hWe, ← HQA.out, ← HQB.out]; exact (x1.alloc _).alloc _
    · rw [hWe]; exact x2.alloc _
    · rw [hWe]; exact x3
  rw [← hWe]
  clear hWe
  have hbt2 := hbt.belowAll hB
  have h02 : Only p w0 W := h0.trans (Only.of hB)
  have hW2 := HW.out.below (hB.mono h0.size)
  have hTn : 0 ≠ p := hgp
  have hTW : ∀ W', Only p w0 W' → Tab w0 → Tab W' := fun W' ho hT j hj => by
    have := hT j hj
    rw [← this]
    unfold World.cell?
    dsimp only
    rw [ho.block _ hg hTn]
  have hT0 : Tab w0 := fun j hj => by
    have := hT j hj
    rw [← this]
    unfold World.cell?
    dsimp only
    rw [h0.block _ hg hTn]
  have hbnl := hbn.lt
  have hbwl := hbw.lt
  have hbtl := hbt.lt
  have hpl := HW.out.lt
  have hszl := h0.size
  clear hbt hbn hbw hT
  refine wpIn_rangeSt (σ := WSt) (α := WX) rfl h1 (gf := 56) (lb := #[.pointer (some ⟨w.heap.size + 1 + 1 + 1, 0, none⟩)]) rfl trivial (enters_of Tryd.func56 (by kernel_rfl) rfl)
    (filled_st (n - 1) (by omega) p (w.heap.size + 1 + 1 + 1)) (fun _ => rfl)
    (fun s W' => TurnSt t u l V w0.heap.size p (w.heap.size + 4) tb s W' ∧ EmpB w.heap.size p nb tb wb u q W' ∧ Only p w0 W' ∧ w.heap.size + 4 ≤ W'.heap.size)
    (fun c W' => c = .ret ∧ TurnEnd t u l V w0.heap.size p (w.heap.size + 4) tb W' ∧ Only p w0 W') ⟨0, stQ t l, V⟩ rfl
    (fun s W' h => by
      obtain ⟨h1, h2, h3, h4⟩ := h
      obtain ⟨B', hw⟩ := h1.wh
      exact ⟨⟨B', _, hw⟩, h2.b3, hTW W' h3 hT0, Nat.lt_of_lt_of_le hg h3.size⟩)
    (fun s => (bears_turnSt _ _ _ _ _ _ _ _ _ _).and (Bears.and (fun A B row h hg hr => h.turned hg (fun r e => (hr r e).2)) (Bears.and (bears_only (by omega)) (fun A B row h hg _ => Nat.le_trans h hg.size))))
    (fun c => (bears_const _ _).and ((bears_turnEnd _ _ _ _ _ _ _ _ _).and (bears_only (by omega)))) ⟨⟨RowsFrom.refl _ _ _, _, [], hbt2, OwnD.nil _ _, .inl ⟨hW2, Nat.zero_le _, (turnS_zero _ _).symm, by simp⟩⟩, hEB, h02, by omega⟩ ?round ?done ?stop
  case round =>
    rintro lp s ⟨j, A, m, c⟩ W' hl hlo ⟨hts, heb, hon, hsz4⟩ ⟨g1, g2, g3, g4, g5, g6, g7⟩
    dsimp only at g1 g2 g3 g4 g5 g6 g7
    unfold wenc plV
    dsimp only
    obtain ⟨ja, hja⟩ : ∃ ja, ja = j / 64 := ⟨_, rfl⟩
    obtain ⟨jb, hjb⟩ : ∃ jb, jb = j % 64 := ⟨_, rfl⟩
    rw [← hja, ← hjb]
    have HJA := Lib.hid hja; have HJB := Lib.hid hjb
    clear hja hjb
    gi_wp2_with fail
    refine ⟨KeepsOthers.alloc _ _, fun o => ?_⟩
    have hal : Below W'.heap.size W' (W'.alloc (.cells #[.int .i64 (ja : Int), .int .i64 (jb : Int)] 80)) := (Below.refl _ _).alloc (Nat.le_refl _) _
    have hlo1 : ∃ o : Obj, (W'.alloc (.cells #[.int .i64 (ja : Int), .int .i64 (jb : Int)] 80)).heap[lp]? = some o ∧ o.isCells = false := by
      obtain ⟨o, h1, h2⟩ := hlo
      exact ⟨o, (Below.heap_alloc _ _ _ (Array.getElem?_eq_some_iff.1 h1).1).trans h1, h2⟩
    have hts2 : TurnSt t u l V w0.heap.size p (w.heap.size + 4) tb s ((W'.alloc (.cells #[.int .i64 (ja : Int), .int .i64 (jb : Int)] 80)).putObj lp o) := by
      obtain ⟨ob, hob, hobn⟩ := hlo1
      exact (bears_turnSt 0 t u l V w0.heap.size p (w.heap.size + 4) tb s).put o ((bears_turnSt 0 t u l V w0.heap.size p (w.heap.size + 4) tb s).alloc _ hts) (Nat.zero_le _) hob hobn
    have heb2 := (heb.belowAll hal).turned (grownBy_putObj' _ lp o) (fun r e => by cases e; exact hlo1)
    have hon2 : Only p w0 ((W'.alloc (.cells #[.int .i64 (ja : Int), .int .i64 (jb : Int)] 80)).putObj lp o) := by
      obtain ⟨ob, hob, hobn⟩ := hlo1
      exact (bears_only (p := p) (Nat.le_refl w0.heap.size)).put o ((bears_only (p := p) (Nat.le_refl w0.heap.size)).alloc _ hon) (by omega) hob hobn
    have hp2 := (QBox.new W' 80 #[.int .i64 (ja : Int), .int .i64 (jb : Int)]).put hlo1 o
    have hsz5 : w.heap.size + 4 ≤ ((W'.alloc (.cells #[.int .i64 (ja : Int), .int .i64 (jb : Int)] 80)).putObj lp o).heap.size := by simp; omega
    have HTS := Lib.hid hts2; have HEB := Lib.hid heb2; have HON := Lib.hid hon2; have HPL := Lib.hid hp2; have HSZ := Lib.hid hsz5
    have HG4 := Lib.hid g4
    clear hts heb hon hal hlo1 hts2 heb2 hon2 hp2 hsz5 g4
    generalize hWW : (W'.alloc (.cells #[.int .i64 (ja : Int), .int .i64 (jb : Int)] 80)).putObj lp o = W2 at *
    clear hWW
    obtain ⟨c0, c1, _, _⟩ := HPL.out.two
    obtain ⟨c2, c3, _, _⟩ := HEB.out.b1.two
    rw [← HQA.out] at c2
    rw [← HQB.out] at c3
    obtain ⟨c4, _⟩ := box_three HEB.out.b0
    obtain ⟨c5, _⟩ := box_three HEB.out.b2
    by_cases hs : q < j
    · have HEND := Lib.hid (show TurnEnd t u l V w0.heap.size p (w.heap.size + 4) tb W2 from HTS.out.end_ hr (by omega) hu (by have := HON.out.size; omega) (fun i a b => HG4.out i a (by have := HQ.out; omega)))
      by_cases hqa : qa < ja
      · have d1 : decide (qa < ja) = true := by simp; exact hqa
        gi_wp2_with fail
        exact ⟨KeepsOthers.refl _, rfl, HEND.out, HON.out⟩
      · have hja : ja = qa := by have := HQA.out; have := HJA.out; omega
        have hjb : qb < jb := by have := HQB.out; have := HJB.out; have := HQA.out; have := HJA.out; omega
        have d1 : decide (qa < ja) = false := by simp; omega
        have d2 : ((ja : Int) == (qa : Int)) = true := by simp; omega
        have d3 : decide (qb < jb) = true := by simp; exact hjb
        clear hja
        gi_wp2_with fail
        exact ⟨KeepsOthers.refl _, rfl, HEND.out, HON.out⟩
    · have hjq : j ≤ q := by omega
      obtain ⟨hf0, v, told, ht0, ho0, (⟨hw0, hk0, hs0, hto0⟩ | ⟨_, hk0, _, _⟩)⟩ := HTS.out
      · have hjn : ja * 64 + jb = j := by have := HJA.out; have := HJB.out; omega
        have hj5 : ja < 5 := by have := HJA.out; omega
        have hj64 : jb < 64 := by have := HJB.out; omega
        have HSET := Lib.hid (fun (Z : World) (hb : Below W2.heap.size W2 Z) => set_anyB w0.heap.size p ja jb u s.S s.V none 0 0 [] Z (hw0.below (hb.mono HON.out.size)) (Nat.le_trans HON.out.size hb.size) hj5 hj64 (DuesT.nil _ _))
        rw [hjn] at HSET
        have hi0 : (0 : Int) ≤ (jb : Int) := by omega
        have hi1 : (jb : Int) < 64 := by omega
        have hi2 : (0 : Int) ≤ (ja : Int) := by omega
        have hi3 : (ja : Int) < 5 := by omega
        have HT0 := Lib.hid ht0; have HO0 := Lib.hid ho0; have HW0 := Lib.hid hw0; have HS0 := Lib.hid hs0; have HTO0 := Lib.hid hto0; have HJN := Lib.hid hjn
        have hcmp : ja < qa ∨ (ja = qa ∧ jb ≤ qb) := by have := HQB.out; have := HJB.out; have := HQA.out; have := HJA.out; omega
        clear ht0 ho0 hw0 hs0 hto0 hjn
        have HSJ := Lib.hid (show s.S j = stQ t l j by rw [HS0.out]; unfold turnS; rw [if_neg (by omega)])
        have HNO := Lib.hid (show ∀ i, s.k ≤ i → i < j → stQ t l i = [] from fun i a b => by
          have := HG4.out i a b
          rw [HS0.out] at this
          unfold turnS at this
          rwa [if_neg (by omega)] at this)
        have HS1 := Lib.hid (show setL j [] s.S = turnS t l (j + 1) by rw [HS0.out, turnS_skip g1 HNO.out, turnS_set])
        have HDJ := Lib.hid (HW0.out.due j g2)
        have HF1 := Lib.hid (show RowsFrom w0.heap.size (turnS t l (j + 1)) (setL j (none, 0) s.V) (stQ t l) V by rw [← HS1.out]; exact hf0.set (fun _ _ _ _ e => by cases e))
        clear hf0
        rw [HS1.out] at HSET
        rw [HSJ.out] at HDJ
        have HLN := Lib.hid (show told.length + (stQ t l j).length ≤ 64 by
          rw [HTO0.out, filter_lt_skip g1 HNO.out, ← List.length_append, ← filter_lt_succ hr]
          exact Nat.le_trans (List.length_filter_le _ _) hr.len)
        rw [HSJ.out]
        have HHAND := Lib.hid (fun (Z : World) (hn : QBox Z nb 2 #[.int .i64 u]) (ht : QBox Z tb 29 #[v]) (hwb : QBox Z wb 24 #[.pointer (some ⟨p, 0, none⟩)]) (ho : OwnD Z (w.heap.size + 4) v told) (hB : w.heap.size + 4 ≤ Z.heap.size) (hW : WhAt Z w0.heap.size p u (turnS t l (j + 1)) (setL j (none, 0) s.V)) (hd : DuesT Z w0.heap.size (s.V j).1 (stQ t l j).length (s.V j).2 (stQ t l j)) =>
          hand_any p nb tb wb (w.heap.size + 4) w0.heap.size u _ _ _ (turnS t l (j + 1)) _ v (stQ t l j) told Z hn ht hwb ho hB hW hd (by omega) htb (by omega) (by omega) (by omega) (by have := hu; unfold topQ at this; omega) (hr.slot j) (fun d hd => hpos d (stQ_mem.1 hd).1) (fun d hd => by have := (hr.in_ d (stQ_mem.1 hd).1).2; unfold topQ at this; exact this) (turnS_sort hr (j + 1)) (two_slots hr j) (new_nums hr) HLN.out)
        generalize hNN : (stQ t l j).length = NN at *
        clear hNN
        have hOD : Only p W2 W2.drew := ⟨rfl, rfl, rfl, Nat.le_refl _, fun _ _ _ => rfl⟩
        have hpne : W'.heap.size ≠ p := HW0.out.ne HPL.out (by decide)
        have hwne : w.heap.size ≠ p := HW0.out.ne HEB.out.b0 (by decide)
        have HK := Lib.hid (fun (Z : World) (ho : Only p W2 Z) => (⟨by
          obtain ⟨x0, x1, _, _⟩ := (HPL.out.onlyP ho hpne).two
          obtain ⟨x2, _⟩ := box_three (HEB.out.b0.onlyP ho hwne)
          exact ⟨x2, x0, x1⟩⟩ : PLift (Z.cell? ⟨w.heap.size, 0, none⟩ = some (.pointer (some ⟨p, 0, none⟩)) ∧ Z.cell? ⟨W'.heap.size, 0, none⟩ = some (.int .i64 (ja : Int)) ∧ Z.cell? ⟨W'.heap.size, 1, none⟩ = some (.int .i64 (jb : Int)))).down)
        rcases hcmp with hcmp | ⟨hcmp, hcmp2⟩
        · have d1 : decide (qa < ja) = false := by simp; omega
          have d2 : ((ja : Int) == (qa : Int)) = false := by simp; omega
          clear hcmp
          gi_wp2_with fail
          refine region_in (S := (fun Z => Z.cell? ⟨w.heap.size, 0, none⟩ = some (.pointer (some ⟨p, 0, none⟩)) ∧ Z.cell? ⟨W'.heap.size, 0, none⟩ = some (.int .i64 (ja : Int)) ∧ Z.cell? ⟨W'.heap.size, 1, none⟩ = some (.int .i64 (jb : Int)))) (by kernel_rfl) (by kernel_rfl) (HK.out _ hOD) (fun hHeld => ?_)
          refine wpAnyH_take (i := 0) (oi := { dst := some 31, op := Op.load 24 (Operand.tmp 3), type := 24, pos := "wheel.go:157", after := #[], guard := none }) (v := ?v0c0) rfl (by kernel_rfl) (by kernel_rfl) (by kernel_rfl) (fun _ _ _ h => h) (Or.inl ⟨by rfl, ?h0c0⟩) (by assumption) ?r0c0
          case h0c0 => (intro w hSw; (try dsimp only at hSw); go_simp; (try with_reducible rfl))
          try simp only [Act.put, List.setIfInBounds_toArray, List.set_cons_zero, List.set_cons_succ]
          refine wpAnyH_take (i := 1) (oi := { dst := some 32, op := Op.fieldAddr 80 (Operand.tmp 6) 0, type := 0, pos := "wheel.go:157", after := #[], guard := none }) (v := ?v1c0) rfl (by kernel_rfl) (by kernel_rfl) (by kernel_rfl) (fun _ _ _ h => h) (Or.inl ⟨by rfl, ?h1c0⟩) (by assumption) ?r1c0
          case h1c0 => (intro w hSw; (try dsimp only at hSw); go_simp; (try with_reducible rfl))
          try simp only [Act.put, List.setIfInBounds_toArray, List.set_cons_zero, List.set_cons_succ]
          refine wpAnyH_take (i := 2) (oi := { dst := some 33, op := Op.load 3 (Operand.tmp 32), type := 3, pos := "wheel.go:157", after := #[{ on := 1, ground := Ground.data }], guard := none }) (v := ?v2c0) rfl (by kernel_rfl) (by kernel_rfl) (by kernel_rfl) (fun _ _ _ h => h) (Or.inl ⟨by rfl, ?h2c0⟩) (by assumption) ?r2c0
          case h2c0 => (intro w hSw; (try dsimp only at hSw); go_simp; (try with_reducible rfl))
          try simp only [Act.put, List.setIfInBounds_toArray, List.set_cons_zero, List.set_cons_succ]
          refine wpAnyH_take (i := 3) (oi := { dst := some 34, op := Op.nilCheck (Operand.tmp 31), type := 0, pos := "wheel.go:157", after := #[{ on := 0, ground := Ground.data }], guard := none }) (v := ?v3c0) rfl (by kernel_rfl) (by kernel_rfl) (by kernel_rfl) (fun _ _ _ h => h) (Or.inl ⟨by rfl, ?h3c0⟩) (by assumption) ?r3c0
          case h3c0 => (intro w hSw; (try dsimp only at hSw); go_simp; (try with_reducible rfl))
          try simp only [Act.put, List.setIfInBounds_toArray, List.set_cons_zero, List.set_cons_succ]
          refine wpAnyH_take (i := 4) (oi := { dst := some 35, op := Op.fieldAddr 78 (Operand.tmp 34) 1, type := 0, pos := "wheel.go:157", after := #[{ on := 3, ground := Ground.data }], guard := none }) (v := ?v4c0) rfl (by kernel_rfl) (by kernel_rfl) (by kernel_rfl) (fun _ _ _ h => h) (Or.inl ⟨by rfl, ?h4c0⟩) (by assumption) ?r4c0
          case h4c0 => (intro w hSw; (try dsimp only at hSw); go_simp; (try with_reducible rfl))
          try simp only [Act.put, List.setIfInBounds_toArray, List.set_cons_zero, List.set_cons_succ]
          refine wpAnyH_take (i := 5) (oi := { dst := some 36, op := Op.indexAddr 76 (Operand.tmp 35) (Operand.tmp 33), type := 0, pos := "wheel.go:157", after := #[{ on := 4, ground := Ground.data }, { on := 2, ground := Ground.data }], guard := none }) (v := ?v5c0) rfl (by kernel_rfl) (by kernel_rfl) (by kernel_rfl) (fun _ _ _ h => h) (Or.inl ⟨by rfl, ?h5c0⟩) (by assumption) ?r5c0
          case h5c0 => (intro w hSw; (try dsimp only at hSw); go_simp; (try with_reducible rfl))
          try simp only [Act.put, List.setIfInBounds_toArray, List.set_cons_zero, List.set_cons_succ]
          refine wpAnyH_take (i := 6) (oi := { dst := some 37, op := Op.fieldAddr 80 (Operand.tmp 6) 1, type := 0, pos := "wheel.go:157", after := #[], guard := none }) (v := ?v6c0) rfl (by kernel_rfl) (by kernel_rfl) (by kernel_rfl) (fun _ _ _ h => h) (Or.inl ⟨by rfl, ?h6c0⟩) (by assumption) ?r6c0
          case h6c0 => (intro w hSw; (try dsimp only at hSw); go_simp; (try with_reducible rfl))
          try simp only [Act.put, List.setIfInBounds_toArray, List.set_cons_zero, List.set_cons_succ]
          refine wpAnyH_take (i := 7) (oi := { dst := some 38, op := Op.load 3 (Operand.tmp 37), type := 3, pos := "wheel.go:157", after := #[{ on := 6, ground := Ground.data }], guard := none }) (v := ?v7c0) rfl (by kernel_rfl) (by kernel_rfl) (by kernel_rfl) (fun _ _ _ h => h) (Or.inl ⟨by rfl, ?h7c0⟩) (by assumption) ?r7c0
          case h7c0 => (intro w hSw; (try dsimp only at hSw); go_simp; (try with_reducible rfl))
          try simp only [Act.put, List.setIfInBounds_toArray, List.set_cons_zero, List.set_cons_succ]
          refine wpAnyH_ready (rs := [8]) (by kernel_rfl) (by simp) (AllReadyH.cons (o := { dst := some 39, op := Op.call { callee := Callee.value (Operand.func 51), args := #[Operand.tmp 36, Operand.tmp 38, Operand.const (Value.slice none 0 0)], argTypes := #[75, 3, 29] }, type := 0, pos := "wheel.go:157", after := #[{ on := 5, ground := Ground.data }, { on := 7, ground := Ground.data }], guard := none }) rfl (fun K hK => ?_) AllReadyH.nil)
          go_simp
          go_at_call 51; (with_reducible refine (HSET.out _ (Below.refl _ _).drew).mono ?_)
          rintro e w3 ⟨⟨v3, rfl⟩, hw3, ho3⟩
          refine hK.out _ _ (HK.out _ (hOD.trans ho3)) (fun hHeld2 => ?_)
          clear hK K hHeld hHeld2
          try simp only [Act.put, List.setIfInBounds_toArray, List.set_cons_zero, List.set_cons_succ]
          refine wpAnyH_done (by kernel_rfl) ?_ _
          refine onlyN_normal ?_
          have hho : Only p W2 w3 := hOD.trans ho3
          have heb3 := HEB.out.onlyP HW0.out hho
          have ht3 := HT0.out.onlyP hho (HW0.out.ne HT0.out (by decide))
          have HOO3 := Lib.hid (HO0.out.onlyP hho (by omega))
          have HD3 := Lib.hid (DuesT.onlyP HDJ.out HW0.out hho HON.out.size)
          have HKO := Lib.hid (Only.keepsOthers hho HW0.out.ty.choose_spec.1)
          have HHO := Lib.hid hho
          have HEB3 := Lib.hid heb3; have HT3 := Lib.hid ht3; have HW3 := Lib.hid hw3
          have HSZ3 := Lib.hid (Nat.le_trans HSZ.out hho.size)
          obtain ⟨c6, _⟩ := box_three heb3.b2
          clear hw3 ho3 hho heb3 ht3 c0 c1 c2 c3 c4 c5
          gi_wp2_with fail
          refine ⟨trivial, (fun _ => by omega), (CallsIn.inRound lp (callsIn_wide.2 (HHAND.out w3 HEB3.out.bn HT3.out HEB3.out.bw HOO3.out HSZ3.out HW3.out HD3.out))).mono ?_⟩
          rintro e w6 ⟨⟨v6, rfl⟩, v7, ht7, ho7, ⟨V7, hw7, hf7⟩, hnil7, hk7⟩
          have hnx := turn_next hr (by omega) hu g1 (by have := HQ.out; omega) HNO.out HTO0.out ht7 ho7 hw7 hnil7 HF1.out (HF1.out.trans hf7 (Nat.le_trans HON.out.size HHO.out.size))
          obtain ⟨s7, hs7, hts7⟩ := hnx
          have HEND7 := Lib.hid (show KeepsOthers W2 w6 ∧ ∃ s', WD s ⟨j, A, m, c⟩ s' ∧ TurnSt t u l V w0.heap.size p (w.heap.size + 4) tb s' w6 ∧ EmpB w.heap.size p nb tb wb u q w6 ∧ Only p w0 w6 ∧ w.heap.size + 4 ≤ w6.heap.size from
            ⟨HKO.out.trans (keeps_hand HW3.out HT3.out HOO3.out hk7), s7, hs7, hts7, HEB3.out.hand HW3.out HT3.out HOO3.out (by omega) (by omega) (by omega) hk7, (HON.out.trans HHO.out).hand hk7 htb (fun g e => (World.ownsRow.lt HOO3.out g e).1) (by omega), Nat.le_trans HSZ3.out hk7.size⟩)
          clear ht7 ho7 hw7 hf7 hnil7 hk7 hts7 c6
          gi_wp2_with fail
          exact HEND7.out
        · have d1 : decide (qa < ja) = false := by simp; omega
          have d2 : ((ja : Int) == (qa : Int)) = true := by simp; omega
          have d3 : decide (qb < jb) = false := by simp; exact hcmp2
          clear hcmp hcmp2
          gi_wp2_with fail
          refine region_in (S := (fun Z => Z.cell? ⟨w.heap.size, 0, none⟩ = some (.pointer (some ⟨p, 0, none⟩)) ∧ Z.cell? ⟨W'.heap.size, 0, none⟩ = some (.int .i64 (ja : Int)) ∧ Z.cell? ⟨W'.heap.size, 1, none⟩ = some (.int .i64 (jb : Int)))) (by kernel_rfl) (by kernel_rfl) (HK.out _ hOD) (fun hHeld => ?_)
          refine wpAnyH_take (i := 0) (oi := { dst := some 31, op := Op.load 24 (Operand.tmp 3), type := 24, pos := "wheel.go:157", after := #[], guard := none }) (v := ?v0c1) rfl (by kernel_rfl) (by kernel_rfl) (by kernel_rfl) (fun _ _ _ h => h) (Or.inl ⟨by rfl, ?h0c1⟩) (by assumption) ?r0c1
          case h0c1 => (intro w hSw; (try dsimp only at hSw); go_simp; (try with_reducible rfl))
          try simp only [Act.put, List.setIfInBounds_toArray, List.set_cons_zero, List.set_cons_succ]
          refine wpAnyH_take (i := 1) (oi := { dst := some 32, op := Op.fieldAddr 80 (Operand.tmp 6) 0, type := 0, pos := "wheel.go:157", after := #[], guard := none }) (v := ?v1c1) rfl (by kernel_rfl) (by kernel_rfl) (by kernel_rfl) (fun _ _ _ h => h) (Or.inl ⟨by rfl, ?h1c1⟩) (by assumption) ?r1c1
          case h1c1 => (intro w hSw; (try dsimp only at hSw); go_simp; (try with_reducible rfl))
          try simp only [Act.put, List.setIfInBounds_toArray, List.set_cons_zero, List.set_cons_succ]
          refine wpAnyH_take (i := 2) (oi := { dst := some 33, op := Op.load 3 (Operand.tmp 32), type := 3, pos := "wheel.go:157", after := #[{ on := 1, ground := Ground.data }], guard := none }) (v := ?v2c1) rfl (by kernel_rfl) (by kernel_rfl) (by kernel_rfl) (fun _ _ _ h => h) (Or.inl ⟨by rfl, ?h2c1⟩) (by assumption) ?r2c1
          case h2c1 => (intro w hSw; (try dsimp only at hSw); go_simp; (try with_reducible rfl))
          try simp only [Act.put, List.setIfInBounds_toArray, List.set_cons_zero, List.set_cons_succ]
          refine wpAnyH_take (i := 3) (oi := { dst := some 34, op := Op.nilCheck (Operand.tmp 31), type := 0, pos := "wheel.go:157", after := #[{ on := 0, ground := Ground.data }], guard := none }) (v := ?v3c1) rfl (by kernel_rfl) (by kernel_rfl) (by kernel_rfl) (fun _ _ _ h => h) (Or.inl ⟨by rfl, ?h3c1⟩) (by assumption) ?r3c1
          case h3c1 => (intro w hSw; (try dsimp only at hSw); go_simp; (try with_reducible rfl))
          try simp only [Act.put, List.setIfInBounds_toArray, List.set_cons_zero, List.set_cons_succ]
          refine wpAnyH_take (i := 4) (oi := { dst := some 35, op := Op.fieldAddr 78 (Operand.tmp 34) 1, type := 0, pos := "wheel.go:157", after := #[{ on := 3, ground := Ground.data }], guard := none }) (v := ?v4c1) rfl (by kernel_rfl) (by kernel_rfl) (by kernel_rfl) (fun _ _ _ h => h) (Or.inl ⟨by rfl, ?h4c1⟩) (by assumption) ?r4c1
          case h4c1 => (intro w hSw; (try dsimp only at hSw); go_simp; (try with_reducible rfl))
          try simp only [Act.put, List.setIfInBounds_toArray, List.set_cons_zero, List.set_cons_succ]
          refine wpAnyH_take (i := 5) (oi := { dst := some 36, op := Op.indexAddr 76 (Operand.tmp 35) (Operand.tmp 33), type := 0, pos := "wheel.go:157", after := #[{ on := 4, ground := Ground.data }, { on := 2, ground := Ground.data }], guard := none }) (v := ?v5c1) rfl (by kernel_rfl) (by kernel_rfl) (by kernel_rfl) (fun _ _ _ h => h) (Or.inl ⟨by rfl, ?h5c1⟩) (by assumption) ?r5c1
          case h5c1 => (intro w hSw; (try dsimp only at hSw); go_simp; (try with_reducible rfl))
          try simp only [Act.put, List.setIfInBounds_toArray, List.set_cons_zero, List.set_cons_succ]
          refine wpAnyH_take (i := 6) (oi := { dst := some 37, op := Op.fieldAddr 80 (Operand.tmp 6) 1, type := 0, pos := "wheel.go:157", after := #[], guard := none }) (v := ?v6c1) rfl (by kernel_rfl) (by kernel_rfl) (by kernel_rfl) (fun _ _ _ h => h) (Or.inl ⟨by rfl, ?h6c1⟩) (by assumption) ?r6c1
          case h6c1 => (intro w hSw; (try dsimp only at hSw); go_simp; (try with_reducible rfl))
          try simp only [Act.put, List.setIfInBounds_toArray, List.set_cons_zero, List.set_cons_succ]
          refine wpAnyH_take (i := 7) (oi := { dst := some 38, op := Op.load 3 (Operand.tmp 37), type := 3, pos := "wheel.go:157", after := #[{ on := 6, ground := Ground.data }], guard := none }) (v := ?v7c1) rfl (by kernel_rfl) (by kernel_rfl) (by kernel_rfl) (fun _ _ _ h => h) (Or.inl ⟨by rfl, ?h7c1⟩) (by assumption) ?r7c1
          case h7c1 => (intro w hSw; (try dsimp only at hSw); go_simp; (try with_reducible rfl))
          try simp only [Act.put, List.setIfInBounds_toArray, List.set_cons_zero, List.set_cons_succ]
          refine wpAnyH_ready (rs := [8]) (by kernel_rfl) (by simp) (AllReadyH.cons (o := { dst := some 39, op := Op.call { callee := Callee.value (Operand.func 51), args := #[Operand.tmp 36, Operand.tmp 38, Operand.const (Value.slice none 0 0)], argTypes := #[75, 3, 29] }, type := 0, pos := "wheel.go:157", after := #[{ on := 5, ground := Ground.data }, { on := 7, ground := Ground.data }], guard := none }) rfl (fun K hK => ?_) AllReadyH.nil)
          go_simp
          go_at_call 51; (with_reducible refine (HSET.out _ (Below.refl _ _).drew).mono ?_)
          rintro e w3 ⟨⟨v3, rfl⟩, hw3, ho3⟩
          refine hK.out _ _ (HK.out _ (hOD.trans ho3)) (fun hHeld2 => ?_)
          clear hK K hHeld hHeld2
          try simp only [Act.put, List.setIfInBounds_toArray, List.set_cons_zero, List.set_cons_succ]
          refine wpAnyH_done (by kernel_rfl) ?_ _
          refine onlyN_normal ?_
          have hho : Only p W2 w3 := hOD.trans ho3
          have heb3 := HEB.out.onlyP HW0.out hho
          have ht3 := HT0.out.onlyP hho (HW0.out.ne HT0.out (by decide))
          have HOO3 := Lib.hid (HO0.out.onlyP hho (by omega))
          have HD3 := Lib.hid (DuesT.onlyP HDJ.out HW0.out hho HON.out.size)
          have HKO := Lib.hid (Only.keepsOthers hho HW0.out.ty.choose_spec.1)
          have HHO := Lib.hid hho
          have HEB3 := Lib.hid heb3; have HT3 := Lib.hid ht3; have HW3 := Lib.hid hw3
          have HSZ3 := Lib.hid (Nat.le_trans HSZ.out hho.size)
          obtain ⟨c6, _⟩ := box_three heb3.b2
          clear hw3 ho3 hho heb3 ht3 c0 c1 c2 c3 c4 c5
          gi_wp2_with fail
          refine ⟨trivial, (fun _ => by omega), (CallsIn.inRound lp (callsIn_wide.2 (HHAND.out w3 HEB3.out.bn HT3.out HEB3.out.bw HOO3.out HSZ3.out HW3.out HD3.out))).mono ?_⟩
          rintro e w6 ⟨⟨v6, rfl⟩, v7, ht7, ho7, ⟨V7, hw7, hf7⟩, hnil7, hk7⟩
          have hnx := turn_next hr (by omega) hu g1 (by have := HQ.out; omega) HNO.out HTO0.out ht7 ho7 hw7 hnil7 HF1.out (HF1.out.trans hf7 (Nat.le_trans HON.out.size HHO.out.size))
          obtain ⟨s7, hs7, hts7⟩ := hnx
          have HEND7 := Lib.hid (show KeepsOthers W2 w6 ∧ ∃ s', WD s ⟨j, A, m, c⟩ s' ∧ TurnSt t u l V w0.heap.size p (w.heap.size + 4) tb s' w6 ∧ EmpB w.heap.size p nb tb wb u q w6 ∧ Only p w0 w6 ∧ w.heap.size + 4 ≤ w6.heap.size from
            ⟨HKO.out.trans (keeps_hand HW3.out HT3.out HOO3.out hk7), s7, hs7, hts7, HEB3.out.hand HW3.out HT3.out HOO3.out (by omega) (by omega) (by omega) hk7, (HON.out.trans HHO.out).hand hk7 htb (fun g e => (World.ownsRow.lt HOO3.out g e).1) (by omega), Nat.le_trans HSZ3.out hk7.size⟩)
          clear ht7 ho7 hw7 hf7 hnil7 hk7 hts7 c6
          gi_wp2_with fail
          exact HEND7.out
      · exact absurd (show s.k ≤ q by omega) (by have := HQ.out; omega)
  case done =>
    rintro B s W' hB2 hE ⟨hts, heb, hon, hsz4⟩ hD
    have hend := hts.end_ hr (by omega) hu (by have := hon.size; omega) (fun i a b => hE i a (by have := plQ_le (t : Int) (u : Int); omega))
    have HEND := Lib.hid hend; have HON := Lib.hid hon; have HD := Lib.hid hD
    clear hts heb hon hsz4 hend hD
    gi_wp2_with fail
    refine ⟨by simp, .inl ⟨_, _, rfl, run_takeDeferred HD.out, ?_⟩⟩
    refine ⟨_, results_none rfl _ _ _, ⟨_, rfl⟩, ?_, ?_⟩
    · obtain ⟨v, V', h1, h2, h3⟩ := (bears_turnEnd 0 t u l V w0.heap.size p (w.heap.size + 4) tb).put (.deferred none) HEND.out (Nat.zero_le _) HD.out rfl
      exact ⟨v, V', h1, h2.mono (by omega), h3⟩
    · exact (bears_only (p := p) (Nat.le_refl w0.heap.size)).put (.deferred none) HON.out (by omega) HD.out rfl
  case stop =>
    rintro B c W' hB2 ⟨rfl, hend, hon⟩ hD
    have HEND := Lib.hid hend; have HON := Lib.hid hon; have HD := Lib.hid hD
    clear hend hon hD
    gi_wp2_with fail
    refine ⟨by simp, .inl ⟨_, _, rfl, run_takeDeferred HD.out, ?_⟩⟩
    refine ⟨_, results_none rfl _ _ _, ⟨_, rfl⟩, ?_, ?_⟩
    · obtain ⟨v, V', h1, h2, h3⟩ := (bears_turnEnd 0 t u l V w0.heap.size p (w.heap.size + 4) tb).put (.deferred none) HEND.out (Nat.zero_le _) HD.out rfl
      exact ⟨v, V', h1, h2.mono (by omega), h3⟩
    · exact (bears_only (p := p) (Nat.le_refl w0.heap.size)).put (.deferred none) HON.out (by omega) HD.out rfl
end Go.Proofs.YtidgiohjgkfjcaaDoor
