/- level.put, level.cut: walked. -/
import Derived.Test.YtidgiohjgkfjcaaDoorQMark
import Derived.Test.YtidgiohjgkfjcaaDoorQSearch
import Derived.Test.YtidgiohjgkfjcaaDoorQAppend
namespace Go.Proofs.YtidgiohjgkfjcaaDoor
open Go.RowKit

/-- Where a due is laid. -/
theorem split_at9 {d : Int × Int} : ∀ {l : List (Int × Int)}, SortQ l → (∀ x ∈ l, x.2 ≠ d.2) → ∃ k, k ≤ l.length ∧ (∀ x ∈ l.take k, befQ x d = true) ∧ (∀ x ∈ l.drop k, befQ d x = true)
  | [], _, _ => ⟨0, by simp, by simp, by simp⟩
  | x :: l, h, hn => by
    obtain ⟨h1, h2⟩ := List.pairwise_cons.1 h
    by_cases hb : befQ x d = true
    · obtain ⟨k, hk, a, b⟩ := split_at9 (d := d) h2 (fun y hy => hn y (List.mem_cons_of_mem _ hy))
      refine ⟨k + 1, by simpa using hk, fun y hy => ?_, fun y hy => b y (by simpa using hy)⟩
      rw [List.take_succ_cons] at hy
      rcases List.mem_cons.1 hy with rfl | hy
      · exact hb
      · exact a y hy
    · refine ⟨0, by simp, by simp, fun y hy => ?_⟩
      have hx := hn x (List.mem_cons_self ..)
      rw [Bool.not_eq_true, befQ_not] at hb
      have hdx : befQ d x = true := by rw [befQ_iff]; omega
      rcases List.mem_cons.1 (by simpa using hy : y ∈ x :: l) with rfl | hy
      · exact hdx
      · exact befQ_trans hdx (h1 y hy)
theorem befQ_asym {a b : Int × Int} (h : befQ a b = true) : befQ b a = false := by
  rw [befQ_iff] at h; rw [befQ_not]; omega
/-- The rows that hold dues lie where such rows lay, or in memory that was not there. -/
def RowsFrom (B : Nat) (S' : Nat → List (Int × Int)) (V' : Nat → Option Addr × Nat) (S : Nat → List (Int × Int)) (V : Nat → Option Addr × Nat) : Prop := ∀ j b o s, S' j ≠ [] → (V' j).1 = some ⟨b, o, s⟩ → B ≤ b ∨ ∃ i o' s', S i ≠ [] ∧ (V i).1 = some ⟨b, o', s'⟩
theorem RowsFrom.refl (B : Nat) (S : Nat → List (Int × Int)) (V : Nat → Option Addr × Nat) : RowsFrom B S V S V := fun j _ o s h e => .inr ⟨j, o, s, h, e⟩
theorem RowsFrom.trans {B B2 : Nat} {S S1 S2 : Nat → List (Int × Int)} {V V1 V2 : Nat → Option Addr × Nat} (h : RowsFrom B S1 V1 S V) (h2 : RowsFrom B2 S2 V2 S1 V1) (hB : B ≤ B2) : RowsFrom B S2 V2 S V := fun j b o s hn e => by
  rcases h2 j b o s hn e with h3 | ⟨i, o', s', h4, h5⟩
  · exact .inl (Nat.le_trans hB h3)
  · exact h i b o' s' h4 h5
theorem RowsFrom.mono {B B2 : Nat} {S S1 : Nat → List (Int × Int)} {V V1 : Nat → Option Addr × Nat} (h2 : RowsFrom B2 S1 V1 S V) (hB : B ≤ B2) : RowsFrom B S1 V1 S V := fun j b o s hn e => (h2 j b o s hn e).imp (Nat.le_trans hB) id
theorem RowsFrom.set {B j : Nat} {S S' : Nat → List (Int × Int)} {V V' : Nat → Option Addr × Nat} (h : RowsFrom B S' V' S V) {l : List (Int × Int)} {A : Option Addr} {c : Nat} (hA : ∀ b o s, l ≠ [] → A = some ⟨b, o, s⟩ → B ≤ b ∨ ∃ i o' s', S i ≠ [] ∧ (V i).1 = some ⟨b, o', s'⟩) : RowsFrom B (setL j l S') (setL j (A, c) V') S V := fun i b o s hn e => by
  unfold setL at hn e
  by_cases hi : i = j
  · rw [if_pos hi] at hn e; exact hA b o s hn e
  · rw [if_neg hi] at hn e; exact h i b o s hn e
theorem own_from9 {w : World} {base n c : Nat} {A : Option Addr} {l : List (Int × Int)} (h : OwnD w base (.slice A n c) l) {b o : Nat} {s : _} (e : A = some ⟨b, o, s⟩) : base ≤ b := by
  subst e
  rcases h.2 with ⟨hv, h0⟩ | ⟨g, cap, cur, hv, hg, _⟩
  · cases hv
  · cases hv; exact hg
set_option maxRecDepth 100000 in
set_option maxHeartbeats 1000000 in
theorem put_any9 (p n s : Nat) (t : Int) (S : Nat → List (Int × Int)) (V : Nat → Option Addr × Nat) (d : Int × Int) (w : World) (hW : WhAt w w.heap.size p t S V) (hn : n < 5) (hs : s < 64) (hso : SortQ (S (n * 64 + s))) (h64 : (S (n * 64 + s)).length ≤ 64) (hd : ∀ x ∈ S (n * 64 + s), x.2 ≠ d.2) :
    Calls Tryd.prog 50 #[.pointer (some ⟨p, 1 + n * 65, none⟩), .int .i64 s, dueV d] w fun e w' => (∃ v, e = .returned v) ∧ (∃ V', WhAt w' w'.heap.size p t (setL (n * 64 + s) (insQ d (S (n * 64 + s))) S) V' ∧ RowsFrom w.heap.size (setL (n * 64 + s) (insQ d (S (n * 64 + s))) S) V' S V) ∧ Only p w w' := by
  obtain ⟨k, hk, hlo, hhi⟩ := split_at9 hso hd
  have hins := insQ_at hlo hhi
  rw [hins]
  obtain ⟨W, hWe⟩ : ∃ W, W = w.alloc (.cells #[.int .i64 d.1, .int .u64 d.2] 39) := ⟨_, rfl⟩
  have hB : Below w.heap.size w W := by rw [hWe]; exact (Below.refl _ _).alloc (Nat.le_refl _) _
  have bD : QBox W w.heap.size 39 #[.int .i64 d.1, .int .u64 d.2] := by rw [hWe]; exact QBox.new _ _ _
  have hsz : W.heap.size = w.heap.size + 1 := by rw [hWe]; simp
  have HW := Lib.hid (hW.below hB)
  have hc := hW.slot n s hn hs
  have hdu := HW.out.due (n * 64 + s) (by omega)
  have HN := Lib.hid hn; have HS := Lib.hid hs
  have HB := Lib.hid hB; have HD := Lib.hid bD; have HSZ := Lib.hid hsz
  obtain ⟨d0, d1⟩ := d
  unfold dueV
  obtain ⟨e0, e1, _, _⟩ := bD.two
  have hi0 : (0 : Int) ≤ (s : Int) := by omega
  have hi1 : (s : Int) < 64 := by omega
  have hln := Nat.ne_of_lt hW.lt
  have hlt := hW.lt
  generalize hVe : V (n * 64 + s) = VA at *
  obtain ⟨A, c⟩ := VA
  have HLO := Lib.hid (fun (Z : World) (hr : DuesR Z Z.heap.size A (S (n * 64 + s)).length c (S (n * 64 + s))) => search_any A _ c k _ (d0, d1) Z hr hk (by omega) hlo (fun x hx => befQ_asym (hhi x hx)))
  unfold dueV at HLO
  have hcap := hdu.row.cap
  have htop := hdu.row.top
  unfold maxLen at htop
  have HDU := Lib.hid hdu
  have HVE := Lib.hid hVe
  clear hlo hhi hins hso hd hW hB bD hsz hdu hVe hn hs
  generalize hL : S (n * 64 + s) = L at *
  generalize hN : L.length = N at *
  have HL := Lib.hid hL
  have HNN := Lib.hid hN
  clear hL hN
  go_enter Tryd.func50, Tryd.ntmps50
  go_wp2_with fail
  rw [← hWe]
  clear hWe
  refine (HLO.out W (HDU.out.row.mono (by have := HSZ.out; omega))).mono ?_
  rintro e w1 ⟨⟨bo, rfl⟩, hb1⟩
  have HB1 := Lib.hid (HB.out.trans (hb1.mono HB.out.size))
  have HW1 := Lib.hid (HW.out.below (hb1.mono HB.out.size))
  have HD1 := Lib.hid (HD.out.belowAll hb1)
  have HU1 := Lib.hid (HDU.out.below (hb1.mono HB.out.size))
  have HZ1 := Lib.hid (show w.heap.size + 1 ≤ w1.heap.size by have := hb1.size; have := HSZ.out; omega)
  have hpw : p ≠ w.heap.size := hln
  clear hb1 e0 e1 HLO hc HW HD HDU HB hlt hln HSZ
  have k0 : (0 : Int) ≤ (k : Int) := by omega
  have k1 : (k : Int) ≤ (N : Int) := by omega
  have k2 : (k : Int) ≤ (c : Int) := by omega
  have k3 : (N : Int) ≤ (c : Int) := by omega
  obtain ⟨e0, e1, _, _⟩ := HD1.out.two
  have hBE := Below.refl w1.heap.size w1
  have HH := Lib.hid (fun (W' : World) (hW : Below w1.heap.size w1 W') => (⟨by
    obtain ⟨a0, a1, _, _⟩ := (HD1.out.belowAll hW).two
    exact ⟨a0, a1⟩⟩ : PLift (W'.cell? ⟨w.heap.size, 0, none⟩ = some (.int .i64 d0) ∧ W'.cell? ⟨w.heap.size, 1, none⟩ = some (.int .u64 d1))).down)
  have HT := Lib.hid (fun (W' : World) (hW : Below w1.heap.size w1 W') => (HU1.out.below (hW.mono (by have := HZ1.out; omega))).row.take k k (by omega) (Nat.le_refl _) (by omega))
  by_cases hck : c = k
  · have hNk : N = k := by omega
    subst hck
    subst hNk
    have hA0 : A = none → (0 : Nat) = 0 := fun _ => rfl
    have HQ := Lib.hid (fun (W' W'' : World) (hW : Below w1.heap.size w1 W') (ho : Only p W' W'') => (⟨by
      have hx := HD1.out.belowAll hW
      have hy : QBox W'' w.heap.size 39 #[.int .i64 d0, .int .u64 d1] := (ho.block _ hx.lt (Ne.symm hpw)).trans hx
      obtain ⟨a0, a1, _, _⟩ := hy.two
      exact ⟨a0, a1⟩⟩ : PLift (W''.cell? ⟨w.heap.size, 0, none⟩ = some (.int .i64 d0) ∧ W''.cell? ⟨w.heap.size, 1, none⟩ = some (.int .u64 d1))).down)
    have HP := Lib.hid (fun (W' : World) => (⟨by rw [List.length_drop, HNN.out]; omega, Nat.le_refl _, by unfold maxLen; omega, fun i r hr => by rw [List.drop_eq_nil_of_le (by rw [HNN.out]; exact Nat.le_refl _)] at hr; simp at hr⟩ : DuesR W' w.heap.size A 0 0 (L.drop N)))
    have HZ := Lib.hid (fun (W' : World) (hW : Below w1.heap.size w1 W') => (HW1.out.below (hW.mono (by have := HZ1.out; omega))).mono (show w.heap.size ≤ W'.heap.size by have := hW.size; have := HZ1.out; omega))
    go_wp2_with fail
    go_region_held3 (fun W' => W'.cell? ⟨w.heap.size, 0, none⟩ = some (.int .i64 d0) ∧ W'.cell? ⟨w.heap.size, 1, none⟩ = some (.int .u64 d1)) (first | exact HH.out _ hBE | exact HH.out _ hBE.drew | exact HH.out _ (hBE.drew.alloc hBE.size _) | exact HH.out _ (hBE.alloc hBE.size _).drew | exact HQ.out _ _ hBE ho5) (first
      | (refine step_cut9 rfl _ _ rfl rfl rfl (HT.out _ (by first | exact (hBE.alloc hBE.size _).drew | exact hBE.drew.alloc hBE.size _)) (dues_box (by first | exact QBox.new w1 _ _ | exact (QBox.new w1 _ _).drewN 1 | exact QBox.new w1.drew _ _)) (by decide) (by omega) ?_; intro g cap w3 hown3 hb3; (have hq3 := (hBE.alloc hBE.size _).drew.trans (hb3.mono (by simp))); replace hBE := hq3; replace hown3 := hown3.mono (base' := w1.heap.size) (by simp))
      | (refine step_own9 (n := 200) rfl _ _ rfl rfl rfl hown3 (HP.out _) hBE.size (by simp; omega) (by decide) (fun _ => rfl) ?_; intro v4 w4 hown4 hg4 ha4; (have hq4 := below_own9 hBE hown3 hg4 hBE.size); replace hBE := hq4; (have hr4 := hown4.rowN); obtain ⟨A4, n4, c4, rfl, hd4⟩ := hr4)
      | (go_at_call 51; (with_reducible refine (set_any9 p n s t S V A4 n4 c4 _ _ (HZ.out _ hBE) HN.out HS.out hd4).mono ?_); rintro e w5 ⟨⟨v, rfl⟩, hW5, ho5⟩))
    go_wp2_with fail
    go_end0
    rw [List.append_assoc] at hW5
    exact ⟨⟨_, rfl⟩, ⟨_, hW5, (RowsFrom.refl _ _ _).set (fun b o s _ e => .inl (by have := own_from9 hown4 e; have := HZ1.out; omega))⟩, (Only.of (HB1.out.trans (hBE.mono (by have := HZ1.out; omega)))).trans ho5⟩
  · obtain ⟨b, o, rfl⟩ : ∃ b o, A = some ⟨b, o, none⟩ := by
      rcases HU1.out.shape with ⟨_, h⟩ | h
      · omega
      · exact h
    go_wp2_with fail
    have HQ := Lib.hid (fun (W' W'' : World) (hW : Below w1.heap.size w1 W') (ho : Only p W' W'') => (⟨by
      have hx := HD1.out.belowAll hW
      have hy : QBox W'' w.heap.size 39 #[.int .i64 d0, .int .u64 d1] := (ho.block _ hx.lt (Ne.symm hpw)).trans hx
      obtain ⟨a0, a1, _, _⟩ := hy.two
      exact ⟨a0, a1⟩⟩ : PLift (W''.cell? ⟨w.heap.size, 0, none⟩ = some (.int .i64 d0) ∧ W''.cell? ⟨w.heap.size, 1, none⟩ = some (.int .u64 d1))).down)
    have HP := Lib.hid (fun (W' : World) (hW : Below w1.heap.size w1 W') => (HU1.out.below (hW.mono (by have := HZ1.out; omega))).row.drop k hk)
    have HZ := Lib.hid (fun (W' : World) (hW : Below w1.heap.size w1 W') => (HW1.out.below (hW.mono (by have := HZ1.out; omega))).mono (show w.heap.size ≤ W'.heap.size by have := hW.size; have := HZ1.out; omega))
    go_region_held3 (fun W' => W'.cell? ⟨w.heap.size, 0, none⟩ = some (.int .i64 d0) ∧ W'.cell? ⟨w.heap.size, 1, none⟩ = some (.int .u64 d1)) (first | exact HH.out _ hBE | exact HH.out _ hBE.drew | exact HH.out _ (hBE.drew.alloc hBE.size _) | exact HH.out _ (hBE.alloc hBE.size _).drew | exact HQ.out _ _ hBE ho5) (first
      | (refine step_cut9 rfl _ _ rfl rfl rfl (HT.out _ (by first | exact (hBE.alloc hBE.size _).drew | exact hBE.drew.alloc hBE.size _)) (dues_box (by first | exact QBox.new w1 _ _ | exact (QBox.new w1 _ _).drewN 1 | exact QBox.new w1.drew _ _)) (by decide) (by omega) ?_; intro g cap w3 hown3 hb3; (have hq3 := (hBE.alloc hBE.size _).drew.trans (hb3.mono (by simp))); replace hBE := hq3; replace hown3 := hown3.mono (base' := w1.heap.size) (by simp))
      | (refine step_own9 (n := 200) rfl _ _ rfl rfl rfl hown3 (HP.out _ hBE) hBE.size (by simp; omega) (by decide) (by simp) ?_; intro v4 w4 hown4 hg4 ha4; (have hq4 := below_own9 hBE hown3 hg4 hBE.size); replace hBE := hq4; (have hr4 := hown4.rowN); obtain ⟨A4, n4, c4, rfl, hd4⟩ := hr4)
      | (go_at_call 51; (with_reducible refine (set_any9 p n s t S V A4 n4 c4 _ _ (HZ.out _ hBE) HN.out HS.out hd4).mono ?_); rintro e w5 ⟨⟨v, rfl⟩, hW5, ho5⟩))
    go_wp2_with fail
    go_end0
    rw [List.append_assoc] at hW5
    exact ⟨⟨_, rfl⟩, ⟨_, hW5, (RowsFrom.refl _ _ _).set (fun b o s _ e => .inl (by have := own_from9 hown4 e; have := HZ1.out; omega))⟩, (Only.of (HB1.out.trans (hBE.mono (by have := HZ1.out; omega)))).trans ho5⟩
set_option maxRecDepth 100000 in
set_option maxHeartbeats 1000000 in
theorem cut_any9 (p n s k : Nat) (t : Int) (S : Nat → List (Int × Int)) (V : Nat → Option Addr × Nat) (w : World) (hW : WhAt w w.heap.size p t S V) (hn : n < 5) (hs : s < 64) (h64 : (S (n * 64 + s)).length ≤ 64) (hk : k < (S (n * 64 + s)).length) :
    Calls Tryd.prog 39 #[.pointer (some ⟨p, 1 + n * 65, none⟩), .int .i64 s, .int .i64 k] w fun e w' => (∃ v, e = .returned v) ∧ (∃ V', WhAt w' w'.heap.size p t (setL (n * 64 + s) ((S (n * 64 + s)).take k ++ (S (n * 64 + s)).drop (k + 1)) S) V' ∧ RowsFrom w.heap.size (setL (n * 64 + s) ((S (n * 64 + s)).take k ++ (S (n * 64 + s)).drop (k + 1)) S) V' S V) ∧ Only p w w' := by
  have hc := hW.slot n s hn hs
  have hdu := hW.due (n * 64 + s) (by omega)
  have HN := Lib.hid hn; have HS := Lib.hid hs
  have hi0 : (0 : Int) ≤ (s : Int) := by omega
  have hi1 : (s : Int) < 64 := by omega
  have HW := Lib.hid hW
  generalize hVe : V (n * 64 + s) = VA at *
  obtain ⟨A, c⟩ := VA
  have hcap := hdu.row.cap
  have htop := hdu.row.top
  unfold maxLen at htop
  obtain ⟨b, o, rfl⟩ : ∃ b o, A = some ⟨b, o, none⟩ := by
    rcases hdu.shape with ⟨_, h⟩ | h
    · omega
    · exact h
  have HDU := Lib.hid hdu
  have HVE := Lib.hid (show S (n * 64 + s) ≠ [] ∧ (V (n * 64 + s)).1 = some ⟨b, o, none⟩ from ⟨fun e => by rw [e] at hk; simp at hk, by rw [hVe]⟩)
  clear hVe hn hs hW hdu
  generalize hL : S (n * 64 + s) = L at *
  generalize hN : L.length = N at *
  have HL := Lib.hid hL
  have HNN := Lib.hid hN
  clear hL hN
  have k0 : (0 : Int) ≤ (k : Int) := by omega
  have k1 : (k : Int) ≤ (N : Int) := by omega
  have k2 : (k : Int) ≤ (c : Int) := by omega
  have k3 : (N : Int) ≤ (c : Int) := by omega
  have k4 : (k : Int) + 1 ≤ (N : Int) := by omega
  have k5 : (k : Int) + 1 ≤ (c : Int) := by omega
  have k7 : (0 : Int) ≤ (k : Int) + 1 := by omega
  have k8 : (k : Int) ≤ (k : Int) + 1 := by omega
  have k6 : IntKind.i64.wrap ((k : Int) + 1) = (k : Int) + 1 := by simp [IntKind.wrap, IntKind.bits, IntKind.signed]; omega
  have hBE := Below.refl w.heap.size w
  have HT := Lib.hid (fun (W' : World) (hW : Below w.heap.size w W') => (HDU.out.below hW).take k k (by omega) (Nat.le_refl _) (by omega))
  have HZ := Lib.hid (fun (W' : World) (hW : Below w.heap.size w W') => (HW.out.below hW).mono hW.size)
  go_enter Tryd.func39, Tryd.ntmps39
  go_wp2_with fail
  by_cases hm : N = k + 1
  · have HD0 := Lib.hid (show L.drop (k + 1) = [] by rw [List.drop_eq_nil_iff]; rw [HNN.out, hm]; exact Nat.le_refl _)
    subst hm
    by_cases hck : c = k + 1
    · subst hck
      go_region_held3 (fun _ => True) (exact True.intro) (first
        | (refine step_zero9 rfl _ _ rfl rfl rfl (Nat.le_refl _) (fun e => by cases e) ?_)
        | (go_at_call 51; (with_reducible refine (set_any9 p n s t S V _ k k _ _ (HZ.out _ hBE.drew) HN.out HS.out (DuesT.mono (HT.out _ hBE.drew) (by simp))).mono ?_); rintro e w5 ⟨⟨v, rfl⟩, hW5, ho5⟩))
      go_wp2_with fail
      go_end0
      rw [HD0.out, List.append_nil]
      exact ⟨⟨_, rfl⟩, ⟨_, hW5, (RowsFrom.refl _ _ _).set (fun b' o' s' _ e => .inr ⟨n * 64 + s, o, none, by rw [HL.out]; exact HVE.out.1, by rw [HVE.out.2]; cases e; rfl⟩)⟩, (Only.of hBE.drew).trans ho5⟩
    · go_region_held3 (fun _ => True) (exact True.intro) (first
        | (refine step_zero9 rfl _ _ rfl rfl rfl (Nat.le_refl _) (fun e => by cases e) ?_)
        | (go_at_call 51; (with_reducible refine (set_any9 p n s t S V _ k k _ _ (HZ.out _ hBE.drew) HN.out HS.out (DuesT.mono (HT.out _ hBE.drew) (by simp))).mono ?_); rintro e w5 ⟨⟨v, rfl⟩, hW5, ho5⟩))
      go_wp2_with fail
      go_end0
      rw [HD0.out, List.append_nil]
      exact ⟨⟨_, rfl⟩, ⟨_, hW5, (RowsFrom.refl _ _ _).set (fun b' o' s' _ e => .inr ⟨n * 64 + s, o, none, by rw [HL.out]; exact HVE.out.1, by rw [HVE.out.2]; cases e; rfl⟩)⟩, (Only.of hBE.drew).trans ho5⟩
  · have HP := Lib.hid (fun (W' : World) (hW : Below w.heap.size w W') => (HDU.out.below hW).row.drop (k + 1) (by omega))
    have hck : ¬ c = k + 1 := by omega
    go_region_held3 (fun _ => True) (exact True.intro) (first
      | (refine step_cut9 rfl _ _ rfl rfl rfl (HT.out _ hBE.drew).row (HP.out _ hBE.drew) (by omega) (by omega) ?_; intro g cap w3 hown3 hb3; (have hq3 := hBE.drew.trans hb3); replace hBE := hq3; (have hr3 := hown3.rowN); obtain ⟨A3, n3, c3, he3, hd3⟩ := hr3; cases he3)
      | (go_at_call 51; (with_reducible refine (set_any9 p n s t S V _ _ _ _ _ (HZ.out _ hBE) HN.out HS.out hd3).mono ?_); rintro e w5 ⟨⟨v, rfl⟩, hW5, ho5⟩))
    go_wp2_with fail
    go_end0
    exact ⟨⟨_, rfl⟩, ⟨_, hW5, (RowsFrom.refl _ _ _).set (fun b' o' s' _ e => .inl (own_from9 hown3 e))⟩, (Only.of hBE).trans ho5⟩
end Go.Proofs.YtidgiohjgkfjcaaDoor
