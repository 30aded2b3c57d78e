/- Add: walked. -/
import Derived.Test.YthngjbnbloboiaaGreatDoorKVChange
import Derived.Deep.DeepCutAuto
import Derived.Deep.RegionHeld3
namespace Go.Proofs.YthngjbnbloboiaaGreatDoor
open Go.RowKit

def AddNo (ev : List (BitVec 64) → Bool) (l : List RowZ) (j : JobZ) (now z : Int) : Prop := RightT ev l → D.timeB now = true → j.err ev = 0 → ((∃ r ∈ l, r.j.n = j.n) ∧ z = 5) ∨ ((∀ r ∈ l, r.j.n ≠ j.n) ∧ (12 ≤ l.length ∨ ∃ t, FirstT (j.TT ev) now t false))
def AddYes (ev : List (BitVec 64) → Bool) (l : List RowZ) (j : JobZ) (now : Int) : Prop := RightT ev l ∧ D.timeB now = true ∧ j.err ev = 0 ∧ (∀ r ∈ l, r.j.n ≠ j.n) ∧ l.length < 12
/-- What Add comes to. -/
def AddIs (ev : List (BitVec 64) → Bool) (l : List RowZ) (j : JobZ) (now : Int) (e : Ending) (w : World) : Prop :=
  (∃ z, z ≠ 0 ∧ e = .returned (.tuple #[.slice none 0 0, .int .i64 z]) ∧ AddNo ev l j now z) ∨
  (AddYes ev l j now ∧ ∃ nx A n c ms, e = .returned (.tuple #[.slice A n c, .int .i64 0]) ∧ TabR w A n c ms ∧ ms.map (·.1) = insR (newR j nx) l ∧ FirstT (j.TT ev) now nx true)
theorem add_split {j : JobZ} {nx : Int} {ms : List RowM} (hp : (ms.map (·.1)).Pairwise (fun a b => a.j.n < b.j.n)) (hn : ∀ r ∈ ms.map (·.1), r.j.n ≠ j.n) (k : Nat) (hk : k ≤ ms.length) (h1 : ∀ (i : Nat) (x : RowM), i < k → ms[i]? = some x → ¬ j.n < x.1.j.n) (h2 : ∀ x : RowM, ms[k]? = some x → j.n < x.1.j.n) (v : Value) :
    (ms.take k ++ [(newR j nx, v)] ++ ms.drop k).map (·.1) = insR (newR j nx) (ms.map (·.1)) := by
  rw [ins_split (r := newR j nx) hp hn k (by rw [List.length_map]; exact hk) (fun i x hi hx => ?_) (fun x hx => ?_)]
  · simp [List.map_append, List.map_take, List.map_drop]
  · rw [List.getElem?_map] at hx
    cases hm : ms[i]? with
    | none => rw [hm] at hx; cases hx
    | some m => rw [hm] at hx; cases hx; exact h1 i m hi hm
  · rw [List.getElem?_map] at hx
    cases hm : ms[k]? with
    | none => rw [hm] at hx; cases hx
    | some m => rw [hm] at hx; cases hx; exact h2 m hm
theorem box_drew {W : World} {g ty : Nat} {cs : Array Value} (h : D.Box W g ty cs) : D.Box W.drew g ty cs := h
theorem tab_one {W : World} {g : Nat} {r : RowZ} (hf : r.Fit) (hq : r.q = []) (h : D.Box W g 39 (rowC r (.slice none 0 0)).toArray) : TabR W (some ⟨g, 0, none⟩) 1 1 [(r, .slice none 0 0)] := by
  refine ⟨rfl, by omega, by decide, fun h => by (cases h), fun j u hj => ⟨_, 0, rfl, D.Box.lt h, ?_⟩, fun m hm => ?_⟩
  · rw [Nat.zero_add, D.Box.cell h j, List.getElem?_toArray]
    rw [List.flatMap_cons, List.flatMap_nil, List.append_nil] at hj
    exact hj
  · rw [List.mem_singleton] at hm
    subst hm
    exact ⟨hf, by show QR W _ r.q; rw [hq]; exact .nil W⟩
set_option maxRecDepth 100000 in
set_option maxHeartbeats 4000000 in
theorem add_any (ev : List (BitVec 64) → Bool) (hev : EvIs ev) (A : Option Addr) (nn cc : Nat) (ms : List RowM) (j : JobZ) (now : Int) (w : World) (hL : LaidC w) (ht : TabR w A nn cc ms) (hA : A = none ∨ ∃ bl of, A = some ⟨bl, of, none⟩) (hj : j.Fit) :
    Calls Tryz.prog 7 #[.slice A nn cc, jobV j, .int .i64 now] w fun e w' => AddIs ev (ms.map (·.1)) j now e w' ∧ Below w.heap.size w w' := by
  have hb0 := new_below w (.cells (jobC j).toArray 29)
  have hx0 := D.Box.new w 29 (jobC j).toArray
  obtain ⟨W0, hW0⟩ : ∃ W : World, W = w.alloc (.cells (jobC j).toArray 29) := ⟨_, rfl⟩
  rw [← hW0] at hb0 hx0
  have HB0 := Lib.hid hb0; have HT := Lib.hid (ht.on hb0); have HL := Lib.hid (hL.on hb0)
  have HBX : Hid (∀ W, Below W0.heap.size W0 W → D.Box W w.heap.size 29 (jobC j).toArray) := Lib.hid (fun W hb => D.Box.belowAll hx0 hb)
  have HE : Hid (∀ W, Below W0.heap.size W0 W → Below w.heap.size w W) := Lib.hid (fun W hb => HB0.out.trans (hb.mono HB0.out.size))
  have HLJ : Hid (∀ W, Below W0.heap.size W0 W → LoadIs W 29 w.heap.size 0 (jobV j)) := Lib.hid (fun W hb => load_of (HBX.out W hb) 0 11 _ (fun i u hi => by rw [Nat.zero_add]; exact hi) und_job size_job (jobC_len hj))
  have HNC : Hid (∀ W, Below W0.heap.size W0 W → W.cell? ⟨w.heap.size, 0, none⟩ = some (.int .u32 j.n)) := Lib.hid (fun W hb => by rw [D.Box.cell (HBX.out W hb) 0]; rfl)
  have HGL : Hid (∀ W, Below W0.heap.size W0 W → w.heap.size < W.heap.size) := Lib.hid (fun W hb => D.Box.lt (HBX.out W hb))
  have HCK := Lib.hid (check_any ev hev A nn cc ms W0 HL.out HT.out)
  have HMY := Lib.hid (fun W => D.may_any now W)
  have HJC := Lib.hid (fun W hW => jcheck_any ev hev j W hW hj)
  have HFJ := Lib.hid (fun W hW => jfirst_any ev hev j now W hW hj)
  unfold TimeIs at HFJ
  have HFN := Lib.hid (fun gy W (hb : Below W0.heap.size W0 W) h1 h2 => find_named A nn cc gy ms j.n W (HT.out.on hb) h1 h2)
  have HFA := Lib.hid (fun W (hb : Below W0.heap.size W0 W) => find_add A nn cc w.heap.size ms j.n W (HT.out.on hb) (HGL.out W hb) (HNC.out W hb))
  have HLN := Lib.hid ht.len
  have hcap := ht.cap
  have HTOP := Lib.hid ht.top
  have HSP := Lib.hid (fun (nx : Int) => add_split (j := j) (nx := nx) (ms := ms))
  have HRT : Hid (RightT ev (ms.map (·.1)) → (ms.map (·.1)).Pairwise (fun a b => a.j.n < b.j.n) ∧ ∀ m ∈ ms, m.1.q.length ≤ 100) := Lib.hid (fun h => ⟨h.names, fun m hm => by have := (h.rows m.1 (List.mem_map_of_mem hm)).q3; omega⟩)
  have HNO : Hid (∀ z e w', z ≠ 0 → e = .returned (.tuple #[.slice none 0 0, .int .i64 z]) → AddNo ev (ms.map (·.1)) j now z → AddIs ev (ms.map (·.1)) j now e w') := Lib.hid (fun z e w' h1 h2 h3 => .inl ⟨z, h1, h2, h3⟩)
  have HYES : Hid (∀ (nx : Int) (A' : Option Addr) (n' c' : Nat) (ms' : List RowM) w', AddYes ev (ms.map (·.1)) j now → TabR w' A' n' c' ms' → ms'.map (·.1) = insR (newR j nx) (ms.map (·.1)) → FirstT (j.TT ev) now nx true → AddIs ev (ms.map (·.1)) j now (.returned (.tuple #[.slice A' n' c', .int .i64 0])) w') := Lib.hid (fun nx A' n' c' ms' w' h1 h2 h3 h4 => .inr ⟨h1, nx, A', n', c', ms', rfl, h2, h3, h4⟩)
  have HMEM : Hid ((∀ m ∈ ms, ¬ m.1.j.n = j.n) → ∀ r ∈ ms.map (·.1), r.j.n ≠ j.n) := Lib.hid (fun h r hr => by obtain ⟨m, hm, rfl⟩ := List.mem_map.1 hr; exact h m hm)
  have HLEN : Hid ((ms.map (·.1)).length = nn) := Lib.hid (by rw [List.length_map]; exact ht.len)
  have HAN : Hid (∀ z, AddNo ev (ms.map (·.1)) j now z = (RightT ev (ms.map (·.1)) → D.timeB now = true → j.err ev = 0 → ((∃ r ∈ ms.map (·.1), r.j.n = j.n) ∧ z = 5) ∨ ((∀ r ∈ ms.map (·.1), r.j.n ≠ j.n) ∧ (12 ≤ (ms.map (·.1)).length ∨ ∃ t, FirstT (j.TT ev) now t false)))) := Lib.hid (fun z => rfl)
  have HAY : Hid (AddYes ev (ms.map (·.1)) j now = (RightT ev (ms.map (·.1)) ∧ D.timeB now = true ∧ j.err ev = 0 ∧ (∀ r ∈ ms.map (·.1), r.j.n ≠ j.n) ∧ (ms.map (·.1)).length < 12)) := Lib.hid rfl
  have HJF := Lib.hid hj
  have HAE : Hid (A = none → cc = 0) := Lib.hid ht.non
  generalize AddIs ev (ms.map (·.1)) j now = AI at *
  generalize AddNo ev (ms.map (·.1)) j now = AN at *
  generalize AddYes ev (ms.map (·.1)) j now = AY at *
  generalize RightT ev (ms.map (·.1)) = PT at *
  generalize D.timeB now = TB at *
  generalize j.err ev = z at *
  generalize j.TT ev = TT at *
  obtain ⟨JV, hJV⟩ : ∃ JV, jobV j = JV := ⟨_, rfl⟩
  have HJV : Hid (JV = .agg (jobC j).toArray) := Lib.hid hJV.symm
  rw [hJV] at HLJ HJC HFJ
  have hsh : jobV j = .agg (jobC j).toArray := rfl
  rw [hsh]
  clear hL ht hj hb0 hx0 hev hsh hJV
  go_enter Tryz.func7, Tryz.ntmps7
  go_upto_region 1 with fail
  rw [← hW0]
  clear hW0
  go_wp2_with fail
  refine HCK.out.mono ?_
  rintro e w1 ⟨⟨hp, rfl⟩ | ⟨hp, rfl⟩, hb⟩
  case inr =>
    have HB1 := Lib.hid hb
    have HF : Hid (AN 210) := Lib.hid (by rw [HAN.out]; exact fun h => absurd h hp)
    as_aux_lemma =>
      go_wp2_with fail
      exact bodyPost_ret (v := .tuple #[.slice none 0 0, .int .i64 210]) (by simp [results, Tryz.results7, go_sem]) rfl ⟨HNO.out 210 _ _ (by decide) rfl HF.out, HE.out _ HB1.out⟩
  have HB1 := Lib.hid hb; have HP := Lib.hid hp
  clear hb hp HCK
  go_wp2_with fail
  refine (HMY.out _).mono ?_
  rintro e w2 ⟨rfl, rfl⟩
  cases hTB : TB with
  | false =>
    have HF : Hid (AN 2) := Lib.hid (by rw [HAN.out, hTB]; exact fun _ h => by cases h)
    as_aux_lemma =>
      go_wp2_with fail
      exact bodyPost_ret (v := .tuple #[.slice none 0 0, .int .i64 2]) (by simp [results, Tryz.results7, go_sem]) rfl ⟨HNO.out 2 _ _ (by decide) rfl HF.out, HE.out _ HB1.out⟩
  | true =>
  subst hTB
  have HL1 := Lib.hid (HLJ.out _ HB1.out)
  clear HMY
  go_wp2_with (refine list_load rfl _ rfl rfl HL1.out ?_)
  refine (HJC.out _ (HL.out.on HB1.out)).mono ?_
  rintro e w3 ⟨rfl, hb⟩
  have HB3 := Lib.hid (HB1.out.trans (hb.mono HB1.out.size))
  clear hb HJC HL1 HB1
  by_cases hz : z = 0
  case neg =>
    have hz1 : (z != 0) = true := by simpa using hz
    have HF : Hid (AN z) := Lib.hid (by rw [HAN.out]; exact fun _ _ h => absurd h hz)
    have HZ := Lib.hid hz
    clear hz
    as_aux_lemma =>
      go_wp2_with fail
      exact bodyPost_ret (v := .tuple #[.slice none 0 0, .int .i64 z]) (by simp [results, Tryz.results7, go_sem]) rfl ⟨HNO.out z _ _ HZ.out rfl HF.out, HE.out _ HB3.out⟩
  subst hz
  have hnc := HNC.out _ HB3.out
  go_wp2_with fail
  refine (named_any j.n w3).mono ?_
  rintro e w4 ⟨rfl, hl4, hc4, hb⟩
  have HB4 := Lib.hid (HB3.out.trans (hb.mono HB3.out.size))
  have HFF := Lib.hid (HFN.out _ w4 HB4.out hl4 hc4)
  clear hb hl4 hc4 HFN hnc HB3
  go_wp2_with fail
  refine HFF.out.mono ?_
  rintro e w5 ⟨hfd, hb⟩
  have HB5 := Lib.hid (HB4.out.trans (hb.mono HB4.out.size))
  obtain ⟨at1, there, rfl, hth⟩ : ∃ (at1 : Int) (there : Bool), e = .returned (.tuple #[.int .i64 at1, .bool there]) ∧ ((there = true ∧ ∃ r ∈ ms.map (·.1), r.j.n = j.n) ∨ (there = false ∧ ∀ m ∈ ms, ¬ m.1.j.n = j.n)) := by
    rcases hfd with ⟨rfl, h⟩ | ⟨k, m, rfl, hk, hn, _⟩
    · exact ⟨_, _, rfl, .inr ⟨rfl, h⟩⟩
    · exact ⟨_, _, rfl, .inl ⟨rfl, m.1, List.mem_map_of_mem (List.mem_of_getElem? hk), hn⟩⟩
  have HTH := Lib.hid hth
  have HF5 := Lib.hid (HFA.out w5 HB5.out)
  clear hb hfd hth HFF HFA HB4
  go_wp2_with fail
  refine HF5.out.mono ?_
  rintro e w6 ⟨hfd, hb⟩
  have HB6 := Lib.hid (HB5.out.trans (hb.mono HB5.out.size))
  obtain ⟨k, fnd, rfl, hkn, hk1, hk2⟩ : ∃ (k : Nat) (fnd : Bool), e = .returned (.tuple #[.int .i64 (k : Int), .bool fnd]) ∧ k ≤ nn ∧ (∀ (i : Nat) (x : RowM), i < k → ms[i]? = some x → ¬ j.n < x.1.j.n) ∧ (∀ x : RowM, ms[k]? = some x → j.n < x.1.j.n) := by
    rcases hfd with ⟨rfl, h⟩ | ⟨k, m, rfl, hk, hn, hi⟩
    · exact ⟨ms.length, false, rfl, by rw [HLN.out]; exact Nat.le_refl _, fun i x _ hx => h x (List.mem_of_getElem? hx), fun x hx => by rw [List.getElem?_eq_none (Nat.le_refl _)] at hx; cases hx⟩
    · exact ⟨k, true, rfl, by have := (List.getElem?_eq_some_iff.1 hk).1; have := HLN.out; omega, hi, fun x hx => by rw [hk] at hx; cases hx; exact hn⟩
  have HK1 := Lib.hid hk1; have HK2 := Lib.hid hk2
  have HL6 := Lib.hid (HLJ.out _ HB6.out)
  clear hb hfd hk1 hk2 HF5 HB5
  go_wp2_with (refine list_load rfl _ rfl rfl HL6.out ?_)
  refine (HFJ.out _ (HL.out.on HB6.out)).mono ?_
  rintro e w7 ⟨⟨nx, due, rfl, hdue⟩, hb⟩
  have HB7 := Lib.hid (HB6.out.trans (hb.mono HB6.out.size)); have HDUE := Lib.hid hdue
  clear hb hdue HFJ HL6 HB6
  rcases HTH.out with ⟨rfl, hth⟩ | ⟨rfl, hth⟩
  · have HF : Hid (AN 5) := Lib.hid (by rw [HAN.out]; exact fun _ _ _ => .inl ⟨hth, rfl⟩)
    clear hth
    as_aux_lemma =>
      go_wp2_with fail
      exact bodyPost_ret (v := .tuple #[.slice none 0 0, .int .i64 5]) (by simp [results, Tryz.results7, go_sem]) rfl ⟨HNO.out 5 _ _ (by decide) rfl HF.out, HE.out _ HB7.out⟩
  have HNT := Lib.hid (HMEM.out hth)
  clear hth HTH
  by_cases hn12 : 12 ≤ nn
  · have hn' : (12 : Int) ≤ (nn : Int) := by omega
    have HF : Hid (AN 6) := Lib.hid (by rw [HAN.out]; exact fun _ _ _ => .inr ⟨HNT.out, .inl (by rw [HLEN.out]; exact hn12)⟩)
    as_aux_lemma =>
      go_wp2_with fail
      exact bodyPost_ret (v := .tuple #[.slice none 0 0, .int .i64 6]) (by simp [results, Tryz.results7, go_sem]) rfl ⟨HNO.out 6 _ _ (by decide) rfl HF.out, HE.out _ HB7.out⟩
  have hn' : ¬ (12 : Int) ≤ (nn : Int) := by omega
  cases due with
  | false =>
    have HF : Hid (AN 211) := Lib.hid (by rw [HAN.out]; exact fun _ _ _ => .inr ⟨HNT.out, .inr ⟨_, HDUE.out⟩⟩)
    as_aux_lemma =>
      go_wp2_with fail
      exact bodyPost_ret (v := .tuple #[.slice none 0 0, .int .i64 211]) (by simp [results, Tryz.results7, go_sem]) rfl ⟨HNO.out 211 _ _ (by decide) rfl HF.out, HE.out _ HB7.out⟩
  | true =>
  have HYY : Hid AY := Lib.hid (by rw [HAY.out]; exact ⟨HP.out, by first | rfl | trivial, by first | rfl | trivial, HNT.out, by rw [HLEN.out]; omega⟩)
  have hBE := HB7.out
  have g1 : (0 : Int) ≤ (k : Int) := by omega
  have g2 : (k : Int) ≤ (nn : Int) := by omega
  have g3 : (k : Int) ≤ (cc : Int) := by omega
  go_upto_region 17 with fail
  go_cut [6, 7] from 57 to 67 (fun s6 s7 wx => s7 = .int .i64 0 ∧ ∃ A' n' c' ms', s6 = .slice A' n' c' ∧ TabR wx A' n' c' ms' ∧ ms'.map (·.1) = insR (newR j nx) (ms.map (·.1)) ∧ Below W0.heap.size W0 wx)
  case rest =>
    obtain ⟨rfl, A', n', c', ms', rfl, ht', ho, hb⟩ := hcut
    have HT' := Lib.hid ht'; have HO := Lib.hid ho; have HB8 := Lib.hid hb
    clear hb ht' ho
    as_aux_lemma =>
      go_wp2_with fail
      exact bodyPost_ret (v := .tuple #[.slice A' n' c', .int .i64 0]) (by simp [results, Tryz.results7, go_sem]) rfl ⟨HYES.out nx A' n' c' ms' _ HYY.out HT'.out HO.out HDUE.out, HE.out _ HB8.out⟩
  case first =>
    have HSPL := Lib.hid (HSP.out nx (HRT.out HP.out).1 HNT.out k (by rw [HLN.out]; exact hkn) HK1.out HK2.out (.slice none 0 0))
    have HQL := Lib.hid (HRT.out HP.out).2
    have hjf := HJF.out
    obtain ⟨n, o, L, t, ov, ca, re⟩ := j
    have h5 := hjf.2.2
    simp only at h5
    obtain ⟨a, b, c, d, e, rfl⟩ := list_five h5
    have HFN : Hid ((newR ⟨n, o, [a, b, c, d, e], t, ov, ca, re⟩ nx).Fit) := Lib.hid ⟨hjf, Int.le_refl _⟩
    have HCC : Hid (∀ W', Below W0.heap.size W0 W' → W'.cell? ⟨w.heap.size, 0, none⟩ = some (.int .u32 n) ∧ W'.cell? ⟨w.heap.size, 1, none⟩ = some (.bool o) ∧ W'.cell? ⟨w.heap.size, 2, none⟩ = some (.int .u64 (U a)) ∧ W'.cell? ⟨w.heap.size, 3, none⟩ = some (.int .u64 (U b)) ∧ W'.cell? ⟨w.heap.size, 4, none⟩ = some (.int .u64 (U c)) ∧ W'.cell? ⟨w.heap.size, 5, none⟩ = some (.int .u64 (U d)) ∧ W'.cell? ⟨w.heap.size, 6, none⟩ = some (.int .u64 (U e)) ∧ W'.cell? ⟨w.heap.size, 7, none⟩ = some (.int .i64 t) ∧ W'.cell? ⟨w.heap.size, 8, none⟩ = some (.int .i64 ov) ∧ W'.cell? ⟨w.heap.size, 9, none⟩ = some (.int .i64 ca) ∧ W'.cell? ⟨w.heap.size, 10, none⟩ = some (.int .i64 re)) := Lib.hid (fun W' hb => (JobAt.cells ⟨rfl, HBX.out W' hb⟩))
    clear HNO HYES HAN HAY HMEM HLEN HRT HSP HNT HDUE HNC HGL HLJ HBX HJF hjf h5 HK1 HK2 HYY HJV
    rcases hA with rfl | ⟨bl, of, rfl⟩
    · have hc0 := HAE.out rfl
      subst hc0
      obtain rfl : nn = 0 := by omega
      obtain rfl : k = 0 := by omega
      have HLAY : Hid (∀ (W : World) (hb : Below W0.heap.size W0 W) (g : Nat) (hx : D.Box W g 39 #[.int .u32 n, .bool o, .int .u64 (U a), .int .u64 (U b), .int .u64 (U c), .int .u64 (U d), .int .u64 (U e), .int .i64 t, .int .i64 ov, .int .i64 ca, .int .i64 re, .bool false, .int .i64 nx, .int .u64 0, .int .i64 0, .int .i64 0, .slice none 0 0]), Calls Tryz.prog 26 #[.slice none 0 0, .slice none 0 0, .slice (some ⟨g, 0, none⟩) 1 1] W fun x w' => TabIs (insR (newR ⟨n, o, [a, b, c, d, e], t, ov, ca, re⟩ nx) (ms.map (·.1))) x w' ∧ Below W0.heap.size W0 w') := Lib.hid (fun W hb g hx => by
        refine Calls.mono ?_ (fun e w' (h : TabIs _ e w' ∧ Below W.heap.size W w') => ⟨h.1, hb.trans (h.2.mono hb.size)⟩)
        have hd : ms = [] := List.length_eq_zero_iff.1 HLN.out
        rw [← HSPL.out, hd]
        exact lay_any none none (some ⟨g, 0, none⟩) 0 0 1 0 0 1 [] [] [(newR ⟨n, o, [a, b, c, d, e], t, ov, ca, re⟩ nx, .slice none 0 0)] W (.nil _) (.nil _) (tab_one HFN.out rfl hx) (by omega) (fun m hm => by
          simp at hm; subst hm; exact Nat.zero_le _))
      clear HSPL HQL HT
      focus
        go_region_held3 (fun W' => W'.cell? ⟨w.heap.size, 0, none⟩ = some (.int .u32 n) ∧ W'.cell? ⟨w.heap.size, 1, none⟩ = some (.bool o) ∧ W'.cell? ⟨w.heap.size, 2, none⟩ = some (.int .u64 (U a)) ∧ W'.cell? ⟨w.heap.size, 3, none⟩ = some (.int .u64 (U b)) ∧ W'.cell? ⟨w.heap.size, 4, none⟩ = some (.int .u64 (U c)) ∧ W'.cell? ⟨w.heap.size, 5, none⟩ = some (.int .u64 (U d)) ∧ W'.cell? ⟨w.heap.size, 6, none⟩ = some (.int .u64 (U e)) ∧ W'.cell? ⟨w.heap.size, 7, none⟩ = some (.int .i64 t) ∧ W'.cell? ⟨w.heap.size, 8, none⟩ = some (.int .i64 ov) ∧ W'.cell? ⟨w.heap.size, 9, none⟩ = some (.int .i64 ca) ∧ W'.cell? ⟨w.heap.size, 10, none⟩ = some (.int .i64 re)) (with_reducible first | exact HCC.out _ hBE | exact HCC.out _ (Below.drew hBE) | exact HCC.out _ (Below.alloc hBE hBE.size _) | exact HCC.out _ (Below.alloc (Below.drew hBE) (Below.drew hBE).size _) | exact HCC.out _ (Below.drew (Below.alloc hBE hBE.size _))) (first
          | (go_at_call 26
             (with_reducible first | refine (HLAY.out _ (hBE.alloc hBE.size _) _ (D.Box.new _ _ _)).mono ?_ | refine (HLAY.out _ (Below.drew (hBE.alloc hBE.size _)) _ (box_drew (D.Box.new _ _ _))).mono ?_ | refine (HLAY.out _ (Below.alloc (Below.drew hBE) (Below.drew hBE).size _) _ (D.Box.new _ _ _)).mono ?_)
             rintro e wF ⟨⟨A', n', c', ms', rfl, ht', hm'⟩, hwF⟩
             have HH4 := Lib.hid (And.intro ht' hm')
             replace hBE : Below W0.heap.size W0 wF := hwF
             clear hwF ht' hm'))
        all_goals
          go_wp2_with fail
          go_meet
          exact ⟨rfl, A', n', c', ms', rfl, HH4.out.1, HH4.out.2, hBE⟩
    · have HQA : Hid (∀ x ∈ ms.take k ++ [((newR ⟨n, o, [a, b, c, d, e], t, ov, ca, re⟩ nx, .slice none 0 0) : RowM)] ++ ms.drop k, x.1.q.length ≤ 100) := Lib.hid (fun x hx => by
        rcases List.mem_append.1 hx with hx | hx
        · rcases List.mem_append.1 hx with hx | hx
          · exact HQL.out x (List.mem_of_mem_take hx)
          · rw [List.mem_singleton] at hx; subst hx; exact Nat.zero_le _
        · exact HQL.out x (List.mem_of_mem_drop hx))
      by_cases hkc : k = cc
      · obtain rfl : nn = k := by omega
        subst hkc
        have HLAY : Hid (∀ (W : World) (hb : Below W0.heap.size W0 W) (g : Nat) (hx : D.Box W g 39 #[.int .u32 n, .bool o, .int .u64 (U a), .int .u64 (U b), .int .u64 (U c), .int .u64 (U d), .int .u64 (U e), .int .i64 t, .int .i64 ov, .int .i64 ca, .int .i64 re, .bool false, .int .i64 nx, .int .u64 0, .int .i64 0, .int .i64 0, .slice none 0 0]), Calls Tryz.prog 26 #[.slice (some ⟨bl, of, none⟩) nn nn, .slice (some ⟨bl, of, none⟩) 0 0, .slice (some ⟨g, 0, none⟩) 1 1] W fun x w' => TabIs (insR (newR ⟨n, o, [a, b, c, d, e], t, ov, ca, re⟩ nx) (ms.map (·.1))) x w' ∧ Below W0.heap.size W0 w') := Lib.hid (fun W hb g hx => by
          refine Calls.mono ?_ (fun e w' (h : TabIs _ e w' ∧ Below W.heap.size W w') => ⟨h.1, hb.trans (h.2.mono hb.size)⟩)
          have hd : ms.drop nn = [] := List.drop_of_length_le (by rw [HLN.out]; exact Nat.le_refl _)
          have hq := HQA.out
          rw [hd] at hq
          rw [← HSPL.out, hd]
          exact lay_any _ _ (some ⟨g, 0, none⟩) nn 0 1 nn 0 1 (ms.take nn) [] [(newR ⟨n, o, [a, b, c, d, e], t, ov, ca, re⟩ nx, .slice none 0 0)] W (tab_take (HT.out.on hb) (Nat.le_refl _)) (tab_end _ 0 (by decide) (fun _ => rfl)) (tab_one HFN.out rfl hx) (by omega) hq)
        clear HQA
        clear HSPL HQL HT
        focus
          go_region_held3 (fun W' => W'.cell? ⟨w.heap.size, 0, none⟩ = some (.int .u32 n) ∧ W'.cell? ⟨w.heap.size, 1, none⟩ = some (.bool o) ∧ W'.cell? ⟨w.heap.size, 2, none⟩ = some (.int .u64 (U a)) ∧ W'.cell? ⟨w.heap.size, 3, none⟩ = some (.int .u64 (U b)) ∧ W'.cell? ⟨w.heap.size, 4, none⟩ = some (.int .u64 (U c)) ∧ W'.cell? ⟨w.heap.size, 5, none⟩ = some (.int .u64 (U d)) ∧ W'.cell? ⟨w.heap.size, 6, none⟩ = some (.int .u64 (U e)) ∧ W'.cell? ⟨w.heap.size, 7, none⟩ = some (.int .i64 t) ∧ W'.cell? ⟨w.heap.size, 8, none⟩ = some (.int .i64 ov) ∧ W'.cell? ⟨w.heap.size, 9, none⟩ = some (.int .i64 ca) ∧ W'.cell? ⟨w.heap.size, 10, none⟩ = some (.int .i64 re)) (with_reducible first | exact HCC.out _ hBE | exact HCC.out _ (Below.drew hBE) | exact HCC.out _ (Below.alloc hBE hBE.size _) | exact HCC.out _ (Below.alloc (Below.drew hBE) (Below.drew hBE).size _) | exact HCC.out _ (Below.drew (Below.alloc hBE hBE.size _))) (first
            | (go_at_call 26
               (with_reducible first | refine (HLAY.out _ (hBE.alloc hBE.size _) _ (D.Box.new _ _ _)).mono ?_ | refine (HLAY.out _ (Below.drew (hBE.alloc hBE.size _)) _ (box_drew (D.Box.new _ _ _))).mono ?_ | refine (HLAY.out _ (Below.alloc (Below.drew hBE) (Below.drew hBE).size _) _ (D.Box.new _ _ _)).mono ?_)
               rintro e wF ⟨⟨A', n', c', ms', rfl, ht', hm'⟩, hwF⟩
               have HH4 := Lib.hid (And.intro ht' hm')
               replace hBE : Below W0.heap.size W0 wF := hwF
               clear hwF ht' hm'))
          all_goals
            go_wp2_with fail
            go_meet
            exact ⟨rfl, A', n', c', ms', rfl, HH4.out.1, HH4.out.2, hBE⟩
      · have hkc2 : ¬ cc = k := fun h => hkc h.symm
        have HLAY : Hid (∀ (W : World) (hb : Below W0.heap.size W0 W) (g : Nat) (hx : D.Box W g 39 #[.int .u32 n, .bool o, .int .u64 (U a), .int .u64 (U b), .int .u64 (U c), .int .u64 (U d), .int .u64 (U e), .int .i64 t, .int .i64 ov, .int .i64 ca, .int .i64 re, .bool false, .int .i64 nx, .int .u64 0, .int .i64 0, .int .i64 0, .slice none 0 0]), Calls Tryz.prog 26 #[.slice (some ⟨bl, of, none⟩) k cc, .slice (some ⟨bl, of + k * 17, none⟩) (nn - k) (cc - k), .slice (some ⟨g, 0, none⟩) 1 1] W fun x w' => TabIs (insR (newR ⟨n, o, [a, b, c, d, e], t, ov, ca, re⟩ nx) (ms.map (·.1))) x w' ∧ Below W0.heap.size W0 w') := Lib.hid (fun W hb g hx => by
          refine Calls.mono ?_ (fun e w' (h : TabIs _ e w' ∧ Below W.heap.size W w') => ⟨h.1, hb.trans (h.2.mono hb.size)⟩)
          rw [← HSPL.out]
          exact lay_any _ _ (some ⟨g, 0, none⟩) k (nn - k) 1 cc (cc - k) 1 (ms.take k) (ms.drop k) [(newR ⟨n, o, [a, b, c, d, e], t, ov, ca, re⟩ nx, .slice none 0 0)] W (tab_take (HT.out.on hb) hkn) (tab_drop (HT.out.on hb) hkn) (tab_one HFN.out rfl hx) (by omega) HQA.out)
        clear HQA
        clear HSPL HQL HT
        focus
          go_region_held3 (fun W' => W'.cell? ⟨w.heap.size, 0, none⟩ = some (.int .u32 n) ∧ W'.cell? ⟨w.heap.size, 1, none⟩ = some (.bool o) ∧ W'.cell? ⟨w.heap.size, 2, none⟩ = some (.int .u64 (U a)) ∧ W'.cell? ⟨w.heap.size, 3, none⟩ = some (.int .u64 (U b)) ∧ W'.cell? ⟨w.heap.size, 4, none⟩ = some (.int .u64 (U c)) ∧ W'.cell? ⟨w.heap.size, 5, none⟩ = some (.int .u64 (U d)) ∧ W'.cell? ⟨w.heap.size, 6, none⟩ = some (.int .u64 (U e)) ∧ W'.cell? ⟨w.heap.size, 7, none⟩ = some (.int .i64 t) ∧ W'.cell? ⟨w.heap.size, 8, none⟩ = some (.int .i64 ov) ∧ W'.cell? ⟨w.heap.size, 9, none⟩ = some (.int .i64 ca) ∧ W'.cell? ⟨w.heap.size, 10, none⟩ = some (.int .i64 re)) (with_reducible first | exact HCC.out _ hBE | exact HCC.out _ (Below.drew hBE) | exact HCC.out _ (Below.alloc hBE hBE.size _) | exact HCC.out _ (Below.alloc (Below.drew hBE) (Below.drew hBE).size _) | exact HCC.out _ (Below.drew (Below.alloc hBE hBE.size _))) (first
            | (go_at_call 26
               (with_reducible first | refine (HLAY.out _ (hBE.alloc hBE.size _) _ (D.Box.new _ _ _)).mono ?_ | refine (HLAY.out _ (Below.drew (hBE.alloc hBE.size _)) _ (box_drew (D.Box.new _ _ _))).mono ?_ | refine (HLAY.out _ (Below.alloc (Below.drew hBE) (Below.drew hBE).size _) _ (D.Box.new _ _ _)).mono ?_)
               rintro e wF ⟨⟨A', n', c', ms', rfl, ht', hm'⟩, hwF⟩
               have HH4 := Lib.hid (And.intro ht' hm')
               replace hBE : Below W0.heap.size W0 wF := hwF
               clear hwF ht' hm'))
          all_goals
            go_wp2_with fail
            go_meet
            exact ⟨rfl, A', n', c', ms', rfl, HH4.out.1, HH4.out.2, hBE⟩
end Go.Proofs.YthngjbnbloboiaaGreatDoor
