/- Acts in memory: what a slice of them reads; a block with one; a launch's block. -/
import Derived.Test.YthghcffibljclaaDoorRXStored
namespace Go.Proofs.YthghcffibljclaaDoor
open Go.RowKit

structure ActZ where
  k : Int
  now : Int
  num : Int
  fresh : Int
  on : Bool
  ok : Bool
deriving Inhabited
def actC (x : ActZ) : List Value := [.int .i64 x.k, .int .i64 x.now, .int .u64 x.num, .int .u64 x.fresh, .bool x.on, .bool x.ok]
def actV (x : ActZ) : Value := .agg (actC x).toArray
structure ActsR (w : World) (A : Option Addr) (n c : Nat) (l : List ActZ) : Prop where
  len : l.length = n
  cap : n ≤ c
  top : c ≤ maxLen
  at_ : ∀ (k : Nat) (x : ActZ), l[k]? = some x → ∃ b o, A = some ⟨b, o, none⟩ ∧ b < w.heap.size ∧ ∀ j u, (actC x)[j]? = some u → w.cell? ⟨b, o + k * 6 + j, none⟩ = some u
theorem ActsR.on {w w' : World} {A : Option Addr} {n c : Nat} {l : List ActZ} (h : ActsR w A n c l) (hb : Below w.heap.size w w') : ActsR w' A n c l :=
  ⟨h.len, h.cap, h.top, fun k x hk => by
    obtain ⟨b, o, e, hl, hc⟩ := h.at_ k x hk
    exact ⟨b, o, e, Nat.lt_of_lt_of_le hl hb.size, fun j u hj => (hb.cell (p := ⟨b, o + k * 6 + j, none⟩) hl).trans (hc j u hj)⟩⟩
theorem size_act : (Tryd.prog.info? 43).map (·.size) = some 6 := by kernel_rfl
theorem und_act : ∃ d, Tryd.prog.underlying 43 = some d ∧ d.isRow = true := und_of (by kernel_rfl)
theorem act_load {W : World} {b o : Nat} {x : ActZ} (h : ∀ j u, (actC x)[j]? = some u → W.cell? ⟨b, o + j, none⟩ = some u) : LoadIs W 43 b o (actV x) := by
  obtain ⟨d, hd, hr⟩ := und_act
  exact run_loadAt_mid W b o _ (actC x) d h hd hr (by rw [size_act]; rfl)
theorem act_one (x : ActZ) : ∀ v ∈ actC x, v.oneCell' = true := by
  intro v hv
  simp only [actC, List.mem_cons, List.not_mem_nil, or_false] at hv
  rcases hv with rfl | rfl | rfl | rfl | rfl | rfl <;> rfl
theorem act_var (w : World) (x : ActZ) : ∃ W, StoreIs (w.alloc (.cells #[.int .i64 0, .int .i64 0, .int .u64 0, .int .u64 0, .bool false, .bool false] 43)) 43 w.heap.size 0 (actV x) W ∧ D.Box W w.heap.size 43 (actC x).toArray ∧ Below w.heap.size w W := by
  have hb := D.Box.new w 43 #[.int .i64 0, .int .i64 0, .int .u64 0, .int .u64 0, .bool false, .bool false]
  exact ⟨_, store_all hb rfl (by rw [size_act]; rfl) (act_one x), hb.setRow _, below_setRow (new_below w _) (Nat.le_refl _) _⟩
theorem size_launch : (Tryd.prog.info? 48).map (·.size) = some 4 := by kernel_rfl
theorem und_launch : ∃ d, Tryd.prog.underlying 48 = some d ∧ d.isRow = true := und_of (by kernel_rfl)
theorem la_one (x : LaZ) : ∀ v ∈ laC x, v.oneCell' = true := by
  intro v hv
  simp only [laC, List.mem_cons, List.not_mem_nil, or_false] at hv
  rcases hv with rfl | rfl | rfl | rfl <;> rfl
theorem la_var (w : World) (x : LaZ) : ∃ W, StoreIs (w.alloc (.cells #[.int .u64 0, .int .u32 0, .int .i64 0, .int .i64 0] 48)) 48 w.heap.size 0 (laV x) W ∧ D.Box W w.heap.size 48 (laC x).toArray ∧ Below w.heap.size w W := by
  have hb := D.Box.new w 48 #[.int .u64 0, .int .u32 0, .int .i64 0, .int .i64 0]
  exact ⟨_, store_all hb rfl (by rw [size_launch]; rfl) (la_one x), hb.setRow _, below_setRow (new_below w _) (Nat.le_refl _) _⟩
theorem la_load {w : World} {y : Value} {la : LaZ} (h : LasR w y [la]) : ∃ b o c, y = .slice (some ⟨b, o, none⟩) 1 c ∧ 1 ≤ c ∧ b < w.heap.size ∧ ∀ w', Below w.heap.size w w' → LoadIs w' 48 b o (laV la) := by
  obtain ⟨A, c, rfl, h1, _, _, hr⟩ := h
  have hl : ([la] : List LaZ).flatMap laC = laC la := by simp
  rw [hl] at hr
  obtain ⟨b, o, rfl, hb, _⟩ := hr 0 _ rfl
  refine ⟨b, o, c, rfl, h1, hb, fun w' hbw => ?_⟩
  obtain ⟨d, hd, hr2⟩ := und_launch
  refine run_loadAt_mid w' b o _ (laC la) d (fun j u hj => ?_) hd hr2 (by rw [size_launch]; rfl)
  obtain ⟨b', o', e, hl2, hc⟩ := hr j u hj
  cases e
  exact (hbw.cell (p := ⟨b, o + j, none⟩) hl2).trans hc
end Go.Proofs.YthghcffibljclaaDoor
