/- A civil time that comes in, opened; a string. -/
import Derived.Test.YtnhbkfmaaannnaaDoorERows
import Derived.Lib.SmallJoins
import Derived.ChangeMaps5
namespace Go.Proofs.YtnhbkfmaaannnaaDoor
open Go.ChangeShapes Go.WideShapes Go.ChangeAt Go.WideMaps Go.WideElems Go.RowKit Go.Joins

theorem cInt' : Tryd.prog.cellsOf 3 = 1 := by kernel_rfl
theorem cDate : Tryd.prog.cellsOf 27 = 3 := by kernel_rfl
theorem cCivil : Tryd.prog.cellsOf 29 = 6 := by kernel_rfl
theorem civ_cells {H : Type} {enc : TypeId × Value → H} {W : World} {fuel : Nat} {v0 v1 v2 v3 v4 v5 : Value} {x : DataW H × List MemPlace}
    (h : DataW.trod enc Tryd.prog W 0 (fun _ => true) true fuel 29 [v0, v1, v2, v3, v4, v5] = some x) :
    ∃ y m d hh mi s : Int, v0 = .int .i64 y ∧ v1 = .int .i64 m ∧ v2 = .int .i64 d ∧ v3 = .int .i64 hh ∧ v4 = .int .i64 mi ∧ v5 = .int .i64 s := by
  obtain ⟨d, p⟩ := x
  obtain ⟨ys, n, _, _, _, hyl, hfl⟩ := DataW.trod_struct Tryd.underlying29 h
  match ys, hyl with
  | [y0, y1, y2, y3], _ =>
    have g0 : DataW.trod enc Tryd.prog W 0 (fun _ => true) true n 27 [v0, v1, v2] = some y0 := by have := hfl 0 _ rfl; simpa [cDate] using this
    have g1 : DataW.trod enc Tryd.prog W 0 (fun _ => true) true n 3 [v3] = some y1 := by have := hfl 1 _ rfl; simpa [cInt'] using this
    have g2 : DataW.trod enc Tryd.prog W 0 (fun _ => true) true n 3 [v4] = some y2 := by have := hfl 2 _ rfl; simpa [cInt'] using this
    have g3 : DataW.trod enc Tryd.prog W 0 (fun _ => true) true n 3 [v5] = some y3 := by have := hfl 3 _ rfl; simpa [cInt'] using this
    obtain ⟨q0, q1⟩ := y0
    obtain ⟨zs, n', _, _, _, hzl, hfz⟩ := DataW.trod_struct Tryd.underlying27 g0
    match zs, hzl with
    | [z0, z1, z2], _ =>
      have k0 : DataW.trod enc Tryd.prog W 0 (fun _ => true) true n' 3 [v0] = some z0 := by have := hfz 0 _ rfl; simpa [cInt'] using this
      have k1 : DataW.trod enc Tryd.prog W 0 (fun _ => true) true n' 3 [v1] = some z1 := by have := hfz 1 _ rfl; simpa [cInt'] using this
      have k2 : DataW.trod enc Tryd.prog W 0 (fun _ => true) true n' 3 [v2] = some z2 := by have := hfz 2 _ rfl; simpa [cInt'] using this
      obtain ⟨a0, e0, _, _⟩ := DataW.trod_int Tryd.underlying3 k0
      obtain ⟨a1, e1, _, _⟩ := DataW.trod_int Tryd.underlying3 k1
      obtain ⟨a2, e2, _, _⟩ := DataW.trod_int Tryd.underlying3 k2
      obtain ⟨a3, e3, _, _⟩ := DataW.trod_int Tryd.underlying3 g1
      obtain ⟨a4, e4, _, _⟩ := DataW.trod_int Tryd.underlying3 g2
      obtain ⟨a5, e5, _, _⟩ := DataW.trod_int Tryd.underlying3 g3
      simp only [List.cons.injEq, and_true] at e0 e1 e2 e3 e4 e5
      exact ⟨a0, a1, a2, a3, a4, a5, e0, e1, e2, e3, e4, e5⟩
theorem open_civ {H : Type} {enc : TypeId × Value → H} {W : World} {b0 : Nat} {v : Value} {d : DataW H} {p : List MemPlace}
    (hv : Value.okWide Tryd.prog W .any b0 29 v) (h : DataW.Trod enc Tryd.prog W 0 (fun _ => true) true 29 v d p) : ∃ y m dd hh mi s : Int, v = civV y m dd hh mi s := by
  obtain ⟨cs, rfl, hsz⟩ := okWide_struct Tryd.underlying29 hv
  rw [cCivil] at hsz
  obtain ⟨l⟩ := cs
  match l, hsz with
  | [c0, c1, c2, c3, c4, c5], _ =>
    obtain ⟨fuel, hf⟩ := h
    obtain ⟨y, m, dd, hh, mi, s, rfl, rfl, rfl, rfl, rfl, rfl⟩ := civ_cells hf
    exact ⟨y, m, dd, hh, mi, s, rfl⟩
theorem str_l (s : ByteArray) : Value.string s = strV s.data.toList := by unfold strV; simp
end Go.Proofs.YtnhbkfmaaannnaaDoor
