/- Texts of this seat, one behind the other: FLib, FLibM, FSame, FItemM, FCheck, FVal, FValues, FSpan, FPart, FPart2, FEach, FItem, FRead, FStep, FRuns, FOne, FRKind, FRUp, FRText, FRVal. -/
import Derived.Test.YtbaobjbckabnhaaGreatDoorK1
import Derived.Test.YtbaobjbckabnhaaGreatDoorK2
import Derived.Shelf.Strings.Builder1
import Derived.Shelf.Strings.Builder2
import Derived.Shelf.Strings.OnBuilder
import Derived.Shelf.Small.Utf8
import Derived.Shelf.Strconv.Itoa0
import Derived.Shelf.Strconv.Itoa1
import Derived.Shelf.LaysM
import Derived.Shelf.Strconv.Itoa2
import Derived.Shelf.Strconv.Itoa3
import Derived.Shelf.Strings.Search1
import Derived.Shelf.Strings.Search2
import Derived.Shelf.Strings.Search3
import Derived.Shelf.Strings.Cut
import Derived.Shelf.Strings.Count
import Derived.Shelf.Strings.Shaped
import Derived.Shelf.Strings.Split
import Derived.Shelf.Strings.SplitShaped
import Derived.Shelf.Unicode.Latin
import Derived.Shelf.Unicode.DecodeSlow
import Derived.Shelf.Unicode.CaseLookup
import Derived.Shelf.Unicode.CaseConvert
import Derived.Shelf.Unicode.CaseTo
import Derived.Shelf.Unicode.CaseLaid
import Derived.Test.YtbaobjbckabnhaaGreatDoorProg
import Derived.Lib.SplitLaws
import Derived.Lib.Join
import Derived.Deep.RegionHeld3
import Derived.Deep.DeepCutAuto
import Derived.Laws.OwnMore
import Derived.Laws.MakeOwn
import Derived.Laws.AppendOwn
import Derived.RangeFuncBox
import Derived.Maps.AppendAt
import Derived.Laws.IdiomStrings
import Derived.Lib.SmallJoins
/- The contracts of strings.Split, Cut, Join, ToLower and strconv.Itoa at this program, out of the shelf. -/
namespace Go.Proofs.YtbaobjbckabnhaaGreatDoor
open Go.Shelf
def lays156_ren : Go.Shelf.Ren := ⟨fun | 156 => 63 | 165 => 99 | 166 => 100 | 169 => 101 | 240 => 131 | 241 => 132 | 276 => 148 | 277 => 149 | n => n, fun | 31 => 112 | 9 => 9 | 3 => 3 | 4 => 4 | 0 => 0 | 20 => 20 | 72 => 156 | 76 => 160 | 70 => 153 | 37 => 154 | 75 => 159 | 127 => 193 | 164 => 210 | 5 => 5 | 80 => 162 | n => n, fun | n => n⟩
theorem lays156 : Go.Proofs.Lays.n156 Tryz.prog lays156_ren := {
  mixed := by kernel_rfl
  f156 := Tryz.func63.trans (congrArg some (by kernel_rfl))
  f165 := Tryz.func99.trans (congrArg some (by kernel_rfl))
  f166 := Tryz.func100.trans (congrArg some (by kernel_rfl))
  f169 := Tryz.func101.trans (congrArg some (by kernel_rfl))
  f240 := Tryz.func131.trans (congrArg some (by kernel_rfl))
  f241 := Tryz.func132.trans (congrArg some (by kernel_rfl))
  f276 := Tryz.func148.trans (congrArg some (by kernel_rfl))
  f277 := Tryz.func149.trans (congrArg some (by kernel_rfl))
  t0 := Tryz.underlying0
  a0 := Tryz.isAgg0
  z0 := Tryz.sizeOf0
  v0 := Tryz.zeroValue0
  t3 := Tryz.underlying3
  a3 := Tryz.isAgg3
  z3 := Tryz.sizeOf3
  v3 := Tryz.zeroValue3
  t4 := Tryz.underlying4
  a4 := Tryz.isAgg4
  z4 := Tryz.sizeOf4
  v4 := Tryz.zeroValue4
  t9 := Tryz.underlying9
  a9 := Tryz.isAgg9
  z9 := Tryz.sizeOf9
  v9 := Tryz.zeroValue9
  t20 := Tryz.underlying20
  a20 := Tryz.isAgg20
  z20 := Tryz.sizeOf20
  v20 := Tryz.zeroValue20
  t31 := Tryz.underlying112
  a31 := Tryz.isAgg112
  z31 := Tryz.sizeOf112
  v31 := Tryz.zeroValue112
  t37 := Tryz.underlying154
  a37 := Tryz.isAgg154
  z37 := Tryz.sizeOf154
  v37 := Tryz.zeroValue154
  t70 := Tryz.underlying153
  a70 := Tryz.isAgg153
  z70 := Tryz.sizeOf153
  v70 := Tryz.zeroValue153
  t72 := Tryz.underlying156
  a72 := Tryz.isAgg156
  z72 := Tryz.sizeOf156
  v72 := Tryz.zeroValue156
  t75 := Tryz.underlying159
  a75 := Tryz.isAgg159
  z75 := Tryz.sizeOf159
  v75 := Tryz.zeroValue159
  t76 := Tryz.underlying160
  a76 := Tryz.isAgg160
  z76 := Tryz.sizeOf160
  v76 := Tryz.zeroValue160
  t127 := Tryz.underlying193
  a127 := Tryz.isAgg193
  z127 := Tryz.sizeOf193
  v127 := Tryz.zeroValue193
  t164 := Tryz.underlying210
  a164 := Tryz.isAgg210
  z164 := Tryz.sizeOf210
  v164 := Tryz.zeroValue210 }
theorem Builder_Extra_156 : Builder.Extra Tryz.prog lays156_ren := {
  sizeBuilder := by kernel_rfl
  liesBuilder := by kernel_rfl
  t5 := Tryz.underlying5
  a5 := Tryz.isAgg5
  z5 := Tryz.sizeOf5
  v5 := Tryz.zeroValue5
  infoByte := by kernel_rfl
  cellsByte := by kernel_rfl
  sizeByte := by kernel_rfl
  neB5 := by decide }
open Go.RowKit in
/-- No element: the empty string; the world is as it was. (Whatever the slice's address and capacity: a nil slice too.) (LAID: no walk: one application.) -/
theorem strings_Join_none (a : Option Addr) (c : Nat) (sep : ByteArray) (w : World) :
    Calls Tryz.prog 63 #[.slice a 0 c, .string sep] w fun e w' => e = .returned (.string ⟨#[]⟩) ∧ w' = w := Any.strings_Join_none lays156 Builder_Extra_156 a c sep w
open Go.RowKit in
/-- strings.Join: "Join concatenates the elements of its first argument to create a single string. The separator string sep is placed between elements in the resulting string.": HOWEVER MANY ELEMENTS. Below the heap's end the world is as it was. (LAID: no walk: one application.) -/
theorem strings_Join (bk o c : Nat) (xs : List ByteArray) (sep : ByteArray) (w : World) (hcells : ∀ (j : Nat) x, xs[j]? = some x → w.cell? ⟨bk, o + j, none⟩ = some (.string x)) (hbk : bk < w.heap.size) (hN : xs.length ≤ 140737488355328) (hcap : xs.length ≤ c) (hlen : (Lib.join (xs.map (·.data.toList)) sep.data.toList).length ≤ 140737488355328) :
    Calls Tryz.prog 63 #[.slice (some ⟨bk, o, none⟩) xs.length c, .string sep] w fun e w' => e = .returned (.string ⟨(Lib.join (xs.map (·.data.toList)) sep.data.toList).toArray⟩) ∧ Below w.heap.size w w' := Any.strings_Join lays156 Builder_Extra_156 bk o c xs sep w hcells hbk hN hcap hlen
def lays171_ren : Go.Shelf.Ren := ⟨fun | 171 => 97 | 243 => 129 | 246 => 146 | 283 => 165 | 284 => 166 | 285 => 167 | 286 => 168 | 129 => 179 | 317 => 178 | 318 => 180 | 319 => 181 | 320 => 182 | 337 => 186 | 338 => 151 | n => n, fun | 3 => 3 | 9 => 9 | 2 => 2 | 4 => 4 | 171 => 219 | 0 => 0 | 53 => 28 | 37 => 154 | 5 => 5 | 173 => 221 | 212 => 227 | 51 => 24 | 20 => 20 | 213 => 228 | 46 => 172 | 232 => 237 | 233 => 223 | n => n, fun | 17 => 7 | 18 => 10 | 19 => 6 | n => n⟩
theorem lays171 : Go.Proofs.Lays.n171 Tryz.prog lays171_ren := {
  mixed := by kernel_rfl
  f129 := Tryz.func179.trans (congrArg some (by kernel_rfl))
  f171 := Tryz.func97.trans (congrArg some (by kernel_rfl))
  f243 := Tryz.func129.trans (congrArg some (by kernel_rfl))
  f246 := Tryz.func146.trans (congrArg some (by kernel_rfl))
  f283 := Tryz.func165.trans (congrArg some (by kernel_rfl))
  f284 := Tryz.func166.trans (congrArg some (by kernel_rfl))
  f285 := Tryz.func167.trans (congrArg some (by kernel_rfl))
  f286 := Tryz.func168.trans (congrArg some (by kernel_rfl))
  f317 := Tryz.func178.trans (congrArg some (by kernel_rfl))
  f318 := Tryz.func180.trans (congrArg some (by kernel_rfl))
  f319 := Tryz.func181.trans (congrArg some (by kernel_rfl))
  f320 := Tryz.func182.trans (congrArg some (by kernel_rfl))
  f337 := Tryz.func186.trans (congrArg some (by kernel_rfl))
  f338 := Tryz.func151.trans (congrArg some (by kernel_rfl))
  t0 := Tryz.underlying0
  a0 := Tryz.isAgg0
  z0 := Tryz.sizeOf0
  v0 := Tryz.zeroValue0
  t2 := Tryz.underlying2
  a2 := Tryz.isAgg2
  z2 := Tryz.sizeOf2
  v2 := Tryz.zeroValue2
  t3 := Tryz.underlying3
  a3 := Tryz.isAgg3
  z3 := Tryz.sizeOf3
  v3 := Tryz.zeroValue3
  t4 := Tryz.underlying4
  a4 := Tryz.isAgg4
  z4 := Tryz.sizeOf4
  v4 := Tryz.zeroValue4
  t5 := Tryz.underlying5
  a5 := Tryz.isAgg5
  z5 := Tryz.sizeOf5
  v5 := Tryz.zeroValue5
  t9 := Tryz.underlying9
  a9 := Tryz.isAgg9
  z9 := Tryz.sizeOf9
  v9 := Tryz.zeroValue9
  t20 := Tryz.underlying20
  a20 := Tryz.isAgg20
  z20 := Tryz.sizeOf20
  v20 := Tryz.zeroValue20
  t37 := Tryz.underlying154
  a37 := Tryz.isAgg154
  z37 := Tryz.sizeOf154
  v37 := Tryz.zeroValue154
  t46 := Tryz.underlying172
  a46 := Tryz.isAgg172
  z46 := Tryz.sizeOf172
  v46 := Tryz.zeroValue172
  t51 := Tryz.underlying24
  a51 := Tryz.isAgg24
  z51 := Tryz.sizeOf24
  v51 := Tryz.zeroValue24
  t53 := Tryz.underlying28
  a53 := Tryz.isAgg28
  z53 := Tryz.sizeOf28
  v53 := Tryz.zeroValue28
  t171 := Tryz.underlying219
  a171 := Tryz.isAgg219
  z171 := Tryz.sizeOf219
  v171 := Tryz.zeroValue219
  t173 := Tryz.underlying221
  a173 := Tryz.isAgg221
  z173 := Tryz.sizeOf221
  v173 := Tryz.zeroValue221
  t212 := Tryz.underlying227
  a212 := Tryz.isAgg227
  z212 := Tryz.sizeOf227
  v212 := Tryz.zeroValue227
  t213 := Tryz.underlying228
  a213 := Tryz.isAgg228
  z213 := Tryz.sizeOf228
  t232 := Tryz.underlying237
  a232 := Tryz.isAgg237
  z232 := Tryz.sizeOf237
  v232 := Tryz.zeroValue237
  t233 := Tryz.underlying223
  a233 := Tryz.isAgg223
  z233 := Tryz.sizeOf223
  v233 := Tryz.zeroValue223
  g17 := by kernel_rfl
  g18 := by kernel_rfl
  g19 := by kernel_rfl }
open Go.RowKit Go.Sort Go.Lib in
/-- THE ROAD WITHOUT THE TABLE: 0 <= i < 100: NO PREMISE ON THE WORLD, AND THE WORLD IS AS IT WAS: a row that keeps its argument in that range need list no table ('laid = []'). (LAID: no walk: one application.) -/
theorem strconv_Itoa_small (i : Nat) (hi : i < 100) (w : World) :
    Calls Tryz.prog 97 #[.int .i64 i] w fun e w' => e = .returned (.string ⟨(Lib.decDigits i).toArray⟩) ∧ w' = w := Any.strconv_Itoa_small lays171 i hi w
def lays145_ren : Go.Shelf.Ren := ⟨fun | 145 => 174 | 220 => 185 | 219 => 155 | 217 => 170 | 225 => 171 | 224 => 172 | 267 => 173 | 266 => 183 | 314 => 184 | n => n, fun | 9 => 9 | 4 => 4 | 59 => 140 | 3 => 3 | 5 => 5 | 46 => 172 | 146 => 234 | 51 => 24 | n => n, fun | 1 => 5 | n => n⟩
theorem lays145 : Go.Proofs.Lays.n145 Tryz.prog lays145_ren := {
  mixed := by kernel_rfl
  f145 := Tryz.func174.trans (congrArg some (by kernel_rfl))
  f217 := Tryz.func170.trans (congrArg some (by kernel_rfl))
  f219 := Tryz.func155.trans (congrArg some (by kernel_rfl))
  f220 := Tryz.func185.trans (congrArg some (by kernel_rfl))
  f224 := Tryz.func172.trans (congrArg some (by kernel_rfl))
  f225 := Tryz.func171.trans (congrArg some (by kernel_rfl))
  f266 := Tryz.func183.trans (congrArg some (by kernel_rfl))
  f267 := Tryz.func173.trans (congrArg some (by kernel_rfl))
  f314 := Tryz.func184.trans (congrArg some (by kernel_rfl))
  t3 := Tryz.underlying3
  a3 := Tryz.isAgg3
  z3 := Tryz.sizeOf3
  v3 := Tryz.zeroValue3
  t4 := Tryz.underlying4
  a4 := Tryz.isAgg4
  z4 := Tryz.sizeOf4
  v4 := Tryz.zeroValue4
  t5 := Tryz.underlying5
  a5 := Tryz.isAgg5
  z5 := Tryz.sizeOf5
  v5 := Tryz.zeroValue5
  t9 := Tryz.underlying9
  a9 := Tryz.isAgg9
  z9 := Tryz.sizeOf9
  v9 := Tryz.zeroValue9
  t46 := Tryz.underlying172
  a46 := Tryz.isAgg172
  z46 := Tryz.sizeOf172
  v46 := Tryz.zeroValue172
  t51 := Tryz.underlying24
  a51 := Tryz.isAgg24
  z51 := Tryz.sizeOf24
  v51 := Tryz.zeroValue24
  t59 := Tryz.underlying140
  a59 := Tryz.isAgg140
  z59 := Tryz.sizeOf140
  v59 := Tryz.zeroValue140
  t146 := Tryz.underlying234
  a146 := Tryz.isAgg234
  z146 := Tryz.sizeOf234
  v146 := Tryz.zeroValue234
  g1 := by kernel_rfl }
open Go.RowKit Go.Lib in
/-- strings.Cut: "Cut slices s around the first instance of sep, returning the text before and after sep. The found result reports whether sep appears in s. If sep does not appear in s, cut returns s, "", false.": IT RETURNS 'Lib.cut s sep'; the world is as it was but for the count of draws. (LAID: no walk: one application.) -/
theorem strings_Cut (s sep : ByteArray) (m : Int) (w : World) (hs : s.size < 4294967281) (hm : w.cell? ⟨5, 0, none⟩ = some (.int .i64 m)) :
    Calls Tryz.prog 174 #[.string s, .string sep] w fun e w' => e = .returned (.tuple #[.string ⟨(Lib.cut s.data.toList sep.data.toList).1.toArray⟩, .string ⟨(Lib.cut s.data.toList sep.data.toList).2.1.toArray⟩, .bool (Lib.cut s.data.toList sep.data.toList).2.2]) ∧ ∃ n, w' = w.drewN n := Any.strings_Cut lays145 s sep m w hs hm
def lays146_ren : Go.Shelf.Ren := ⟨fun | 146 => 77 | 221 => 117 | 268 => 137 | 138 => 138 | 143 => 139 | 195 => 152 | 197 => 153 | 218 => 154 | 219 => 155 | 260 => 169 | 217 => 170 | 225 => 171 | 224 => 172 | 267 => 173 | 266 => 183 | 314 => 184 | n => n, fun | 9 => 9 | 31 => 112 | 3 => 3 | 4 => 4 | 0 => 0 | 105 => 214 | 21 => 21 | 5 => 5 | 46 => 172 | 119 => 230 | 139 => 233 | 138 => 232 | 146 => 234 | 51 => 24 | n => n, fun | 1 => 5 | 3 => 8 | 4 => 9 | n => n⟩
theorem lays146 : Go.Proofs.Lays.n146 Tryz.prog lays146_ren := {
  mixed := by kernel_rfl
  f138 := Tryz.func138.trans (congrArg some (by kernel_rfl))
  f143 := Tryz.func139.trans (congrArg some (by kernel_rfl))
  f146 := Tryz.func77.trans (congrArg some (by kernel_rfl))
  f195 := Tryz.func152.trans (congrArg some (by kernel_rfl))
  f197 := Tryz.func153.trans (congrArg some (by kernel_rfl))
  f217 := Tryz.func170.trans (congrArg some (by kernel_rfl))
  f218 := Tryz.func154.trans (congrArg some (by kernel_rfl))
  f219 := Tryz.func155.trans (congrArg some (by kernel_rfl))
  f221 := Tryz.func117.trans (congrArg some (by kernel_rfl))
  f224 := Tryz.func172.trans (congrArg some (by kernel_rfl))
  f225 := Tryz.func171.trans (congrArg some (by kernel_rfl))
  f260 := Tryz.func169.trans (congrArg some (by kernel_rfl))
  f266 := Tryz.func183.trans (congrArg some (by kernel_rfl))
  f267 := Tryz.func173.trans (congrArg some (by kernel_rfl))
  f268 := Tryz.func137.trans (congrArg some (by kernel_rfl))
  f314 := Tryz.func184.trans (congrArg some (by kernel_rfl))
  t0 := Tryz.underlying0
  a0 := Tryz.isAgg0
  z0 := Tryz.sizeOf0
  v0 := Tryz.zeroValue0
  t3 := Tryz.underlying3
  a3 := Tryz.isAgg3
  z3 := Tryz.sizeOf3
  v3 := Tryz.zeroValue3
  t4 := Tryz.underlying4
  a4 := Tryz.isAgg4
  z4 := Tryz.sizeOf4
  v4 := Tryz.zeroValue4
  t5 := Tryz.underlying5
  a5 := Tryz.isAgg5
  z5 := Tryz.sizeOf5
  v5 := Tryz.zeroValue5
  t9 := Tryz.underlying9
  a9 := Tryz.isAgg9
  z9 := Tryz.sizeOf9
  v9 := Tryz.zeroValue9
  t21 := Tryz.underlying21
  a21 := Tryz.isAgg21
  z21 := Tryz.sizeOf21
  v21 := Tryz.zeroValue21
  t31 := Tryz.underlying112
  a31 := Tryz.isAgg112
  z31 := Tryz.sizeOf112
  v31 := Tryz.zeroValue112
  t46 := Tryz.underlying172
  a46 := Tryz.isAgg172
  z46 := Tryz.sizeOf172
  v46 := Tryz.zeroValue172
  t51 := Tryz.underlying24
  a51 := Tryz.isAgg24
  z51 := Tryz.sizeOf24
  v51 := Tryz.zeroValue24
  t105 := Tryz.underlying214
  a105 := Tryz.isAgg214
  z105 := Tryz.sizeOf214
  v105 := Tryz.zeroValue214
  t119 := Tryz.underlying230
  a119 := Tryz.isAgg230
  z119 := Tryz.sizeOf230
  t138 := Tryz.underlying232
  a138 := Tryz.isAgg232
  z138 := Tryz.sizeOf232
  v138 := Tryz.zeroValue232
  t139 := Tryz.underlying233
  a139 := Tryz.isAgg233
  z139 := Tryz.sizeOf233
  v139 := Tryz.zeroValue233
  t146 := Tryz.underlying234
  a146 := Tryz.isAgg234
  z146 := Tryz.sizeOf234
  v146 := Tryz.zeroValue234
  g1 := by kernel_rfl
  g3 := by kernel_rfl
  g4 := by kernel_rfl }
open Go.RowKit Go.Lib in
/-- strings.Split. (LAID: no walk: one application.) -/
theorem strings_Split (s sep : ByteArray) (m : Int) (w : World) (hs : s.size < 4294967281) (hm : w.cell? ⟨5, 0, none⟩ = some (.int .i64 m)) (h1 : 1 ≤ sep.size) :
    Calls Tryz.prog 77 #[.string s, .string sep] w fun e w' =>
      e = .returned (.slice (some ⟨w.heap.size, 0, none⟩) (Lib.countB s sep + 1) (Lib.countB s sep + 1)) ∧ w' = w.alloc (.cells ((Lib.splitB sep 0 (Lib.countB s sep) s).map Value.string).toArray 9) := Any.strings_Split lays146 (by kernel_rfl) s sep m w hs hm h1
end Go.Proofs.YtbaobjbckabnhaaGreatDoor
/- The library's contracts in the words of fields: cut at a byte, split at commas, joined by commas, a number below 100. -/
namespace Go.Proofs.YtbaobjbckabnhaaGreatDoor
open Go.RowKit

theorem index_one (c : UInt8) : ∀ l : List UInt8, (c ∉ l ∧ Lib.index l [c] = -1) ∨ ∃ r, l = (cutB l c).1 ++ c :: r ∧ (cutB l c).2 = some r ∧ Lib.index l [c] = ((cutB l c).1.length : Nat)
  | [] => .inl ⟨by simp, by simp [Lib.index]⟩
  | b :: l => by
    by_cases e : b = c
    · subst e
      refine .inr ⟨l, by simp [cutB], by simp [cutB], ?_⟩
      rw [Lib.index]
      simp [List.isPrefixOf, cutB]
    · have hp : ([c] : List UInt8).isPrefixOf (b :: l) = false := by simp [List.isPrefixOf, Ne.symm e]
      have hix : Lib.index (b :: l) [c] = if Lib.index l [c] == -1 then -1 else Lib.index l [c] + 1 := by rw [Lib.index, hp]; simp
      rcases index_one c l with ⟨h1, h2⟩ | ⟨r, h1, h2, h3⟩
      · refine .inl ⟨by simp [h1]; exact fun q => e q.symm, ?_⟩
        rw [hix, h2]; rfl
      · refine .inr ⟨r, ?_, ?_, ?_⟩
        · rw [cutB, if_neg e]
          show b :: l = b :: ((cutB l c).1 ++ c :: r)
          rw [← h1]
        · rw [cutB, if_neg e]; exact h2
        · rw [hix, h3, if_neg (by simp), cutB, if_neg e]
          simp
theorem cut_one (l : List UInt8) (c : UInt8) : Lib.cut l [c] = ((cutB l c).1, (cutB l c).2.getD [], (cutB l c).2.isSome) := by
  unfold Lib.cut
  rcases index_one c l with ⟨h1, h2⟩ | ⟨r, h1, h2, h3⟩
  · rw [h2, if_neg (by decide), cutB_none h1]; rfl
  · rw [h3, if_pos (by omega), h2, Int.toNat_natCast]
    generalize (cutB l c).1 = a at *
    subst h1
    simp
theorem splitK_one : ∀ (n : Nat) (l : List UInt8), Lib.count l [44] = n → Lib.splitK [44] 0 n l = splitC l
  | 0, l, h => by
    rcases index_one 44 l with ⟨h1, h2⟩ | ⟨r, h1, h2, h3⟩
    · rw [Lib.splitK, split_none h1]
    · rw [Lib.count_hit (by simp) h3] at h; omega
  | n + 1, l, h => by
    rcases index_one 44 l with ⟨h1, h2⟩ | ⟨r, h1, h2, h3⟩
    · rw [Lib.count_miss h2] at h; omega
    · rw [Lib.count_hit (by simp) h3] at h
      have hd : l.drop ((cutB l 44).1.length + [(44 : UInt8)].length) = r := by
        generalize (cutB l 44).1 = a at *
        subst h1
        simp
      have ht : l.take ((cutB l 44).1.length + 0) = (cutB l 44).1 := by
        generalize (cutB l 44).1 = a at *
        subst h1
        simp
      rw [hd] at h
      rw [Lib.splitK, h3, if_neg (by simp), Int.toNat_natCast, hd, ht, splitK_one n r (by omega), split_cut l, h2]
theorem join_c : ∀ ps : List (List UInt8), Lib.join ps [44] = joinC ps
  | [] => rfl
  | [p] => by rw [Lib.join_one]; rfl
  | p :: q :: ps => by
    have h := join_c (q :: ps)
    rw [Lib.join_cons] at h ⊢
    rw [joinC, ← h]
    simp [Lib.joinTail]
theorem dec_dgs {n : Nat} (h : n < 100) : Lib.decDigits n = dgsN n := by
  unfold dgsN
  by_cases h1 : n < 10
  · rw [Lib.decDigits, dif_pos h1, if_pos h1]
    unfold dg
    rw [Nat.mod_eq_of_lt h1]
  · rw [Lib.decDigits, dif_neg h1, if_neg h1, Lib.decDigits, dif_pos (by omega)]
    unfold d2 dg
    rw [Nat.mod_eq_of_lt (show n / 10 < 10 by omega)]; rfl
theorem itoa_any (n : Nat) (w : World) (h : n < 100) :
    Calls Tryz.prog 97 #[.int .i64 (n : Int)] w fun e w' => e = .returned (strV (dgsN n)) ∧ w = w' := by
  have h1 := strconv_Itoa_small n h w
  rw [dec_dgs h] at h1
  exact h1.mono fun _ _ ⟨a, b⟩ => ⟨a, b.symm⟩
theorem cut_any (s : ByteArray) (c : UInt8) (w : World) (hL : Laid w) (hs : s.size < 4294967281) :
    Calls Tryz.prog 174 #[.string s, .string ⟨#[c]⟩] w fun e w' => e = .returned (.tuple #[strV (cutB s.data.toList c).1, strV ((cutB s.data.toList c).2.getD []), .bool (cutB s.data.toList c).2.isSome]) ∧ Below w.heap.size w w' := by
  obtain ⟨m, hm⟩ := hL.maxLen
  refine (strings_Cut s ⟨#[c]⟩ m w hs hm).mono ?_
  rintro e w' ⟨rfl, n, rfl⟩
  rw [show (⟨#[c]⟩ : ByteArray).data.toList = [c] by rfl, cut_one]
  exact ⟨rfl, bdrewN (Below.refl _ _) n⟩
theorem split_any (s : ByteArray) (w : World) (hL : Laid w) (hs : s.size < 4294967281) :
    Calls Tryz.prog 77 #[.string s, .string ⟨#[44]⟩] w fun e w' => (∃ A n c, e = .returned (.slice A n c) ∧ ArrL w' A n (splitC s.data.toList)) ∧ Below w.heap.size w w' := by
  obtain ⟨m, hm⟩ := hL.maxLen
  refine (strings_Split s ⟨#[44]⟩ m w hs hm (by decide)).mono ?_
  rintro e w' ⟨rfl, rfl⟩
  have hc : Lib.countB s ⟨#[44]⟩ = Lib.count s.data.toList [44] := rfl
  have hd := Lib.splitB_data ⟨#[44]⟩ 0 (Lib.countB s ⟨#[44]⟩) s
  rw [hc, show (⟨#[44]⟩ : ByteArray).data.toList = [44] by rfl, splitK_one _ _ rfl] at hd
  have hm2 : ((Lib.splitB ⟨#[44]⟩ 0 (Lib.countB s ⟨#[44]⟩) s).map Value.string) = (splitC s.data.toList).map strV := by
    rw [← hd, hc, List.map_map]
    apply List.map_congr_left
    intro x _
    exact strV_data x
  have hl := Lib.splitB_all ⟨#[44]⟩ (by decide) 0 (Lib.countB s ⟨#[44]⟩) s rfl
  rw [hm2]
  refine ⟨⟨_, _, _, rfl, ?_, ?_⟩, (Below.refl _ _).alloc (Nat.le_refl _) _⟩
  · rw [← hl, ← hd, List.length_map, hc]
  · intro i x hx
    refine ⟨_, _, rfl, by simp, ?_⟩
    have : ((splitC s.data.toList).map strV)[i]? = some (strV x) := by rw [List.getElem?_map, hx]; rfl
    simp only [Nat.zero_add]
    rw [World.cell?_alloc_new, List.getElem?_toArray]
    exact this
end Go.Proofs.YtbaobjbckabnhaaGreatDoor
/- same: whether a text is a name; step: walked. -/
namespace Go.Proofs.YtbaobjbckabnhaaGreatDoor
open Go.RowKit

set_option maxRecDepth 100000 in
theorem same_any (s : ByteArray) (nm : List UInt8) (w : World) (_hs : s.size ≤ maxLen) (hn : nm.length ≤ 1000) (hl : nm.all letter = true) :
    Calls Tryz.prog 158 #[.string s, strV nm] w fun e w' => e = .returned (.bool (sameL s.data.toList nm)) ∧ Below w.heap.size w w' := by
  unfold maxLen at _hs
  unfold strV
  obtain ⟨t, rfl⟩ : ∃ t : ByteArray, nm = t.data.toList := ⟨⟨nm.toArray⟩, rfl⟩
  rw [show (⟨t.data.toList.toArray⟩ : ByteArray) = t by cases t; simp]
  rw [len_list] at hn
  by_cases he : s.size = t.size
  · have hne : ((s.size : Int) != (t.size : Int)) = false := by simp; omega
    have HE := Lib.hid he; have HA := Lib.hid hl
    clear he hl
    go_enter Tryz.func158, Tryz.ntmps158
    go_wp2_with fail
    go_loopw [5] (fun _ wr => ∃ k : Nat, wr = w.iter s k ∧ k ≤ s.size ∧ ∀ (j : Nat) (a b : UInt8), j < k → s.data.toList[j]? = some a → t.data.toList[j]? = some b → a = b ∨ a.toNat = b.toNat + 32) (fun _ wr => s.size - wr.iterPos w.heap.size)
    case atStart => exact ⟨0, rfl, Nat.zero_le _, fun j a b h => by omega⟩
    case round =>
      obtain ⟨k, rfl, hk, hi⟩ := hrel
      have HI := Lib.hid hi
      clear hi
      by_cases hlt : k < s.size
      · obtain ⟨r, q, hnx, r0, r1, hr⟩ := rune_at w s k hlt
        have hlt2 : k < t.size := by have := HE.out; omega
        have hlb : letter t[k] = true := by
          have h := HA.out
          rw [List.all_eq_true] at h
          exact h _ (List.mem_of_getElem? (get_list t k hlt2))
        have h65 : 65 ≤ t[k].toNat ∧ t[k].toNat ≤ 90 := by unfold letter at hlb; simpa using hlb
        obtain ⟨b0, b1⟩ := h65
        have HR := Lib.hid hr; have HT := Lib.hid (get_list t k hlt2); have HS := Lib.hid (get_list s k hlt)
        clear hr hlb
        by_cases hsame : r = (t[k].toNat : Int) ∨ r = (t[k].toNat : Int) + 32
        · have hq : q = k + 1 := by have := HR.out; omega
          subst hq
          have HN : Hid (∀ (j : Nat) (a b : UInt8), j < k + 1 → s.data.toList[j]? = some a → t.data.toList[j]? = some b → a = b ∨ a.toNat = b.toNat + 32) := Lib.hid (by
            intro j a b hj ha hb
            rcases Nat.lt_or_ge j k with h | h
            · exact HI.out j a b h ha hb
            · obtain rfl : j = k := by omega
              rw [HS.out] at ha; rw [HT.out] at hb
              cases ha; cases hb
              have := HR.out
              rcases hsame with h | h
              · exact .inl (UInt8.toNat_inj.1 (by omega))
              · exact .inr (by omega))
          rcases hsame with h | h
          · have e0 : (r != (t[k].toNat : Int)) = false := by simp; exact h
            clear h
            go_wp2_with fail
            go_roundw
            case rel => exact ⟨k + 1, rfl, hlt, HN.out⟩
            case measure => rw [World.iterPos_iter, World.iterPos_iter]; omega
          · have e0 : (r != (t[k].toNat : Int)) = true := by simp; omega
            have e1 : (r != (t[k].toNat : Int) + 32) = false := by simp; exact h
            clear h
            go_wp2_with fail
            go_roundw
            case rel => exact ⟨k + 1, rfl, hlt, HN.out⟩
            case measure => rw [World.iterPos_iter, World.iterPos_iter]; omega
        · have HB : Hid (sameL s.data.toList t.data.toList = false) := Lib.hid (same_bad HS.out HT.out (by
            intro q
            apply hsame
            have := HR.out
            rcases q with q | q
            · have := congrArg UInt8.toNat q; omega
            · omega))
          have e0 : (r != (t[k].toNat : Int)) = true := by simp; omega
          have e1 : (r != (t[k].toNat : Int) + 32) = true := by simp; omega
          clear hsame
          go_wp2_with fail
          go_ret
          exact ⟨by rw [HB.out]; rfl, below_iter _ _ _⟩
      · obtain rfl : k = s.size := by omega
        have hnx := fun ty => run_next_end (P := Tryz.prog) w s s.size ty (Nat.lt_irrefl _)
        have HT : Hid (sameL s.data.toList t.data.toList = true) := Lib.hid (same_all (by rw [len_list, len_list]; exact HE.out) (fun j a b ha hb => HI.out j a b (by
          rw [← len_list]; exact (List.getElem?_eq_some_iff.1 ha).1) ha hb))
        go_wp2_with fail
        go_ret
        exact ⟨by rw [HT.out]; rfl, below_iter _ _ _⟩
  · have hne : ((s.size : Int) != (t.size : Int)) = true := by simp; omega
    have HB : Hid (sameL s.data.toList t.data.toList = false) := Lib.hid (same_len (by rw [len_list, len_list]; exact he))
    clear he
    go_enter Tryz.func158, Tryz.ntmps158
    go_wp2_with fail
    go_ret
    exact ⟨by rw [HB.out]; rfl, Below.refl _ _⟩
/-- What step comes to. -/
def stepP (l : List UInt8) : Option Nat := stepL (some l)
theorem stepP_of {l : List UInt8} {n : Nat} (h : numS l = some n) (h1 : 1 ≤ n) (h2 : n ≤ 63) : stepP l = some n := by
  unfold stepP stepL
  simp only
  rw [(numS_iff l n (by omega)).1 h]
  simp only
  rw [if_pos ⟨h1, h2⟩]
theorem stepP_no {l : List UInt8} (h : numS l = none ∨ ∃ n, numS l = some n ∧ (n < 1 ∨ 63 < n)) : stepP l = none := by
  unfold stepP stepL
  simp only
  split
  · rename_i n hn
    split
    · rename_i hc
      have := (numS_iff l n (by omega)).2 hn
      rcases h with h | ⟨m, h, h'⟩
      · rw [h] at this; cases this
      · rw [h] at this; cases this; omega
    · rfl
  · rfl
theorem step_any (s : ByteArray) (w : World) (hs : s.size ≤ maxLen) :
    Calls Tryz.prog 175 #[.string s] w fun e w' => e = .returned (some2 (stepP s.data.toList)) ∧ Below w.heap.size w w' := by
  have HN := Lib.hid (number_any s w hs)
  cases hn : numS s.data.toList with
  | none =>
    have HP := Lib.hid (stepP_no (.inl hn))
    rw [hn] at HN
    clear hn
    go_enter Tryz.func175, Tryz.ntmps175
    go_wp2_with fail
    refine HN.out.mono ?_
    rintro e w2 ⟨rfl, hb⟩
    unfold some2
    go_wp2_with fail
    go_ret2
    exact ⟨by rw [HP.out]; rfl, hb⟩
  | some n =>
    rw [hn] at HN
    by_cases h : 1 ≤ n ∧ n ≤ 63
    · have HP := Lib.hid (stepP_of hn h.1 h.2)
      have h1 : decide ((n : Int) < 1) = false := by simp; omega
      have h2 : decide (63 < (n : Int)) = false := by simp; omega
      clear hn h
      go_enter Tryz.func175, Tryz.ntmps175
      go_wp2_with fail
      refine HN.out.mono ?_
      rintro e w2 ⟨rfl, hb⟩
      unfold some2
      simp only [Option.getD, Option.isSome]
      go_wp2_with fail
      go_ret2
      exact ⟨by rw [HP.out]; rfl, hb⟩
    · have hc : n < 1 ∨ 63 < n := by omega
      have HP := Lib.hid (stepP_no (.inr ⟨n, hn, hc⟩))
      clear hn h
      rcases hc with hc | hc
      · obtain rfl : n = 0 := by omega
        go_enter Tryz.func175, Tryz.ntmps175
        go_wp2_with fail
        refine HN.out.mono ?_
        rintro e w2 ⟨rfl, hb⟩
        unfold some2
        simp only [Option.getD, Option.isSome]
        go_wp2_with fail
        go_ret2
        exact ⟨by rw [HP.out]; rfl, hb⟩
      · have h1 : decide ((n : Int) < 1) = false := by simp; omega
        have h2 : 63 < (n : Int) := by omega
        go_enter Tryz.func175, Tryz.ntmps175
        go_wp2_with fail
        refine HN.out.mono ?_
        rintro e w2 ⟨rfl, hb⟩
        unfold some2
        simp only [Option.getD, Option.isSome]
        go_wp2_with fail
        go_ret2
        exact ⟨by rw [HP.out]; rfl, hb⟩
end Go.Proofs.YtbaobjbckabnhaaGreatDoor
/- Items, plain: the program's ways come to the document's. -/
namespace Go.Proofs.YtbaobjbckabnhaaGreatDoor
open Go Go.Op

/-- The program's way with 7. -/
def fixP (k : Nat) (m : BitVec 64) : BitVec 64 := (m &&& ~~~(m &&& ~~~(wholeM k))) ||| ((m &&& ~~~(wholeM k)) >>> 7)
theorem fixP_is {k a t : Nat} {s : Int} {m : BitVec 64} (_hk : k < 5) (ha : loK k ≤ a) (ht : t ≤ topK k) (h : spanM a t s = some m) : fixP k m = fix7 k m := by
  have hin : ∀ i, m.getLsbD i = true → loK k ≤ i ∧ i ≤ topK k := fun i hi => by have := span_in h hi; omega
  have hhi := hi_lt k
  apply BitVec.eq_of_getLsbD_eq
  intro i hi
  unfold fixP
  simp only [BitVec.getLsbD_or, BitVec.getLsbD_and, BitVec.getLsbD_not, BitVec.getLsbD_ushiftRight, whole_bit]
  by_cases hc : k = 4 ∧ m.getLsbD 7 = true
  · obtain ⟨rfl, h7⟩ := hc
    unfold fix7
    rw [if_pos ⟨rfl, h7⟩, mk_bit]
    have e0 : loK 4 = 0 := rfl
    have e1 : hiK 4 = 6 := rfl
    have e2 : topK 4 = 7 := rfl
    rw [e0, e1]
    have hx := hin i
    have hy := hin (7 + i)
    rw [e0, e2] at hx hy
    by_cases h0 : i = 0
    · subst h0
      simp [h7]
    · have hny : m.getLsbD (7 + i) = false := by
        cases hh : m.getLsbD (7 + i) with
        | false => rfl
        | true => have := hy hh; omega
      rw [hny]
      cases hm : m.getLsbD i with
      | false => simp [h0]
      | true =>
        have := hx hm
        by_cases h6 : i = 7
        · subst h6; simp
        · simp [hi, h0, h6]; omega
  · rw [fix7_other hc]
    have hw : ∀ j, m.getLsbD j = true → loK k ≤ j ∧ j ≤ hiK k := fun j hj => by
      have h1 := hin j hj
      refine ⟨h1.1, ?_⟩
      have h2 := h1.2
      unfold topK at h2
      by_cases h4 : k = 4
      · subst h4
        rw [if_pos rfl] at h2
        have : j ≠ 7 := fun e => hc ⟨rfl, by rw [← e]; exact hj⟩
        show j ≤ 6
        omega
      · rw [if_neg h4] at h2; exact h2
    have hn : (m.getLsbD (7 + i) && (decide (7 + i < 64) && !decide (7 + i < 64 ∧ loK k ≤ 7 + i ∧ 7 + i ≤ hiK k))) = false := by
      cases hm : m.getLsbD (7 + i) with
      | false => rfl
      | true =>
        have h1 := hw _ hm
        have h2 := BitVec.lt_of_getLsbD hm
        simp [h1, h2]
    rw [hn]
    cases hm : m.getLsbD i with
    | false => simp
    | true =>
      have h1 := hw _ hm
      simp [h1, hi]
def spanP (k : Nat) (f t n : Int) : Option (BitVec 64) := (spanM f t n).map (fixP k)
theorem spanP_is {k a t : Nat} {s : Int} (hk : k < 5) (ha : loK k ≤ a) (ht : t ≤ topK k) : spanP k a t s = (spanM a t s).map (fix7 k) := by
  unfold spanP
  cases h : spanM a t s with
  | none => rfl
  | some m => simp only [Option.map_some]; rw [fixP_is hk ha ht h]
theorem spanP_hi {k a t : Nat} {s : Int} (hk : k < 5) (ha : loK k ≤ a) (ht : t ≤ hiK k) : spanP k a t s = spanM a t s := by
  rw [spanP_is hk ha (Nat.le_trans ht (top_hi k)), fix_within ht]
def wholeP (k : Nat) (s : List UInt8) : Option (BitVec 64) := if s = [42] then some (wholeM k) else none
def eachP (k : Nat) (s : List UInt8) : Option (BitVec 64) := match (cutB s 47).2 with
  | none => none
  | some b => if (cutB s 47).1 = [42] then match stepP b with
    | none => none
    | some n => spanP k (loK k) (hiK k) n
    else none
def oneP (k : Nat) (s : List UInt8) : Option (BitVec 64) := match valueL k s with
  | none => none
  | some n => spanP k n n 1
def betP (k : Nat) (s : List UInt8) (n : Nat) : Option (BitVec 64) := match (cutB s 45).2 with
  | none => none
  | some b => match valueL k (cutB s 45).1 with
    | none => none
    | some x => match valueL k b with
      | none => none
      | some y => spanP k x y n
def rowByP (k : Nat) (s : List UInt8) : Option (BitVec 64) := match (cutB s 47).2 with
  | none => none
  | some b => match stepP b with
    | none => none
    | some n => betP k (cutB s 47).1 n
def itemP (k : Nat) (s : List UInt8) : Option (BitVec 64) := (wholeP k s).or ((eachP k s).or ((oneP k s).or ((betP k s 1).or (rowByP k s))))
theorem value_not {k : Nat} {s : List UInt8} {c : UInt8} (hc : c.toNat < 48) (h : c ∈ s) : valueL k s = none := by
  unfold valueL
  have h1 : (namesK k).findIdx? (fun nm => upL s == nm) = none := by
    rw [List.findIdx?_eq_none_iff]
    intro nm hnm
    rw [← Bool.not_eq_true, beq_iff_eq]
    intro e
    have hu : upB c = c := by unfold upB; rw [if_neg (by omega)]
    have hm : c ∈ nm := by rw [← e]; unfold upL; rw [List.mem_map]; exact ⟨c, h, hu⟩
    have hl := names_letters k nm hnm
    rw [List.all_eq_true] at hl
    have := hl c hm
    unfold letter at this
    simp at this
    omega
  rw [h1]
  have h2 : numL s = none := by
    unfold numL
    rw [if_pos]
    refine .inr (.inr (.inr ?_))
    rw [← Bool.not_eq_true]
    intro q
    unfold digs at q
    rw [List.all_eq_true] at q
    have := q c h
    unfold isDg at this
    simp at this
    omega
  rw [h2]
theorem bet_spec {k : Nat} {s : List UInt8} {n : Nat} (hk : k < 5) : betP k s n = match valueL k (cutB s 45).1 with
    | none => none
    | some x => match (cutB s 45).2 with
      | none => none
      | some b => match valueL k b with
        | none => none
        | some y => (spanM x y n).map (fix7 k) := by
  unfold betP
  cases (cutB s 45).2 with
  | none => cases valueL k (cutB s 45).1 <;> rfl
  | some b =>
    simp only
    cases hx : valueL k (cutB s 45).1 with
    | none => rfl
    | some x =>
      simp only
      cases hy : valueL k b with
      | none => rfl
      | some y => exact spanP_is hk (value_in hk hx).1 (value_in hk hy).2
theorem itemP_is {k : Nat} (hk : k < 5) (s : List UInt8) : itemP k s = itemL k s := by
  unfold itemP itemL
  obtain ⟨hn47, hA | ⟨b, hB, hs⟩⟩ := cutB_spec s 47
  · obtain ⟨h2, h1⟩ := hA
    have he : eachP k s = none := by unfold eachP; rw [h2]
    have hr : rowByP k s = none := by unfold rowByP; rw [h2]
    rw [he, hr, h2, h1]
    simp only [stepL, Option.isSome_none, Option.none_or, Option.or_none]
    unfold spanL
    by_cases h42 : s = [42]
    · unfold wholeP
      rw [if_pos h42, if_pos h42]
      exact (whole_span k).symm
    · unfold wholeP
      rw [if_neg h42, if_neg h42, Option.none_or, bet_spec hk]
      obtain ⟨_, hC | ⟨d, hD, hs2⟩⟩ := cutB_spec s 45
      · rw [hC.1, hC.2]
        unfold oneP
        cases hv : valueL k s with
        | none => rfl
        | some a =>
          simp only [Option.or_none]
          rw [if_neg (by decide)]
          exact spanP_is hk (value_in hk hv).1 (value_in hk hv).2
      · have hv : valueL k s = none := value_not (c := 45) (by decide) (by rw [hs2]; simp)
        unfold oneP
        rw [hv, hD]
        rfl
  · have h47 : (47 : UInt8) ∈ s := by rw [hs]; simp
    have hw : wholeP k s = none := by
      unfold wholeP
      rw [if_neg]
      rintro rfl
      simp at h47
    have ho : oneP k s = none := by
      unfold oneP
      rw [value_not (c := 47) (by decide) h47]
    have hb : betP k s 1 = none := by
      unfold betP
      obtain ⟨_, hC | ⟨d, hD, hs2⟩⟩ := cutB_spec s 45
      · rw [hC.1]
      · rw [hD]
        simp only
        rw [hs2] at h47
        rcases List.mem_append.1 h47 with h | h
        · rw [value_not (c := 47) (by decide) h]
        · have h' : (47 : UInt8) ∈ d := by
            rcases List.mem_cons.1 h with q | q
            · cases q
            · exact q
          rw [value_not (c := 47) (by decide) h']
          cases valueL k (cutB s 45).1 <;> rfl
    rw [hw, ho, hb, hB]
    unfold eachP rowByP
    rw [hB]
    simp only [Option.none_or, Option.isSome_some]
    show _ = match stepP b with | none => none | some by_ => spanL k (cutB s 47).1 true by_
    generalize (cutB s 47).1 = sp at *
    cases stepP b with
    | none => simp
    | some n =>
      simp only
      unfold spanL
      by_cases h42 : sp = [42]
      · rw [if_pos h42, if_pos h42]
        have hbn : betP k sp n = none := by rw [h42]; rfl
        rw [hbn, Option.or_none]
        exact spanP_hi hk (Nat.le_refl _) (Nat.le_refl _)
      · rw [if_neg h42, if_neg h42, Option.none_or, bet_spec hk]
        cases valueL k (cutB sp 45).1 with
        | none => rfl
        | some x =>
          simp only
          cases (cutB sp 45).2 with
          | none => rfl
          | some d => rfl
end Go.Proofs.YtbaobjbckabnhaaGreatDoor
/- Ends, Whole, Check; the document's Kind, Ends, Whole, Right: walked. -/
namespace Go.Proofs.YtbaobjbckabnhaaGreatDoor
open Go.RowKit

def runV (a b : Int) : Value := .agg #[.int .i64 a, .int .i64 b]
theorem hi_bd (k : Nat) : ((loK k : Nat) : Int) ≤ 1 ∧ ((hiK k : Nat) : Int) ≤ 59 ∧ (0 : Int) ≤ (loK k : Nat) ∧ (0 : Int) ≤ (hiK k : Nat) := by
  have := hi_lt k
  omega
theorem span_whole (k : Nat) (w : World) : Calls Tryz.prog 116 #[.int .i64 (loK k : Nat), .int .i64 (hiK k : Nat), .int .i64 1] w fun e w' => e = .returned (.tuple #[.int .u64 (U (wholeM k)), .int .i64 0]) ∧ w' = w := by
  have h := span_any (loK k : Nat) (hiK k : Nat) 1 w
  rw [whole_span] at h
  exact h.mono fun _ _ ⟨a, b⟩ => ⟨a, b.symm⟩
set_option maxRecDepth 100000 in
theorem whole_yes (k : Nat) (w : World) (hL : Laid w) (h : k < 5) :
    Calls Tryz.prog 75 #[.int .i64 (k : Int)] w fun e w' => e = .returned (.int .u64 (U (wholeM k))) ∧ Below w.heap.size w w' := by
  have h0 := hL.lo k h
  have h1 := hL.hi k h
  have hg : 0 < w.heap.size := by have := hL.lt; show 0 < w.heap.size; omega
  have hk5 : (k : Int) < 5 := by omega
  have HS := Lib.hid (fun W => span_whole k W)
  clear hL
  generalize wholeM k = m at *
  generalize ((loK k : Nat) : Int) = a at *
  generalize ((hiK k : Nat) : Int) = b at *
  go_enter Tryz.func75, Tryz.ntmps75
  go_wp2_with fail
  refine (there_yes k _ h).mono ?_
  rintro e w' ⟨rfl, rfl⟩
  go_wp2_with fail
  go_quiet ((go_at_call 116; with_reducible exact Calls.quiet_of_same (HS.out _)))
  go_wp2_with fail
  go_ret
  exact ⟨rfl, bdrewN (Below.refl _ _) _⟩
theorem whole_no (z : Int) (w : World) (h : NoKind z) :
    Calls Tryz.prog 75 #[.int .i64 z] w fun e w' => e = .returned (.int .u64 0) ∧ Below w.heap.size w w' := by
  have H := Lib.hid h
  clear h
  go_enter Tryz.func75, Tryz.ntmps75
  go_wp2_with fail
  refine (there_no z _ H.out).mono ?_
  rintro e w' ⟨rfl, rfl⟩
  go_wp2_with fail
  go_ret
  exact ⟨rfl, Below.refl _ _⟩
/-- Whether it is a field. -/
def fieldB (k : Nat) (m : BitVec 64) : Bool := m != 0#64 && (m &&& ~~~(wholeM k)) == 0#64
theorem less_whole (k : Nat) (m : BitVec 64) : (m &&& ~~~(wholeM k)) = 0#64 ↔ ∀ i, m.getLsbD i = true → loK k ≤ i ∧ i ≤ hiK k := by
  constructor
  · intro h i hi
    have h64 := BitVec.lt_of_getLsbD hi
    have := congrArg (fun x => x.getLsbD i) h
    simp only [BitVec.getLsbD_and, BitVec.getLsbD_not, hi, whole_bit, h64] at this
    simpa using this
  · intro h
    apply BitVec.eq_of_getLsbD_eq
    intro i hi
    rw [BitVec.getLsbD_and, BitVec.getLsbD_not, whole_bit]
    cases hm : m.getLsbD i with
    | false => simp
    | true => have := h i hm; simp [hi, this]
theorem fieldB_iff (k : Nat) (m : BitVec 64) : fieldB k m = true ↔ FieldM k m := by
  unfold fieldB FieldM
  rw [Bool.and_eq_true, beq_iff_eq, less_whole]
  simp
theorem u_ne (x : BitVec 64) : (U x != 0) = (x != 0#64) := by
  rw [Bool.eq_iff_iff, bne_iff_ne, bne_iff_ne, ← U_zero, ne_eq, U_inj]
theorem u_eq (x : BitVec 64) : (U x == 0) = (x == 0#64) := by
  rw [Bool.eq_iff_iff, beq_iff_eq, beq_iff_eq, ← U_zero, U_inj]
theorem check_no (z : Int) (m : BitVec 64) (w : World) (h : NoKind z) :
    Calls Tryz.prog 64 #[.int .i64 z, .int .u64 (U m)] w fun e w' => e = .returned (.int .i64 2) ∧ Below w.heap.size w w' := by
  have H := Lib.hid h
  clear h
  go_enter Tryz.func64, Tryz.ntmps64
  go_wp2_with fail
  refine (there_no z _ H.out).mono ?_
  rintro e w' ⟨rfl, rfl⟩
  go_wp2_with fail
  go_ret
  exact ⟨rfl, Below.refl _ _⟩
set_option maxRecDepth 100000 in
theorem check_yes (k : Nat) (m : BitVec 64) (w : World) (hL : Laid w) (h : k < 5) :
    Calls Tryz.prog 64 #[.int .i64 (k : Int), .int .u64 (U m)] w fun e w' => e = .returned (.int .i64 (if fieldB k m = true then 0 else 160)) ∧ Below w.heap.size w w' := by
  have HW := Lib.hid (whole_yes k w hL h)
  clear hL
  by_cases h0 : m = 0#64
  · subst h0
    have hz : (U 0#64 == 0) = true := by rw [u_eq]; rfl
    have hf : fieldB k 0#64 = false := rfl
    rw [hf, if_neg (by decide)]
    go_enter Tryz.func64, Tryz.ntmps64
    go_wp2_with fail
    refine (there_yes k _ h).mono ?_
    rintro e w' ⟨rfl, rfl⟩
    go_wp2_with fail
    go_ret
    exact ⟨rfl, Below.refl _ _⟩
  · have hz : (U m == 0) = false := by rw [u_eq]; simpa using h0
    have hq : (U (g_less m (wholeM k)) != 0) = (!fieldB k m) := by
      rw [u_ne]; unfold fieldB g_less
      have : (m != 0#64) = true := by simpa using h0
      rw [this, Bool.true_and]; rfl
    have HL := Lib.hid (fun W => less_any m (wholeM k) W)
    unfold g_less at hq
    cases hf : fieldB k m with
    | true =>
      rw [hf] at hq
      rw [if_pos rfl]
      have hx : (U (m &&& ~~~wholeM k) != 0) = false := hq
      clear hf hq h0
      go_enter Tryz.func64, Tryz.ntmps64
      go_wp2_with fail
      refine (there_yes k _ h).mono ?_
      rintro e w' ⟨rfl, rfl⟩
      go_wp2_with fail
      refine HW.out.mono ?_
      rintro e w2 ⟨rfl, hb⟩
      go_wp2_with fail
      refine (HL.out _).mono ?_
      rintro e w3 ⟨rfl, hb3⟩
      have hB := hb.trans (hb3.mono hb.size)
      go_wp2_with fail
      go_ret
      exact ⟨rfl, hB⟩
    | false =>
      rw [hf] at hq
      rw [if_neg (by decide)]
      have hx : (U (m &&& ~~~wholeM k) != 0) = true := hq
      clear hf hq h0
      go_enter Tryz.func64, Tryz.ntmps64
      go_wp2_with fail
      refine (there_yes k _ h).mono ?_
      rintro e w' ⟨rfl, rfl⟩
      go_wp2_with fail
      refine HW.out.mono ?_
      rintro e w2 ⟨rfl, hb⟩
      go_wp2_with fail
      refine (HL.out _).mono ?_
      rintro e w3 ⟨rfl, hb3⟩
      have hB := hb.trans (hb3.mono hb.size)
      go_wp2_with fail
      go_ret
      exact ⟨rfl, hB⟩
end Go.Proofs.YtbaobjbckabnhaaGreatDoor
/- values, and what it makes: the value of a text: walked. -/
namespace Go.Proofs.YtbaobjbckabnhaaGreatDoor
open Go.RowKit

/-- What a closure of values holds: its three variables. -/
def ValAt (w : World) (k p q r : Nat) : Prop := w.cell? ⟨p, 0, none⟩ = some (.int .i64 (loK k : Nat)) ∧ w.cell? ⟨q, 0, none⟩ = some (.int .i64 (topK k : Nat)) ∧ w.cell? ⟨r, 0, none⟩ = some (.int .i64 (k : Nat)) ∧ p < w.heap.size ∧ q < w.heap.size ∧ r < w.heap.size
theorem ValAt.on {w w' : World} {k p q r : Nat} (h : ValAt w k p q r) (hb : Below w.heap.size w w') : ValAt w' k p q r :=
  ⟨(hb.cell (p := ⟨p, 0, none⟩) h.2.2.2.1).trans h.1, (hb.cell (p := ⟨q, 0, none⟩) h.2.2.2.2.1).trans h.2.1, (hb.cell (p := ⟨r, 0, none⟩) h.2.2.2.2.2).trans h.2.2.1, Nat.lt_of_lt_of_le h.2.2.2.1 hb.size, Nat.lt_of_lt_of_le h.2.2.2.2.1 hb.size, Nat.lt_of_lt_of_le h.2.2.2.2.2 hb.size⟩
def valF (p q r : Nat) : Value := .func (.func 156) #[] #[.pointer (some ⟨p, 0, none⟩), .pointer (some ⟨q, 0, none⟩), .pointer (some ⟨r, 0, none⟩)]
theorem names_size (k : Nat) : (namesK k).length ≤ 12 ∧ (∀ x ∈ namesK k, x.length ≤ 1000) := by
  constructor
  · unfold namesK; split
    · decide
    · split <;> decide
  · intro x hx; rw [names_len k x hx]; omega
theorem name_at {k j : Nat} {s x : List UInt8} (hx : (namesK k)[j]? = some x) (hno : ∀ (i : Nat) (x : List UInt8), i < j → (namesK k)[i]? = some x → sameL s x = false) (h : sameL s x = true) : nameP k s = some j := by
  unfold nameP
  obtain ⟨hlt, hv⟩ := List.getElem?_eq_some_iff.1 hx
  rw [List.findIdx?_eq_some_iff_getElem]
  refine ⟨hlt, by rw [hv]; exact h, fun i hi => ?_⟩
  rw [hno i _ hi (List.getElem?_eq_getElem (by omega))]; simp
theorem name_next {k j : Nat} {s x : List UInt8} (hx : (namesK k)[j]? = some x) (hno : ∀ (i : Nat) (x : List UInt8), i < j → (namesK k)[i]? = some x → sameL s x = false) (h : sameL s x = false) : ∀ (i : Nat) (x : List UInt8), i < j + 1 → (namesK k)[i]? = some x → sameL s x = false := by
  intro i y hi hy
  rcases Nat.lt_or_ge i j with h1 | h1
  · exact hno i y h1 hy
  · obtain rfl : i = j := by omega
    rw [hx] at hy; cases hy; exact h
theorem name_none {k : Nat} {s : List UInt8} (hno : ∀ (i : Nat) (x : List UInt8), i < (namesK k).length → (namesK k)[i]? = some x → sameL s x = false) : nameP k s = none := by
  unfold nameP
  rw [List.findIdx?_eq_none_iff]
  intro x hx
  obtain ⟨i, hi⟩ := List.getElem?_of_mem hx
  exact hno i x (List.getElem?_eq_some_iff.1 hi).1 hi
theorem value_none {k : Nat} {s : List UInt8} (h : numS s = none) : valueL k s = (nameP k s).map (loK k + ·) := by rw [← value_is]; unfold valueP; rw [h]
theorem value_out {k n : Nat} {s : List UInt8} (h : numS s = some n) (hn : ¬ (loK k ≤ n ∧ n ≤ topK k)) : valueL k s = (nameP k s).map (loK k + ·) := by rw [← value_is]; unfold valueP; rw [h]; simp only; rw [if_neg hn]
theorem value_in' {k n : Nat} {s : List UInt8} (h : numS s = some n) (h0 : loK k ≤ n) (h1 : n ≤ topK k) : valueL k s = some n := by rw [← value_is]; unfold valueP; rw [h]; simp only; rw [if_pos ⟨h0, h1⟩]
set_option maxRecDepth 100000 in
set_option maxHeartbeats 1000000 in
theorem val_in (k p q r : Nat) (s : ByteArray) (w : World) (hL : Laid w) (hk : k < 5) (hV : ValAt w k p q r) (hs : s.size ≤ maxLen) :
    Calls Tryz.prog 156 #[.string s, .pointer (some ⟨p, 0, none⟩), .pointer (some ⟨q, 0, none⟩), .pointer (some ⟨r, 0, none⟩)] w fun e w' => e = .returned (some2 (valueL k s.data.toList)) ∧ Below w.heap.size w w' := by
  have HN := Lib.hid (number_any s w hs)
  have hk5 : (k : Int) < 5 := by omega
  cases hn : numS s.data.toList with
  | none =>
    have HE := Lib.hid (value_none (k := k) hn)
    rw [hn] at HN
    clear hn
    go_enter Tryz.func156, Tryz.ntmps156
    go_wp2_with fail
    refine HN.out.mono ?_
    rintro e w2 ⟨rfl, hb⟩
    have HV2 := Lib.hid (hV.on hb)
    have HL2 := Lib.hid (hL.on hb)
    have HB := Lib.hid hb
    clear hb hV hL
    unfold some2
    simp only [Option.getD, Option.isSome]
    rw [show ((0 : Nat) : Int) = 0 by rfl]
    obtain ⟨A, n, c, hA, hAr⟩ := HL2.out.names k hk
    obtain ⟨v0, v1, v2, vp, vq, vr⟩ := HV2.out
    have HAr := Lib.hid hAr
    have hg : 4 < w2.heap.size := by have := HL2.out.lt; show 4 < w2.heap.size; omega
    have hn12 : n ≤ 12 := by rw [← hAr.1]; exact (names_size k).1
    clear hAr
    go_wp2_with fail
    go_loopw [32] (fun i wr => ∃ j : Nat, j ≤ n ∧ i = .int .i64 (j : Int) ∧ Below w2.heap.size w2 wr ∧ ∀ (i : Nat) (x : List UInt8), i < j → (namesK k)[i]? = some x → sameL s.data.toList x = false) (fun i _ => n - (intOf i).toNat)
    case atStart => exact ⟨0, Nat.zero_le _, rfl, Below.refl _ _, fun i x h => by omega⟩
    case round =>
      obtain ⟨j, hj, rfl, hB, hno⟩ := hrel
      have HNO := Lib.hid hno; have HBr := Lib.hid hB
      obtain ⟨v0', v1', v2', vp', vq', vr'⟩ := HV2.out.on hB
      clear hno hB v0 v1 v2 vp vq vr hA
      by_cases hlt : j < n
      · obtain ⟨x, hx⟩ : ∃ x, (namesK k)[j]? = some x := ⟨_, List.getElem?_eq_getElem (by rw [HAr.out.1]; exact hlt)⟩
        obtain ⟨b, off, rfl, hbl, hc⟩ := (HAr.out.below HBr.out).2 j x hx
        have HS := Lib.hid (fun W => same_any s x W hs ((names_size k).2 x (List.mem_of_getElem? hx)) (names_letters k x (List.mem_of_getElem? hx)))
        have HX := Lib.hid hx
        clear hx
        unfold strV at hc HS
        cases hb : sameL s.data.toList x with
        | true =>
          rw [hb] at HS
          have HF := Lib.hid (show nameP k s.data.toList = some j from name_at HX.out HNO.out hb)
          clear hb
          go_wp2_with fail
          refine (HS.out _).mono ?_
          rintro e w4 ⟨rfl, hb4⟩
          have HB4 := Lib.hid (HBr.out.trans (hb4.mono HBr.out.size))
          obtain ⟨v0'', v1'', v2'', vp'', vq'', vr''⟩ := HV2.out.on HB4.out
          clear hb4 v0' v1' v2' vp' vq' vr' hc
          have hw1 := hi_bd k
          go_wp2_with fail
          go_ret2
          refine ⟨?_, HB.out.trans (HB4.out.mono HB.out.size)⟩
          rw [HE.out, HF.out]
          simp only [some2, Option.map_some, Option.getD_some, Option.isSome_some]
          rw [show (((loK k + j : Nat)) : Int) = (loK k : Nat) + (j : Int) by omega]; rfl
        | false =>
          rw [hb] at HS
          have HF := Lib.hid (show ∀ (i : Nat) (x : List UInt8), i < j + 1 → (namesK k)[i]? = some x → sameL s.data.toList x = false from name_next HX.out HNO.out hb)
          clear hb
          go_wp2_with fail
          refine (HS.out _).mono ?_
          rintro e w4 ⟨rfl, hb4⟩
          have HB4 := Lib.hid (HBr.out.trans (hb4.mono HBr.out.size))
          clear hb4 v0' v1' v2' vp' vq' vr' hc
          go_wp2_with fail
          go_roundw
          case rel => exact ⟨j + 1, hlt, by go_num, HB4.out, HF.out⟩
          case measure => simp [intOf]; omega
      · obtain rfl : j = n := by omega
        have HF := Lib.hid (show nameP k s.data.toList = none from name_none (by rw [← HAr.out.1] at HNO; exact HNO.out))
        go_wp2_with fail
        go_ret2
        refine ⟨?_, HB.out.trans (HBr.out.mono HB.out.size)⟩
        rw [HE.out, HF.out]; rfl
  | some m =>
    rw [hn] at HN
    by_cases h0 : loK k ≤ m
    · by_cases h1 : m ≤ topK k
      · have HE := Lib.hid (value_in' hn h0 h1)
        clear hn
        go_enter Tryz.func156, Tryz.ntmps156
        go_wp2_with fail
        refine HN.out.mono ?_
        rintro e w2 ⟨rfl, hb⟩
        obtain ⟨v0, v1, v2, vp, vq, vr⟩ := hV.on hb
        have h0' : decide (loK k ≤ m) = true := by simpa using h0
        have h1' : decide (m ≤ topK k) = true := by simpa using h1
        clear h0 h1 hV hL
        unfold some2
        simp only [Option.getD, Option.isSome]
        go_wp2_with fail
        go_ret2
        exact ⟨by rw [HE.out]; rfl, hb⟩
      · have HE := Lib.hid (value_out (k := k) hn (fun q => h1 q.2))
        clear hn
        go_enter Tryz.func156, Tryz.ntmps156
        go_wp2_with fail
        refine HN.out.mono ?_
        rintro e w2 ⟨rfl, hb⟩
        have HV2 := Lib.hid (hV.on hb)
        have HL2 := Lib.hid (hL.on hb)
        have HB := Lib.hid hb
        have h0' : decide (loK k ≤ m) = true := by simpa using h0
        have h1' : decide (m ≤ topK k) = false := by simpa using h1
        clear hb hV hL h0 h1
        unfold some2
        simp only [Option.getD, Option.isSome]
        obtain ⟨A, n, c, hA, hAr⟩ := HL2.out.names k hk
        obtain ⟨v0, v1, v2, vp, vq, vr⟩ := HV2.out
        have HAr := Lib.hid hAr
        have hg : 4 < w2.heap.size := by have := HL2.out.lt; show 4 < w2.heap.size; omega
        have hn12 : n ≤ 12 := by rw [← hAr.1]; exact (names_size k).1
        clear hAr
        go_wp2_with fail
        go_loopw [32] (fun i wr => ∃ j : Nat, j ≤ n ∧ i = .int .i64 (j : Int) ∧ Below w2.heap.size w2 wr ∧ ∀ (i : Nat) (x : List UInt8), i < j → (namesK k)[i]? = some x → sameL s.data.toList x = false) (fun i _ => n - (intOf i).toNat)
        case atStart => exact ⟨0, Nat.zero_le _, rfl, Below.refl _ _, fun i x h => by omega⟩
        case round =>
          obtain ⟨j, hj, rfl, hB, hno⟩ := hrel
          have HNO := Lib.hid hno; have HBr := Lib.hid hB
          obtain ⟨v0', v1', v2', vp', vq', vr'⟩ := HV2.out.on hB
          clear hno hB v0 v1 v2 vp vq vr hA
          by_cases hlt : j < n
          · obtain ⟨x, hx⟩ : ∃ x, (namesK k)[j]? = some x := ⟨_, List.getElem?_eq_getElem (by rw [HAr.out.1]; exact hlt)⟩
            obtain ⟨b, off, rfl, hbl, hc⟩ := (HAr.out.below HBr.out).2 j x hx
            have HS := Lib.hid (fun W => same_any s x W hs ((names_size k).2 x (List.mem_of_getElem? hx)) (names_letters k x (List.mem_of_getElem? hx)))
            have HX := Lib.hid hx
            clear hx
            unfold strV at hc HS
            cases hb : sameL s.data.toList x with
            | true =>
              rw [hb] at HS
              have HF := Lib.hid (show nameP k s.data.toList = some j from name_at HX.out HNO.out hb)
              clear hb
              go_wp2_with fail
              refine (HS.out _).mono ?_
              rintro e w4 ⟨rfl, hb4⟩
              have HB4 := Lib.hid (HBr.out.trans (hb4.mono HBr.out.size))
              obtain ⟨v0'', v1'', v2'', vp'', vq'', vr''⟩ := HV2.out.on HB4.out
              clear hb4 v0' v1' v2' vp' vq' vr' hc
              have hw1 := hi_bd k
              go_wp2_with fail
              go_ret2
              refine ⟨?_, HB.out.trans (HB4.out.mono HB.out.size)⟩
              rw [HE.out, HF.out]
              simp only [some2, Option.map_some, Option.getD_some, Option.isSome_some]
              rw [show (((loK k + j : Nat)) : Int) = (loK k : Nat) + (j : Int) by omega]; rfl
            | false =>
              rw [hb] at HS
              have HF := Lib.hid (show ∀ (i : Nat) (x : List UInt8), i < j + 1 → (namesK k)[i]? = some x → sameL s.data.toList x = false from name_next HX.out HNO.out hb)
              clear hb
              go_wp2_with fail
              refine (HS.out _).mono ?_
              rintro e w4 ⟨rfl, hb4⟩
              have HB4 := Lib.hid (HBr.out.trans (hb4.mono HBr.out.size))
              clear hb4 v0' v1' v2' vp' vq' vr' hc
              go_wp2_with fail
              go_roundw
              case rel => exact ⟨j + 1, hlt, by go_num, HB4.out, HF.out⟩
              case measure => simp [intOf]; omega
          · obtain rfl : j = n := by omega
            have HF := Lib.hid (show nameP k s.data.toList = none from name_none (by rw [← HAr.out.1] at HNO; exact HNO.out))
            go_wp2_with fail
            go_ret2
            refine ⟨?_, HB.out.trans (HBr.out.mono HB.out.size)⟩
            rw [HE.out, HF.out]; rfl
    · have HE := Lib.hid (value_out (k := k) hn (fun q => h0 q.1))
      clear hn
      go_enter Tryz.func156, Tryz.ntmps156
      go_wp2_with fail
      refine HN.out.mono ?_
      rintro e w2 ⟨rfl, hb⟩
      have HV2 := Lib.hid (hV.on hb)
      have HL2 := Lib.hid (hL.on hb)
      have HB := Lib.hid hb
      have h0' : decide (loK k ≤ m) = false := by simpa using h0
      clear hb hV hL h0
      unfold some2
      simp only [Option.getD, Option.isSome]
      obtain ⟨A, n, c, hA, hAr⟩ := HL2.out.names k hk
      obtain ⟨v0, v1, v2, vp, vq, vr⟩ := HV2.out
      have HAr := Lib.hid hAr
      have hg : 4 < w2.heap.size := by have := HL2.out.lt; show 4 < w2.heap.size; omega
      have hn12 : n ≤ 12 := by rw [← hAr.1]; exact (names_size k).1
      clear hAr
      go_wp2_with fail
      go_loopw [32] (fun i wr => ∃ j : Nat, j ≤ n ∧ i = .int .i64 (j : Int) ∧ Below w2.heap.size w2 wr ∧ ∀ (i : Nat) (x : List UInt8), i < j → (namesK k)[i]? = some x → sameL s.data.toList x = false) (fun i _ => n - (intOf i).toNat)
      case atStart => exact ⟨0, Nat.zero_le _, rfl, Below.refl _ _, fun i x h => by omega⟩
      case round =>
        obtain ⟨j, hj, rfl, hB, hno⟩ := hrel
        have HNO := Lib.hid hno; have HBr := Lib.hid hB
        obtain ⟨v0', v1', v2', vp', vq', vr'⟩ := HV2.out.on hB
        clear hno hB v0 v1 v2 vp vq vr hA
        by_cases hlt : j < n
        · obtain ⟨x, hx⟩ : ∃ x, (namesK k)[j]? = some x := ⟨_, List.getElem?_eq_getElem (by rw [HAr.out.1]; exact hlt)⟩
          obtain ⟨b, off, rfl, hbl, hc⟩ := (HAr.out.below HBr.out).2 j x hx
          have HS := Lib.hid (fun W => same_any s x W hs ((names_size k).2 x (List.mem_of_getElem? hx)) (names_letters k x (List.mem_of_getElem? hx)))
          have HX := Lib.hid hx
          clear hx
          unfold strV at hc HS
          cases hb : sameL s.data.toList x with
          | true =>
            rw [hb] at HS
            have HF := Lib.hid (show nameP k s.data.toList = some j from name_at HX.out HNO.out hb)
            clear hb
            go_wp2_with fail
            refine (HS.out _).mono ?_
            rintro e w4 ⟨rfl, hb4⟩
            have HB4 := Lib.hid (HBr.out.trans (hb4.mono HBr.out.size))
            obtain ⟨v0'', v1'', v2'', vp'', vq'', vr''⟩ := HV2.out.on HB4.out
            clear hb4 v0' v1' v2' vp' vq' vr' hc
            have hw1 := hi_bd k
            go_wp2_with fail
            go_ret2
            refine ⟨?_, HB.out.trans (HB4.out.mono HB.out.size)⟩
            rw [HE.out, HF.out]
            simp only [some2, Option.map_some, Option.getD_some, Option.isSome_some]
            rw [show (((loK k + j : Nat)) : Int) = (loK k : Nat) + (j : Int) by omega]; rfl
          | false =>
            rw [hb] at HS
            have HF := Lib.hid (show ∀ (i : Nat) (x : List UInt8), i < j + 1 → (namesK k)[i]? = some x → sameL s.data.toList x = false from name_next HX.out HNO.out hb)
            clear hb
            go_wp2_with fail
            refine (HS.out _).mono ?_
            rintro e w4 ⟨rfl, hb4⟩
            have HB4 := Lib.hid (HBr.out.trans (hb4.mono HBr.out.size))
            clear hb4 v0' v1' v2' vp' vq' vr' hc
            go_wp2_with fail
            go_roundw
            case rel => exact ⟨j + 1, hlt, by go_num, HB4.out, HF.out⟩
            case measure => simp [intOf]; omega
        · obtain rfl : j = n := by omega
          have HF := Lib.hid (show nameP k s.data.toList = none from name_none (by rw [← HAr.out.1] at HNO; exact HNO.out))
          go_wp2_with fail
          go_ret2
          refine ⟨?_, HB.out.trans (HBr.out.mono HB.out.size)⟩
          rw [HE.out, HF.out]; rfl
end Go.Proofs.YtbaobjbckabnhaaGreatDoor
/- values: what makes the closure; Value: walked. -/
namespace Go.Proofs.YtbaobjbckabnhaaGreatDoor
open Go.RowKit

theorem top_is (k : Nat) : topK k = if k = 4 then 7 else hiK k := rfl
theorem box3 (w : World) (t : TypeId) (x y z : Value) : ((((w.alloc (.cells #[x] t)).alloc (.cells #[y] t)).alloc (.cells #[z] t)).drew.cell? ⟨w.heap.size, 0, none⟩ = some x ∧ (((w.alloc (.cells #[x] t)).alloc (.cells #[y] t)).alloc (.cells #[z] t)).drew.cell? ⟨w.heap.size + 1, 0, none⟩ = some y ∧
    (((w.alloc (.cells #[x] t)).alloc (.cells #[y] t)).alloc (.cells #[z] t)).drew.cell? ⟨w.heap.size + 1 + 1, 0, none⟩ = some z) ∧ (((w.alloc (.cells #[x] t)).alloc (.cells #[y] t)).alloc (.cells #[z] t)).drew.heap.size = w.heap.size + 3 ∧
    Below w.heap.size w (((w.alloc (.cells #[x] t)).alloc (.cells #[y] t)).alloc (.cells #[z] t)).drew := by
  refine ⟨⟨by go_simp, by go_simp, by go_simp⟩, by go_simp, ?_⟩
  have h := (((Below.refl w.heap.size w).alloc (Nat.le_refl _) (.cells #[x] t)).alloc (by simp) (.cells #[y] t)).alloc (by simp; omega) (.cells #[z] t)
  exact ⟨h.os, h.tape, h.output, h.size, h.block⟩
set_option maxRecDepth 100000 in
set_option maxHeartbeats 1000000 in
theorem values_any (k : Nat) (w : World) (hL : Laid w) (hk : k < 5) :
    Calls Tryz.prog 140 #[.int .i64 (k : Int)] w fun e w' => (∃ p q r, e = .returned (valF p q r) ∧ ValAt w' k p q r) ∧ Below w.heap.size w w' := by
  have h0 := hL.lo k hk
  have h1 := hL.hi k hk
  have hg : 0 < w.heap.size := by have := hL.lt; show 0 < w.heap.size; omega
  have hg0 : 0 < w.heap.size := by omega
  have hg1 : ¬ 0 = w.heap.size + 1 := by omega
  have hk5 : (k : Int) < 5 := by omega
  have HT := Lib.hid (top_is k)
  clear hL
  unfold valF ValAt
  by_cases h4 : k = 4
  · rw [if_pos h4] at HT
    have HT' : Hid (((topK k : Nat) : Int) = 7) := Lib.hid (by rw [HT.out]; rfl)
    subst h4
    clear HT
    generalize ((loK 4 : Nat) : Int) = a at *
    generalize ((hiK 4 : Nat) : Int) = b at *
    go_enter Tryz.func140, Tryz.ntmps140
    go_wp2_with fail
    go_region
    · go_wp2_with fail
      go_ret
      rw [HT'.out]
      exact ⟨⟨_, _, _, rfl, (box3 _ _ _ _ _).1.2.1, (box3 _ _ _ _ _).1.2.2, (box3 _ _ _ _ _).1.1, by rw [(box3 _ _ _ _ _).2.1]; omega, by rw [(box3 _ _ _ _ _).2.1]; omega, by rw [(box3 _ _ _ _ _).2.1]; omega⟩, (box3 _ _ _ _ _).2.2⟩
    · go_wp2_with fail
      go_ret
      rw [HT'.out]
      exact ⟨⟨_, _, _, rfl, (box3 _ _ _ _ _).1.2.2, (box3 _ _ _ _ _).1.2.1, (box3 _ _ _ _ _).1.1, by rw [(box3 _ _ _ _ _).2.1]; omega, by rw [(box3 _ _ _ _ _).2.1]; omega, by rw [(box3 _ _ _ _ _).2.1]; omega⟩, (box3 _ _ _ _ _).2.2⟩
  · rw [if_neg h4] at HT
    have h4' : ((k : Int) == 4) = false := by simp; omega
    have HT' : Hid (((topK k : Nat) : Int) = (hiK k : Nat)) := Lib.hid (by rw [HT.out])
    clear HT h4
    generalize ((loK k : Nat) : Int) = a at *
    generalize ((hiK k : Nat) : Int) = b at *
    go_enter Tryz.func140, Tryz.ntmps140
    go_wp2_with fail
    go_region
    · go_wp2_with fail
      go_ret
      rw [HT'.out]
      exact ⟨⟨_, _, _, rfl, (box3 _ _ _ _ _).1.2.1, (box3 _ _ _ _ _).1.2.2, (box3 _ _ _ _ _).1.1, by rw [(box3 _ _ _ _ _).2.1]; omega, by rw [(box3 _ _ _ _ _).2.1]; omega, by rw [(box3 _ _ _ _ _).2.1]; omega⟩, (box3 _ _ _ _ _).2.2⟩
    · go_wp2_with fail
      go_ret
      rw [HT'.out]
      exact ⟨⟨_, _, _, rfl, (box3 _ _ _ _ _).1.2.2, (box3 _ _ _ _ _).1.2.1, (box3 _ _ _ _ _).1.1, by rw [(box3 _ _ _ _ _).2.1]; omega, by rw [(box3 _ _ _ _ _).2.1]; omega, by rw [(box3 _ _ _ _ _).2.1]; omega⟩, (box3 _ _ _ _ _).2.2⟩
end Go.Proofs.YtbaobjbckabnhaaGreatDoor
/- part.span, between, each, one, row, rowBy, whole: walked. -/
namespace Go.Proofs.YtbaobjbckabnhaaGreatDoor
open Go.RowKit

def optM : Option (BitVec 64) → Value
  | none => .tuple #[.int .u64 0, .bool false]
  | some m => .tuple #[.int .u64 (U m), .bool true]
/-- A part. -/
def partV (k : Nat) (s : ByteArray) (p q r : Nat) : Value := .agg #[.int .i64 (k : Int), .string s, valF p q r]
theorem or_pair (x y : BitVec 64) (W : World) : Calls Tryz.prog 142 #[.slice (some ⟨W.heap.size, 0, none⟩) 2 2] (W.alloc (.cells #[.int .u64 (U x), .int .u64 (U y)] 29)) fun e w' => e = .returned (.int .u64 (U (x ||| y))) ∧ (W.alloc (.cells #[.int .u64 (U x), .int .u64 (U y)] 29)) = w' := by
  have h := or_any (some ⟨W.heap.size, 0, none⟩) 2 2 [x, y] (W.alloc (.cells #[.int .u64 (U x), .int .u64 (U y)] 29)) rfl (by decide) (by
    intro k hk
    refine ⟨_, _, rfl, ?_⟩
    match k, hk with
    | 0, _ => go_simp; rfl
    | 1, _ => go_simp; rfl)
  have e : folds g_or [x, y] 0#64 = x ||| y := by simp [folds, g_or]
  rw [e] at h
  exact h
theorem shr7 (x : BitVec 64) : U x / (128 : Int) = U (x >>> 7) := by
  unfold U
  simp [BitVec.toNat_ushiftRight, Nat.shiftRight_eq_div_pow]
set_option maxRecDepth 100000 in
set_option maxHeartbeats 1000000 in
theorem span_in_part (k p q r : Nat) (s : ByteArray) (f t n : Int) (w : World) (hL : Laid w) (hk : k < 5) :
    Calls Tryz.prog 176 #[partV k s p q r, .int .i64 f, .int .i64 t, .int .i64 n] w fun e w' => e = .returned (optM (spanP k f t n)) ∧ Below w.heap.size w w' := by
  have HL := Lib.hid hL
  have HSp := Lib.hid (fun W => span_any f t n W)
  clear hL
  unfold partV valF
  unfold spanP
  cases hs : spanM f t n with
  | none =>
    rw [hs] at HSp
    clear hs
    go_enter Tryz.func176, Tryz.ntmps176
    go_wp2_with fail
    refine (HSp.out _).mono ?_
    rintro e w' ⟨rfl, rfl⟩
    unfold maskErr
    go_wp2_with fail
    go_ret2
    exact ⟨rfl, (Below.refl _ _).alloc (Nat.le_refl _) _⟩
  | some m =>
    rw [hs] at HSp
    clear hs
    go_enter Tryz.func176, Tryz.ntmps176
    go_wp2_with fail
    refine (HSp.out _).mono ?_
    rintro e w' ⟨rfl, rfl⟩
    unfold maskErr
    have hb0 := (Below.refl w.heap.size w).alloc (Nat.le_refl _) (.cells #[.int .i64 (k : Int), .string s, .func (.func 156) #[] #[.pointer (some ⟨p, 0, none⟩), .pointer (some ⟨q, 0, none⟩), .pointer (some ⟨r, 0, none⟩)]] 203)
    have HL1 := Lib.hid (HL.out.on hb0); have HB1 := Lib.hid hb0
    clear hb0
    go_wp2_with fail
    refine (whole_yes k _ HL1.out hk).mono ?_
    rintro e w2 ⟨rfl, hb⟩
    have HB2 := Lib.hid (HB1.out.trans (hb.mono HB1.out.size))
    clear hb
    go_wp2_with fail
    refine (less_any m (wholeM k) w2).mono ?_
    rintro e w3 ⟨rfl, hb⟩
    have HB3 := Lib.hid (HB2.out.trans (hb.mono HB2.out.size))
    clear hb
    go_wp2_with fail
    refine (less_any m (m &&& ~~~wholeM k) w3).mono ?_
    rintro e w4 ⟨rfl, hb⟩
    have HB4 := Lib.hid (HB3.out.trans (hb.mono HB3.out.size))
    have HO := Lib.hid (or_pair (m &&& ~~~(m &&& ~~~wholeM k)) ((m &&& ~~~wholeM k) >>> 7) w4)
    have hsh := shr7 (m &&& ~~~wholeM k)
    clear hb
    go_wp2_with fail
    refine HO.out.mono ?_
    rintro e w5 ⟨rfl, rfl⟩
    go_wp2_with fail
    go_ret2
    exact ⟨rfl, HB4.out.alloc HB4.out.size _⟩
end Go.Proofs.YtbaobjbckabnhaaGreatDoor
/- between, one, row, rowBy, each, whole, item: walked. -/
namespace Go.Proofs.YtbaobjbckabnhaaGreatDoor
open Go.RowKit

/-- A part stands in block g. -/
structure PartAt (W : World) (g k : Nat) (s : ByteArray) (p q r : Nat) : Prop where
  kind : W.cell? ⟨g, 0, none⟩ = some (.int .i64 (k : Int))
  text : W.cell? ⟨g, 1, none⟩ = some (.string s)
  value : W.cell? ⟨g, 2, none⟩ = some (valF p q r)
  lt : g < W.heap.size
theorem PartAt.on {W W' : World} {g k p q r : Nat} {s : ByteArray} (h : PartAt W g k s p q r) (hb : Below W.heap.size W W') : PartAt W' g k s p q r :=
  ⟨(hb.cell (p := ⟨g, 0, none⟩) h.lt).trans h.kind, (hb.cell (p := ⟨g, 1, none⟩) h.lt).trans h.text, (hb.cell (p := ⟨g, 2, none⟩) h.lt).trans h.value, Nat.lt_of_lt_of_le h.lt hb.size⟩
theorem PartAt.new (w : World) (k p q r : Nat) (s : ByteArray) (t : TypeId) : PartAt (w.alloc (.cells #[.int .i64 (k : Int), .string s, valF p q r] t)) w.heap.size k s p q r :=
  ⟨by go_simp, by go_simp, by go_simp, by simp⟩
theorem size_l (l : List UInt8) : (⟨l.toArray⟩ : ByteArray).size = l.length := by show l.toArray.size = _; simp
theorem val_l (k p q r : Nat) (l : List UInt8) (w : World) (hL : Laid w) (hk : k < 5) (hV : ValAt w k p q r) (hl : l.length ≤ 1000) :
    Calls Tryz.prog 156 #[strV l, .pointer (some ⟨p, 0, none⟩), .pointer (some ⟨q, 0, none⟩), .pointer (some ⟨r, 0, none⟩)] w fun e w' => e = .returned (some2 (valueL k l)) ∧ Below w.heap.size w w' := by
  have h := val_in k p q r ⟨l.toArray⟩ w hL hk hV (by unfold maxLen; rw [size_l]; omega)
  simpa [strV] using h
theorem step_l (l : List UInt8) (w : World) (hl : l.length ≤ 1000) :
    Calls Tryz.prog 175 #[strV l] w fun e w' => e = .returned (some2 (stepP l)) ∧ Below w.heap.size w w' := by
  have h := step_any ⟨l.toArray⟩ w (by unfold maxLen; rw [size_l]; omega)
  simpa [strV] using h
theorem cut_l (l : List UInt8) (c : UInt8) (w : World) (hL : Laid w) (hl : l.length ≤ 1000) :
    Calls Tryz.prog 174 #[strV l, .string ⟨#[c]⟩] w fun e w' => e = .returned (.tuple #[strV (cutB l c).1, strV ((cutB l c).2.getD []), .bool (cutB l c).2.isSome]) ∧ Below w.heap.size w w' := by
  have h := cut_any ⟨l.toArray⟩ c w hL (by rw [size_l]; omega)
  simpa [strV] using h
theorem span_l (k p q r : Nat) (s : ByteArray) (f t n : Nat) (w : World) (hL : Laid w) (hk : k < 5) :
    Calls Tryz.prog 176 #[.agg #[.int .i64 (k : Int), .string s, valF p q r], .int .i64 (f : Int), .int .i64 (t : Int), .int .i64 (n : Int)] w fun e w' => e = .returned (optM (spanP k f t n)) ∧ Below w.heap.size w w' := span_in_part k p q r s f t n w hL hk
theorem cut_len (l : List UInt8) (c : UInt8) : (cutB l c).1.length ≤ l.length ∧ ((cutB l c).2.getD []).length ≤ l.length := by
  obtain ⟨_, h | ⟨r, h1, h2⟩⟩ := cutB_spec l c
  · rw [h.1, h.2]; simp
  · rw [h1]
    have := congrArg List.length h2
    simp at this
    simp; omega
set_option maxRecDepth 100000 in
set_option maxHeartbeats 2000000 in
theorem between_any (k p q r : Nat) (s : ByteArray) (l : List UInt8) (n : Nat) (w : World) (hL : Laid w) (hk : k < 5) (hV : ValAt w k p q r) (hl : l.length ≤ 1000) :
    Calls Tryz.prog 177 #[.agg #[.int .i64 (k : Int), .string s, valF p q r], strV l, .int .i64 (n : Int)] w fun e w' => e = .returned (optM (betP k l n)) ∧ Below w.heap.size w w' := by
  have HL := Lib.hid hL; have HV := Lib.hid hV
  have hcl := cut_len l 45
  have HA : Hid ((cutB l 45).1.length ≤ 1000) := Lib.hid (by omega)
  have HBl : Hid (((cutB l 45).2.getD []).length ≤ 1000) := Lib.hid (by omega)
  clear hL hV hcl
  unfold betP
  cases hc : (cutB l 45).2 with
  | none =>
    have HC := Lib.hid hc
    clear hc
    go_enter Tryz.func177, Tryz.ntmps177
    go_wp2_with fail
    have HB1 := Lib.hid ((Below.refl w.heap.size w).alloc (Nat.le_refl _) (.cells #[.int .i64 (k : Int), .string s, valF p q r] 203))
    have HP1 := Lib.hid (PartAt.new w k p q r s 203)
    have HL1 := Lib.hid (HL.out.on HB1.out); have HV1 := Lib.hid (HV.out.on HB1.out)
    generalize w.alloc _ = w1 at *
    refine (cut_l l 45 w1 HL1.out hl).mono ?_
    rintro e w2 ⟨rfl, hb⟩
    have HB2 := Lib.hid (HB1.out.trans (hb.mono HB1.out.size)); have HP2 := Lib.hid (HP1.out.on hb); have HL2 := Lib.hid (HL1.out.on hb); have HV2 := Lib.hid (HV1.out.on hb)
    obtain ⟨c0, c1, c2, cg⟩ := HP2.out
    unfold valF at c2
    clear hb HB1 HP1 HL1 HV1 HL HV
    go_wp2_with fail
    refine (val_l k p q r _ w2 HL2.out hk HV2.out HA.out).mono ?_
    rintro e w3 ⟨rfl, hb⟩
    have HB3 := Lib.hid (HB2.out.trans (hb.mono HB2.out.size)); have HP3 := Lib.hid (HP2.out.on hb); have HL3 := Lib.hid (HL2.out.on hb); have HV3 := Lib.hid (HV2.out.on hb)
    clear hb HB2 HP2 HL2 HV2 c0 c1 c2 cg
    obtain ⟨c0, c1, c2, cg⟩ := HP3.out
    unfold valF at c2
    unfold some2
    go_wp2_with fail
    refine (val_l k p q r _ w3 HL3.out hk HV3.out HBl.out).mono ?_
    rintro e w4 ⟨rfl, hb⟩
    have HB4 := Lib.hid (HB3.out.trans (hb.mono HB3.out.size)); have HP4 := Lib.hid (HP3.out.on hb); have HL4 := Lib.hid (HL3.out.on hb); have HV4 := Lib.hid (HV3.out.on hb)
    clear hb HB3 HP3 HL3 HV3 c0 c1 c2 cg
    obtain ⟨c0, c1, c2, cg⟩ := HP4.out
    unfold valF at c2
    unfold some2
    rw [HC.out]
    simp only [Option.isSome_none]
    go_wp2_with fail
    go_ret2
    exact ⟨rfl, HB4.out⟩
  | some b =>
    have HC := Lib.hid hc
    simp only
    cases hx : valueL k (cutB l 45).1 with
    | none =>
      have HX := Lib.hid hx
      clear hc hx
      go_enter Tryz.func177, Tryz.ntmps177
      go_wp2_with fail
      have HB1 := Lib.hid ((Below.refl w.heap.size w).alloc (Nat.le_refl _) (.cells #[.int .i64 (k : Int), .string s, valF p q r] 203))
      have HP1 := Lib.hid (PartAt.new w k p q r s 203)
      have HL1 := Lib.hid (HL.out.on HB1.out); have HV1 := Lib.hid (HV.out.on HB1.out)
      generalize w.alloc _ = w1 at *
      refine (cut_l l 45 w1 HL1.out hl).mono ?_
      rintro e w2 ⟨rfl, hb⟩
      have HB2 := Lib.hid (HB1.out.trans (hb.mono HB1.out.size)); have HP2 := Lib.hid (HP1.out.on hb); have HL2 := Lib.hid (HL1.out.on hb); have HV2 := Lib.hid (HV1.out.on hb)
      obtain ⟨c0, c1, c2, cg⟩ := HP2.out
      unfold valF at c2
      clear hb HB1 HP1 HL1 HV1 HL HV
      go_wp2_with fail
      refine (val_l k p q r _ w2 HL2.out hk HV2.out HA.out).mono ?_
      rintro e w3 ⟨rfl, hb⟩
      have HB3 := Lib.hid (HB2.out.trans (hb.mono HB2.out.size)); have HP3 := Lib.hid (HP2.out.on hb); have HL3 := Lib.hid (HL2.out.on hb); have HV3 := Lib.hid (HV2.out.on hb)
      clear hb HB2 HP2 HL2 HV2 c0 c1 c2 cg
      obtain ⟨c0, c1, c2, cg⟩ := HP3.out
      unfold valF at c2
      unfold some2
      go_wp2_with fail
      refine (val_l k p q r _ w3 HL3.out hk HV3.out HBl.out).mono ?_
      rintro e w4 ⟨rfl, hb⟩
      have HB4 := Lib.hid (HB3.out.trans (hb.mono HB3.out.size)); have HP4 := Lib.hid (HP3.out.on hb); have HL4 := Lib.hid (HL3.out.on hb); have HV4 := Lib.hid (HV3.out.on hb)
      clear hb HB3 HP3 HL3 HV3 c0 c1 c2 cg
      obtain ⟨c0, c1, c2, cg⟩ := HP4.out
      unfold valF at c2
      unfold some2
      rw [HC.out, HX.out]
      simp only [Option.isSome_some, Option.isSome_none, Option.getD_none]
      go_wp2_with fail
      go_ret2
      exact ⟨rfl, HB4.out⟩
    | some x =>
      have HX := Lib.hid hx
      simp only
      cases hy : valueL k b with
      | none =>
        have HY := Lib.hid hy
        clear hc hx hy
        go_enter Tryz.func177, Tryz.ntmps177
        go_wp2_with fail
        have HB1 := Lib.hid ((Below.refl w.heap.size w).alloc (Nat.le_refl _) (.cells #[.int .i64 (k : Int), .string s, valF p q r] 203))
        have HP1 := Lib.hid (PartAt.new w k p q r s 203)
        have HL1 := Lib.hid (HL.out.on HB1.out); have HV1 := Lib.hid (HV.out.on HB1.out)
        generalize w.alloc _ = w1 at *
        refine (cut_l l 45 w1 HL1.out hl).mono ?_
        rintro e w2 ⟨rfl, hb⟩
        have HB2 := Lib.hid (HB1.out.trans (hb.mono HB1.out.size)); have HP2 := Lib.hid (HP1.out.on hb); have HL2 := Lib.hid (HL1.out.on hb); have HV2 := Lib.hid (HV1.out.on hb)
        obtain ⟨c0, c1, c2, cg⟩ := HP2.out
        unfold valF at c2
        clear hb HB1 HP1 HL1 HV1 HL HV
        go_wp2_with fail
        refine (val_l k p q r _ w2 HL2.out hk HV2.out HA.out).mono ?_
        rintro e w3 ⟨rfl, hb⟩
        have HB3 := Lib.hid (HB2.out.trans (hb.mono HB2.out.size)); have HP3 := Lib.hid (HP2.out.on hb); have HL3 := Lib.hid (HL2.out.on hb); have HV3 := Lib.hid (HV2.out.on hb)
        clear hb HB2 HP2 HL2 HV2 c0 c1 c2 cg
        obtain ⟨c0, c1, c2, cg⟩ := HP3.out
        unfold valF at c2
        unfold some2
        go_wp2_with fail
        refine (val_l k p q r _ w3 HL3.out hk HV3.out HBl.out).mono ?_
        rintro e w4 ⟨rfl, hb⟩
        have HB4 := Lib.hid (HB3.out.trans (hb.mono HB3.out.size)); have HP4 := Lib.hid (HP3.out.on hb); have HL4 := Lib.hid (HL3.out.on hb); have HV4 := Lib.hid (HV3.out.on hb)
        clear hb HB3 HP3 HL3 HV3 c0 c1 c2 cg
        obtain ⟨c0, c1, c2, cg⟩ := HP4.out
        unfold valF at c2
        unfold some2
        rw [HC.out, HX.out]
        simp only [Option.isSome_some, Option.getD_some]
        rw [HY.out]
        simp only [Option.isSome_none, Option.getD_none]
        go_wp2_with fail
        go_ret2
        exact ⟨rfl, HB4.out⟩
      | some y =>
        have HY := Lib.hid hy
        clear hc hx hy
        go_enter Tryz.func177, Tryz.ntmps177
        go_wp2_with fail
        have HB1 := Lib.hid ((Below.refl w.heap.size w).alloc (Nat.le_refl _) (.cells #[.int .i64 (k : Int), .string s, valF p q r] 203))
        have HP1 := Lib.hid (PartAt.new w k p q r s 203)
        have HL1 := Lib.hid (HL.out.on HB1.out); have HV1 := Lib.hid (HV.out.on HB1.out)
        generalize w.alloc _ = w1 at *
        refine (cut_l l 45 w1 HL1.out hl).mono ?_
        rintro e w2 ⟨rfl, hb⟩
        have HB2 := Lib.hid (HB1.out.trans (hb.mono HB1.out.size)); have HP2 := Lib.hid (HP1.out.on hb); have HL2 := Lib.hid (HL1.out.on hb); have HV2 := Lib.hid (HV1.out.on hb)
        obtain ⟨c0, c1, c2, cg⟩ := HP2.out
        unfold valF at c2
        clear hb HB1 HP1 HL1 HV1 HL HV
        go_wp2_with fail
        refine (val_l k p q r _ w2 HL2.out hk HV2.out HA.out).mono ?_
        rintro e w3 ⟨rfl, hb⟩
        have HB3 := Lib.hid (HB2.out.trans (hb.mono HB2.out.size)); have HP3 := Lib.hid (HP2.out.on hb); have HL3 := Lib.hid (HL2.out.on hb); have HV3 := Lib.hid (HV2.out.on hb)
        clear hb HB2 HP2 HL2 HV2 c0 c1 c2 cg
        obtain ⟨c0, c1, c2, cg⟩ := HP3.out
        unfold valF at c2
        unfold some2
        go_wp2_with fail
        refine (val_l k p q r _ w3 HL3.out hk HV3.out HBl.out).mono ?_
        rintro e w4 ⟨rfl, hb⟩
        have HB4 := Lib.hid (HB3.out.trans (hb.mono HB3.out.size)); have HP4 := Lib.hid (HP3.out.on hb); have HL4 := Lib.hid (HL3.out.on hb); have HV4 := Lib.hid (HV3.out.on hb)
        clear hb HB3 HP3 HL3 HV3 c0 c1 c2 cg
        obtain ⟨c0, c1, c2, cg⟩ := HP4.out
        unfold valF at c2
        unfold some2
        rw [HC.out, HX.out]
        simp only [Option.isSome_some, Option.getD_some]
        rw [HY.out]
        simp only [Option.isSome_some, Option.getD_some]
        have HS := Lib.hid (span_l k p q r s x y n w4 HL4.out hk)
        cases hz : spanP k x y n with
        | none =>
          rw [hz] at HS
          have HZ := Lib.hid hz
          clear hz
          unfold valF at HS
          go_wp2_with fail
          refine HS.out.mono ?_
          rintro e w5 ⟨rfl, hb⟩
          have HB5 := Lib.hid (HB4.out.trans (hb.mono HB4.out.size))
          clear hb c0 c1 c2 cg
          unfold optM
          go_wp2_with fail
          go_ret2
          exact ⟨by rw [HZ.out]; rfl, HB5.out⟩
        | some m =>
          rw [hz] at HS
          have HZ := Lib.hid hz
          clear hz
          unfold valF at HS
          go_wp2_with fail
          refine HS.out.mono ?_
          rintro e w5 ⟨rfl, hb⟩
          have HB5 := Lib.hid (HB4.out.trans (hb.mono HB4.out.size))
          clear hb c0 c1 c2 cg
          unfold optM
          go_wp2_with fail
          go_ret2
          exact ⟨by rw [HZ.out]; rfl, HB5.out⟩
end Go.Proofs.YtbaobjbckabnhaaGreatDoor
/- The five ways of an item: walked. -/
namespace Go.Proofs.YtbaobjbckabnhaaGreatDoor
open Go.RowKit

theorem strV_eq (l : List UInt8) : strV l = .string ⟨l.toArray⟩ := rfl
theorem val_s (k p q r : Nat) (l : List UInt8) (w : World) (hL : Laid w) (hk : k < 5) (hV : ValAt w k p q r) (hl : l.length ≤ 1000) :
    Calls Tryz.prog 156 #[.string ⟨l.toArray⟩, .pointer (some ⟨p, 0, none⟩), .pointer (some ⟨q, 0, none⟩), .pointer (some ⟨r, 0, none⟩)] w fun e w' => e = .returned (some2 (valueL k l)) ∧ Below w.heap.size w w' := val_l k p q r l w hL hk hV hl
theorem cut_s (l : List UInt8) (c : UInt8) (w : World) (hL : Laid w) (hl : l.length ≤ 1000) :
    Calls Tryz.prog 174 #[.string ⟨l.toArray⟩, .string ⟨#[c]⟩] w fun e w' => e = .returned (.tuple #[strV (cutB l c).1, strV ((cutB l c).2.getD []), .bool (cutB l c).2.isSome]) ∧ Below w.heap.size w w' := cut_l l c w hL hl
theorem bet_s (k p q r : Nat) (s : ByteArray) (l : List UInt8) (n : Nat) (w : World) (hL : Laid w) (hk : k < 5) (hV : ValAt w k p q r) (hl : l.length ≤ 1000) :
    Calls Tryz.prog 177 #[.agg #[.int .i64 (k : Int), .string s, valF p q r], .string ⟨l.toArray⟩, .int .i64 (n : Int)] w fun e w' => e = .returned (optM (betP k l n)) ∧ Below w.heap.size w w' := between_any k p q r s l n w hL hk hV hl
theorem star_eq (l : List UInt8) : ((⟨l.toArray⟩ : ByteArray).toList != [42]) = (l != [42]) := by rw [ByteArray.toList_eq]
set_option maxRecDepth 100000 in
set_option maxHeartbeats 2000000 in
theorem whole_any (k p q r : Nat) (l : List UInt8) (w : World) (hL : Laid w) (hk : k < 5) (hV : ValAt w k p q r) (_hl : l.length ≤ 1000) :
    Calls Tryz.prog 159 #[.agg #[.int .i64 (k : Int), strV l, valF p q r]] w fun e w' => e = .returned (optM (wholeP k l)) ∧ Below w.heap.size w w' := by
  have HL := Lib.hid hL; have HV := Lib.hid hV
  unfold strV valF
  clear hL hV
  unfold wholeP
  by_cases h : l = [42]
  · rw [if_pos h]
    have hs : (l == [42]) = true := by simpa using h
    clear h
    go_enter Tryz.func159, Tryz.ntmps159
    go_wp2_with fail
    have HB1 : Hid (Below w.heap.size w (w.alloc (.cells #[.int .i64 (k : Int), .string ⟨l.toArray⟩, .func (.func 156) #[] #[.pointer (some ⟨p, 0, none⟩), .pointer (some ⟨q, 0, none⟩), .pointer (some ⟨r, 0, none⟩)]] 203))) := Lib.hid ((Below.refl w.heap.size w).alloc (Nat.le_refl _) _)
    have HP1 : Hid (PartAt (w.alloc (.cells #[.int .i64 (k : Int), .string ⟨l.toArray⟩, .func (.func 156) #[] #[.pointer (some ⟨p, 0, none⟩), .pointer (some ⟨q, 0, none⟩), .pointer (some ⟨r, 0, none⟩)]] 203)) w.heap.size k ⟨l.toArray⟩ p q r) := Lib.hid (PartAt.new w k p q r ⟨l.toArray⟩ 203)
    have HL1 := Lib.hid (HL.out.on HB1.out); have HV1 := Lib.hid (HV.out.on HB1.out)
    generalize w.alloc _ = w1 at *
    obtain ⟨c0, c1, c2, cg⟩ := HP1.out
    unfold valF at c2
    clear HL HV
    refine (whole_yes k w1 HL1.out hk).mono ?_
    rintro e w2 ⟨rfl, hb⟩
    have HB2 := Lib.hid (HB1.out.trans (hb.mono HB1.out.size))
    clear hb c0 c1 c2 cg
    go_wp2_with fail
    go_ret2
    exact ⟨rfl, HB2.out⟩
  · rw [if_neg h]
    have hs : (l == [42]) = false := by simpa using h
    clear h
    go_enter Tryz.func159, Tryz.ntmps159
    go_wp2_with fail
    go_ret2
    exact ⟨rfl, (Below.refl _ _).alloc (Nat.le_refl _) _⟩
set_option maxRecDepth 100000 in
set_option maxHeartbeats 2000000 in
theorem one_any (k p q r : Nat) (l : List UInt8) (w : World) (hL : Laid w) (hk : k < 5) (hV : ValAt w k p q r) (hl : l.length ≤ 1000) :
    Calls Tryz.prog 161 #[.agg #[.int .i64 (k : Int), strV l, valF p q r]] w fun e w' => e = .returned (optM (oneP k l)) ∧ Below w.heap.size w w' := by
  have HL := Lib.hid hL; have HV := Lib.hid hV
  unfold strV valF
  clear hL hV
  unfold oneP
  cases hx : valueL k l with
  | none =>
    have HX := Lib.hid hx
    clear hx
    go_enter Tryz.func161, Tryz.ntmps161
    go_wp2_with fail
    have HB1 : Hid (Below w.heap.size w (w.alloc (.cells #[.int .i64 (k : Int), .string ⟨l.toArray⟩, .func (.func 156) #[] #[.pointer (some ⟨p, 0, none⟩), .pointer (some ⟨q, 0, none⟩), .pointer (some ⟨r, 0, none⟩)]] 203))) := Lib.hid ((Below.refl w.heap.size w).alloc (Nat.le_refl _) _)
    have HP1 : Hid (PartAt (w.alloc (.cells #[.int .i64 (k : Int), .string ⟨l.toArray⟩, .func (.func 156) #[] #[.pointer (some ⟨p, 0, none⟩), .pointer (some ⟨q, 0, none⟩), .pointer (some ⟨r, 0, none⟩)]] 203)) w.heap.size k ⟨l.toArray⟩ p q r) := Lib.hid (PartAt.new w k p q r ⟨l.toArray⟩ 203)
    have HL1 := Lib.hid (HL.out.on HB1.out); have HV1 := Lib.hid (HV.out.on HB1.out)
    generalize w.alloc _ = w1 at *
    obtain ⟨c0, c1, c2, cg⟩ := HP1.out
    unfold valF at c2
    clear HL HV
    refine (val_s k p q r l w1 HL1.out hk HV1.out hl).mono ?_
    rintro e w2 ⟨rfl, hb⟩
    have HB2 := Lib.hid (HB1.out.trans (hb.mono HB1.out.size)); have HP2 := Lib.hid (HP1.out.on hb); have HL2 := Lib.hid (HL1.out.on hb); have HV2 := Lib.hid (HV1.out.on hb)
    clear hb HB1 HP1 HL1 HV1 c0 c1 c2 cg
    obtain ⟨c0, c1, c2, cg⟩ := HP2.out
    unfold valF at c2
    rw [HX.out]
    unfold some2
    simp only [Option.isSome_none, Option.getD_none]
    go_wp2_with fail
    go_ret2
    exact ⟨rfl, HB2.out⟩
  | some x =>
    have HX := Lib.hid hx
    clear hx
    simp only
    go_enter Tryz.func161, Tryz.ntmps161
    go_wp2_with fail
    have HB1 : Hid (Below w.heap.size w (w.alloc (.cells #[.int .i64 (k : Int), .string ⟨l.toArray⟩, .func (.func 156) #[] #[.pointer (some ⟨p, 0, none⟩), .pointer (some ⟨q, 0, none⟩), .pointer (some ⟨r, 0, none⟩)]] 203))) := Lib.hid ((Below.refl w.heap.size w).alloc (Nat.le_refl _) _)
    have HP1 : Hid (PartAt (w.alloc (.cells #[.int .i64 (k : Int), .string ⟨l.toArray⟩, .func (.func 156) #[] #[.pointer (some ⟨p, 0, none⟩), .pointer (some ⟨q, 0, none⟩), .pointer (some ⟨r, 0, none⟩)]] 203)) w.heap.size k ⟨l.toArray⟩ p q r) := Lib.hid (PartAt.new w k p q r ⟨l.toArray⟩ 203)
    have HL1 := Lib.hid (HL.out.on HB1.out); have HV1 := Lib.hid (HV.out.on HB1.out)
    generalize w.alloc _ = w1 at *
    obtain ⟨c0, c1, c2, cg⟩ := HP1.out
    unfold valF at c2
    clear HL HV
    refine (val_s k p q r l w1 HL1.out hk HV1.out hl).mono ?_
    rintro e w2 ⟨rfl, hb⟩
    have HB2 := Lib.hid (HB1.out.trans (hb.mono HB1.out.size)); have HP2 := Lib.hid (HP1.out.on hb); have HL2 := Lib.hid (HL1.out.on hb); have HV2 := Lib.hid (HV1.out.on hb)
    clear hb HB1 HP1 HL1 HV1 c0 c1 c2 cg
    obtain ⟨c0, c1, c2, cg⟩ := HP2.out
    unfold valF at c2
    rw [HX.out]
    unfold some2
    simp only [Option.isSome_some, Option.getD_some]
    have HS := Lib.hid (span_in_part k p q r ⟨l.toArray⟩ (x : Int) (x : Int) 1 w2 HL2.out hk)
    unfold partV at HS
    cases hz : spanP k (x : Int) (x : Int) 1 with
    | none =>
      rw [hz] at HS
      have HZ := Lib.hid hz
      clear hz
      unfold valF at HS
      go_wp2_with fail
      refine HS.out.mono ?_
      rintro e w5 ⟨rfl, hb⟩
      have HB5 := Lib.hid (HB2.out.trans (hb.mono HB2.out.size))
      clear hb c0 c1 c2 cg
      unfold optM
      go_wp2_with fail
      go_ret2
      exact ⟨by rw [HZ.out]; rfl, HB5.out⟩
    | some m =>
      rw [hz] at HS
      have HZ := Lib.hid hz
      clear hz
      unfold valF at HS
      go_wp2_with fail
      refine HS.out.mono ?_
      rintro e w5 ⟨rfl, hb⟩
      have HB5 := Lib.hid (HB2.out.trans (hb.mono HB2.out.size))
      clear hb c0 c1 c2 cg
      unfold optM
      go_wp2_with fail
      go_ret2
      exact ⟨by rw [HZ.out]; rfl, HB5.out⟩
set_option maxRecDepth 100000 in
set_option maxHeartbeats 2000000 in
theorem row_any (k p q r : Nat) (l : List UInt8) (w : World) (hL : Laid w) (hk : k < 5) (hV : ValAt w k p q r) (hl : l.length ≤ 1000) :
    Calls Tryz.prog 162 #[.agg #[.int .i64 (k : Int), strV l, valF p q r]] w fun e w' => e = .returned (optM (betP k l 1)) ∧ Below w.heap.size w w' := by
  have HL := Lib.hid hL; have HV := Lib.hid hV
  unfold strV valF
  clear hL hV
  go_enter Tryz.func162, Tryz.ntmps162
  go_wp2_with fail
  have HB1 : Hid (Below w.heap.size w (w.alloc (.cells #[.int .i64 (k : Int), .string ⟨l.toArray⟩, .func (.func 156) #[] #[.pointer (some ⟨p, 0, none⟩), .pointer (some ⟨q, 0, none⟩), .pointer (some ⟨r, 0, none⟩)]] 203))) := Lib.hid ((Below.refl w.heap.size w).alloc (Nat.le_refl _) _)
  have HP1 : Hid (PartAt (w.alloc (.cells #[.int .i64 (k : Int), .string ⟨l.toArray⟩, .func (.func 156) #[] #[.pointer (some ⟨p, 0, none⟩), .pointer (some ⟨q, 0, none⟩), .pointer (some ⟨r, 0, none⟩)]] 203)) w.heap.size k ⟨l.toArray⟩ p q r) := Lib.hid (PartAt.new w k p q r ⟨l.toArray⟩ 203)
  have HL1 := Lib.hid (HL.out.on HB1.out); have HV1 := Lib.hid (HV.out.on HB1.out)
  generalize w.alloc _ = w1 at *
  obtain ⟨c0, c1, c2, cg⟩ := HP1.out
  unfold valF at c2
  clear HL HV
  have HS := Lib.hid (bet_s k p q r ⟨l.toArray⟩ l 1 w1 HL1.out hk HV1.out hl)
  cases hz : betP k l 1 with
  | none =>
    rw [hz] at HS
    have HZ := Lib.hid hz
    clear hz
    unfold valF at HS
    go_wp2_with fail
    refine HS.out.mono ?_
    rintro e w5 ⟨rfl, hb⟩
    have HB5 := Lib.hid (HB1.out.trans (hb.mono HB1.out.size))
    clear hb c0 c1 c2 cg
    unfold optM
    go_wp2_with fail
    go_ret2
    exact ⟨by rw [HZ.out]; rfl, HB5.out⟩
  | some m =>
    rw [hz] at HS
    have HZ := Lib.hid hz
    clear hz
    unfold valF at HS
    go_wp2_with fail
    refine HS.out.mono ?_
    rintro e w5 ⟨rfl, hb⟩
    have HB5 := Lib.hid (HB1.out.trans (hb.mono HB1.out.size))
    clear hb c0 c1 c2 cg
    unfold optM
    go_wp2_with fail
    go_ret2
    exact ⟨by rw [HZ.out]; rfl, HB5.out⟩
set_option maxRecDepth 100000 in
set_option maxHeartbeats 2000000 in
theorem rowBy_any (k p q r : Nat) (l : List UInt8) (w : World) (hL : Laid w) (hk : k < 5) (hV : ValAt w k p q r) (hl : l.length ≤ 1000) :
    Calls Tryz.prog 163 #[.agg #[.int .i64 (k : Int), strV l, valF p q r]] w fun e w' => e = .returned (optM (rowByP k l)) ∧ Below w.heap.size w w' := by
  have HL := Lib.hid hL; have HV := Lib.hid hV
  unfold strV valF
  clear hL hV
  unfold rowByP
  have hcl := cut_len l 47
  have HA : Hid ((cutB l 47).1.length ≤ 1000) := Lib.hid (by omega)
  have HBl : Hid (((cutB l 47).2.getD []).length ≤ 1000) := Lib.hid (by omega)
  clear hcl
  cases hc : (cutB l 47).2 with
  | none =>
    have HC := Lib.hid hc
    clear hc
    go_enter Tryz.func163, Tryz.ntmps163
    go_wp2_with fail
    have HB1 : Hid (Below w.heap.size w (w.alloc (.cells #[.int .i64 (k : Int), .string ⟨l.toArray⟩, .func (.func 156) #[] #[.pointer (some ⟨p, 0, none⟩), .pointer (some ⟨q, 0, none⟩), .pointer (some ⟨r, 0, none⟩)]] 203))) := Lib.hid ((Below.refl w.heap.size w).alloc (Nat.le_refl _) _)
    have HP1 : Hid (PartAt (w.alloc (.cells #[.int .i64 (k : Int), .string ⟨l.toArray⟩, .func (.func 156) #[] #[.pointer (some ⟨p, 0, none⟩), .pointer (some ⟨q, 0, none⟩), .pointer (some ⟨r, 0, none⟩)]] 203)) w.heap.size k ⟨l.toArray⟩ p q r) := Lib.hid (PartAt.new w k p q r ⟨l.toArray⟩ 203)
    have HL1 := Lib.hid (HL.out.on HB1.out); have HV1 := Lib.hid (HV.out.on HB1.out)
    generalize w.alloc _ = w1 at *
    obtain ⟨c0, c1, c2, cg⟩ := HP1.out
    unfold valF at c2
    clear HL HV
    refine (cut_s l 47 w1 HL1.out hl).mono ?_
    rintro e w2 ⟨rfl, hb⟩
    have HB2 := Lib.hid (HB1.out.trans (hb.mono HB1.out.size)); have HP2 := Lib.hid (HP1.out.on hb); have HL2 := Lib.hid (HL1.out.on hb); have HV2 := Lib.hid (HV1.out.on hb)
    clear hb HB1 HP1 HL1 HV1 c0 c1 c2 cg
    obtain ⟨c0, c1, c2, cg⟩ := HP2.out
    unfold valF at c2
    go_wp2_with fail
    refine (step_l _ w2 HBl.out).mono ?_
    rintro e w3 ⟨rfl, hb⟩
    have HB3 := Lib.hid (HB2.out.trans (hb.mono HB2.out.size)); have HP3 := Lib.hid (HP2.out.on hb); have HL3 := Lib.hid (HL2.out.on hb); have HV3 := Lib.hid (HV2.out.on hb)
    clear hb HB2 HP2 HL2 HV2 c0 c1 c2 cg
    obtain ⟨c0, c1, c2, cg⟩ := HP3.out
    unfold valF at c2
    rw [HC.out]
    unfold some2
    simp only [Option.isSome_none]
    go_wp2_with fail
    go_ret2
    exact ⟨rfl, HB3.out⟩
  | some b =>
    have HC := Lib.hid hc
    simp only
    cases hx : stepP b with
    | none =>
      have HX := Lib.hid hx
      clear hc hx
      go_enter Tryz.func163, Tryz.ntmps163
      go_wp2_with fail
      have HB1 : Hid (Below w.heap.size w (w.alloc (.cells #[.int .i64 (k : Int), .string ⟨l.toArray⟩, .func (.func 156) #[] #[.pointer (some ⟨p, 0, none⟩), .pointer (some ⟨q, 0, none⟩), .pointer (some ⟨r, 0, none⟩)]] 203))) := Lib.hid ((Below.refl w.heap.size w).alloc (Nat.le_refl _) _)
      have HP1 : Hid (PartAt (w.alloc (.cells #[.int .i64 (k : Int), .string ⟨l.toArray⟩, .func (.func 156) #[] #[.pointer (some ⟨p, 0, none⟩), .pointer (some ⟨q, 0, none⟩), .pointer (some ⟨r, 0, none⟩)]] 203)) w.heap.size k ⟨l.toArray⟩ p q r) := Lib.hid (PartAt.new w k p q r ⟨l.toArray⟩ 203)
      have HL1 := Lib.hid (HL.out.on HB1.out); have HV1 := Lib.hid (HV.out.on HB1.out)
      generalize w.alloc _ = w1 at *
      obtain ⟨c0, c1, c2, cg⟩ := HP1.out
      unfold valF at c2
      clear HL HV
      refine (cut_s l 47 w1 HL1.out hl).mono ?_
      rintro e w2 ⟨rfl, hb⟩
      have HB2 := Lib.hid (HB1.out.trans (hb.mono HB1.out.size)); have HP2 := Lib.hid (HP1.out.on hb); have HL2 := Lib.hid (HL1.out.on hb); have HV2 := Lib.hid (HV1.out.on hb)
      clear hb HB1 HP1 HL1 HV1 c0 c1 c2 cg
      obtain ⟨c0, c1, c2, cg⟩ := HP2.out
      unfold valF at c2
      go_wp2_with fail
      refine (step_l _ w2 HBl.out).mono ?_
      rintro e w3 ⟨rfl, hb⟩
      have HB3 := Lib.hid (HB2.out.trans (hb.mono HB2.out.size)); have HP3 := Lib.hid (HP2.out.on hb); have HL3 := Lib.hid (HL2.out.on hb); have HV3 := Lib.hid (HV2.out.on hb)
      clear hb HB2 HP2 HL2 HV2 c0 c1 c2 cg
      obtain ⟨c0, c1, c2, cg⟩ := HP3.out
      unfold valF at c2
      rw [HC.out]
      simp only [Option.isSome_some, Option.getD_some]
      rw [HX.out]
      unfold some2
      simp only [Option.isSome_none, Option.getD_none]
      go_wp2_with fail
      go_ret2
      exact ⟨rfl, HB3.out⟩
    | some n =>
      have HX := Lib.hid hx
      clear hc hx
      simp only
      go_enter Tryz.func163, Tryz.ntmps163
      go_wp2_with fail
      have HB1 : Hid (Below w.heap.size w (w.alloc (.cells #[.int .i64 (k : Int), .string ⟨l.toArray⟩, .func (.func 156) #[] #[.pointer (some ⟨p, 0, none⟩), .pointer (some ⟨q, 0, none⟩), .pointer (some ⟨r, 0, none⟩)]] 203))) := Lib.hid ((Below.refl w.heap.size w).alloc (Nat.le_refl _) _)
      have HP1 : Hid (PartAt (w.alloc (.cells #[.int .i64 (k : Int), .string ⟨l.toArray⟩, .func (.func 156) #[] #[.pointer (some ⟨p, 0, none⟩), .pointer (some ⟨q, 0, none⟩), .pointer (some ⟨r, 0, none⟩)]] 203)) w.heap.size k ⟨l.toArray⟩ p q r) := Lib.hid (PartAt.new w k p q r ⟨l.toArray⟩ 203)
      have HL1 := Lib.hid (HL.out.on HB1.out); have HV1 := Lib.hid (HV.out.on HB1.out)
      generalize w.alloc _ = w1 at *
      obtain ⟨c0, c1, c2, cg⟩ := HP1.out
      unfold valF at c2
      clear HL HV
      refine (cut_s l 47 w1 HL1.out hl).mono ?_
      rintro e w2 ⟨rfl, hb⟩
      have HB2 := Lib.hid (HB1.out.trans (hb.mono HB1.out.size)); have HP2 := Lib.hid (HP1.out.on hb); have HL2 := Lib.hid (HL1.out.on hb); have HV2 := Lib.hid (HV1.out.on hb)
      clear hb HB1 HP1 HL1 HV1 c0 c1 c2 cg
      obtain ⟨c0, c1, c2, cg⟩ := HP2.out
      unfold valF at c2
      go_wp2_with fail
      refine (step_l _ w2 HBl.out).mono ?_
      rintro e w3 ⟨rfl, hb⟩
      have HB3 := Lib.hid (HB2.out.trans (hb.mono HB2.out.size)); have HP3 := Lib.hid (HP2.out.on hb); have HL3 := Lib.hid (HL2.out.on hb); have HV3 := Lib.hid (HV2.out.on hb)
      clear hb HB2 HP2 HL2 HV2 c0 c1 c2 cg
      obtain ⟨c0, c1, c2, cg⟩ := HP3.out
      unfold valF at c2
      rw [HC.out]
      simp only [Option.isSome_some, Option.getD_some]
      rw [HX.out]
      unfold some2
      simp only [Option.isSome_some, Option.getD_some]
      unfold strV
      have HS := Lib.hid (bet_s k p q r ⟨l.toArray⟩ (cutB l 47).1 n w3 HL3.out hk HV3.out HA.out)
      cases hz : betP k (cutB l 47).1 n with
      | none =>
        rw [hz] at HS
        have HZ := Lib.hid hz
        clear hz
        unfold valF at HS
        go_wp2_with fail
        refine HS.out.mono ?_
        rintro e w5 ⟨rfl, hb⟩
        have HB5 := Lib.hid (HB3.out.trans (hb.mono HB3.out.size))
        clear hb c0 c1 c2 cg
        unfold optM
        go_wp2_with fail
        go_ret2
        exact ⟨by rw [HZ.out]; rfl, HB5.out⟩
      | some m =>
        rw [hz] at HS
        have HZ := Lib.hid hz
        clear hz
        unfold valF at HS
        go_wp2_with fail
        refine HS.out.mono ?_
        rintro e w5 ⟨rfl, hb⟩
        have HB5 := Lib.hid (HB3.out.trans (hb.mono HB3.out.size))
        clear hb c0 c1 c2 cg
        unfold optM
        go_wp2_with fail
        go_ret2
        exact ⟨by rw [HZ.out]; rfl, HB5.out⟩
end Go.Proofs.YtbaobjbckabnhaaGreatDoor
/- each: the item * / step: walked. -/
namespace Go.Proofs.YtbaobjbckabnhaaGreatDoor
open Go.RowKit

set_option maxRecDepth 100000 in
set_option maxHeartbeats 2000000 in
theorem each_any (k p q r : Nat) (l : List UInt8) (w : World) (hL : Laid w) (hk : k < 5) (hV : ValAt w k p q r) (hl : l.length ≤ 1000) :
    Calls Tryz.prog 160 #[.agg #[.int .i64 (k : Int), strV l, valF p q r]] w fun e w' => e = .returned (optM (eachP k l)) ∧ Below w.heap.size w w' := by
  have HL := Lib.hid hL; have HV := Lib.hid hV
  unfold strV valF
  clear hL hV
  unfold eachP
  have hcl := cut_len l 47
  have HA : Hid ((cutB l 47).1.length ≤ 1000) := Lib.hid (by omega)
  have HBl : Hid (((cutB l 47).2.getD []).length ≤ 1000) := Lib.hid (by omega)
  clear hcl
  cases hc : (cutB l 47).2 with
  | none =>
    have HC := Lib.hid hc
    clear hc
    go_enter Tryz.func160, Tryz.ntmps160
    go_wp2_with fail
    have HB1 : Hid (Below w.heap.size w (w.alloc (.cells #[.int .i64 (k : Int), .string ⟨l.toArray⟩, .func (.func 156) #[] #[.pointer (some ⟨p, 0, none⟩), .pointer (some ⟨q, 0, none⟩), .pointer (some ⟨r, 0, none⟩)]] 203))) := Lib.hid ((Below.refl w.heap.size w).alloc (Nat.le_refl _) _)
    have HP1 : Hid (PartAt (w.alloc (.cells #[.int .i64 (k : Int), .string ⟨l.toArray⟩, .func (.func 156) #[] #[.pointer (some ⟨p, 0, none⟩), .pointer (some ⟨q, 0, none⟩), .pointer (some ⟨r, 0, none⟩)]] 203)) w.heap.size k ⟨l.toArray⟩ p q r) := Lib.hid (PartAt.new w k p q r ⟨l.toArray⟩ 203)
    have HL1 := Lib.hid (HL.out.on HB1.out); have HV1 := Lib.hid (HV.out.on HB1.out)
    generalize w.alloc _ = w1 at *
    clear HL HV
    refine (cut_s l 47 w1 HL1.out hl).mono ?_
    rintro e w2 ⟨rfl, hb⟩
    have HB2 := Lib.hid (HB1.out.trans (hb.mono HB1.out.size)); have HP2 := Lib.hid (HP1.out.on hb); have HL2 := Lib.hid (HL1.out.on hb); have HV2 := Lib.hid (HV1.out.on hb)
    clear hb HB1 HP1 HL1 HV1
    go_wp2_with fail
    refine (step_l _ w2 HBl.out).mono ?_
    rintro e w3 ⟨rfl, hb⟩
    have HB3 := Lib.hid (HB2.out.trans (hb.mono HB2.out.size)); have HP3 := Lib.hid (HP2.out.on hb); have HL3 := Lib.hid (HL2.out.on hb); have HV3 := Lib.hid (HV2.out.on hb)
    clear hb HB2 HP2 HL2 HV2
    rw [HC.out]
    unfold some2
    simp only [Option.isSome_none]
    go_wp2_with fail
    go_ret2
    exact ⟨rfl, HB3.out⟩
  | some b =>
    have HC := Lib.hid hc
    simp only
    by_cases h42 : (cutB l 47).1 = [42]
    · rw [if_pos h42]
      have hs : ((cutB l 47).1 == [42]) = true := by simpa using h42
      cases hx : stepP b with
      | none =>
        have HX := Lib.hid hx
        clear hc hx h42
        go_enter Tryz.func160, Tryz.ntmps160
        go_wp2_with fail
        have HB1 : Hid (Below w.heap.size w (w.alloc (.cells #[.int .i64 (k : Int), .string ⟨l.toArray⟩, .func (.func 156) #[] #[.pointer (some ⟨p, 0, none⟩), .pointer (some ⟨q, 0, none⟩), .pointer (some ⟨r, 0, none⟩)]] 203))) := Lib.hid ((Below.refl w.heap.size w).alloc (Nat.le_refl _) _)
        have HP1 : Hid (PartAt (w.alloc (.cells #[.int .i64 (k : Int), .string ⟨l.toArray⟩, .func (.func 156) #[] #[.pointer (some ⟨p, 0, none⟩), .pointer (some ⟨q, 0, none⟩), .pointer (some ⟨r, 0, none⟩)]] 203)) w.heap.size k ⟨l.toArray⟩ p q r) := Lib.hid (PartAt.new w k p q r ⟨l.toArray⟩ 203)
        have HL1 := Lib.hid (HL.out.on HB1.out); have HV1 := Lib.hid (HV.out.on HB1.out)
        generalize w.alloc _ = w1 at *
        clear HL HV
        refine (cut_s l 47 w1 HL1.out hl).mono ?_
        rintro e w2 ⟨rfl, hb⟩
        have HB2 := Lib.hid (HB1.out.trans (hb.mono HB1.out.size)); have HP2 := Lib.hid (HP1.out.on hb); have HL2 := Lib.hid (HL1.out.on hb); have HV2 := Lib.hid (HV1.out.on hb)
        clear hb HB1 HP1 HL1 HV1
        go_wp2_with fail
        refine (step_l _ w2 HBl.out).mono ?_
        rintro e w3 ⟨rfl, hb⟩
        have HB3 := Lib.hid (HB2.out.trans (hb.mono HB2.out.size)); have HP3 := Lib.hid (HP2.out.on hb); have HL3 := Lib.hid (HL2.out.on hb); have HV3 := Lib.hid (HV2.out.on hb)
        clear hb HB2 HP2 HL2 HV2
        rw [HC.out]
        simp only [Option.isSome_some, Option.getD_some]
        rw [HX.out]
        unfold some2 strV
        simp only [Option.isSome_none, Option.getD_none]
        go_wp2_with fail
        go_ret2
        exact ⟨rfl, HB3.out⟩
      | some n =>
        have HX := Lib.hid hx
        clear hc hx h42
        simp only
        obtain ⟨a, hae⟩ : ∃ a : Int, ((loK k : Nat) : Int) = a := ⟨_, rfl⟩
        obtain ⟨z, hze⟩ : ∃ a : Int, ((hiK k : Nat) : Int) = a := ⟨_, rfl⟩
        rw [hae, hze]
        have HAe := Lib.hid hae; have HZe := Lib.hid hze
        clear hae hze
        go_enter Tryz.func160, Tryz.ntmps160
        go_wp2_with fail
        have HB1 : Hid (Below w.heap.size w (w.alloc (.cells #[.int .i64 (k : Int), .string ⟨l.toArray⟩, .func (.func 156) #[] #[.pointer (some ⟨p, 0, none⟩), .pointer (some ⟨q, 0, none⟩), .pointer (some ⟨r, 0, none⟩)]] 203))) := Lib.hid ((Below.refl w.heap.size w).alloc (Nat.le_refl _) _)
        have HP1 : Hid (PartAt (w.alloc (.cells #[.int .i64 (k : Int), .string ⟨l.toArray⟩, .func (.func 156) #[] #[.pointer (some ⟨p, 0, none⟩), .pointer (some ⟨q, 0, none⟩), .pointer (some ⟨r, 0, none⟩)]] 203)) w.heap.size k ⟨l.toArray⟩ p q r) := Lib.hid (PartAt.new w k p q r ⟨l.toArray⟩ 203)
        have HL1 := Lib.hid (HL.out.on HB1.out); have HV1 := Lib.hid (HV.out.on HB1.out)
        generalize w.alloc _ = w1 at *
        clear HL HV
        refine (cut_s l 47 w1 HL1.out hl).mono ?_
        rintro e w2 ⟨rfl, hb⟩
        have HB2 := Lib.hid (HB1.out.trans (hb.mono HB1.out.size)); have HP2 := Lib.hid (HP1.out.on hb); have HL2 := Lib.hid (HL1.out.on hb); have HV2 := Lib.hid (HV1.out.on hb)
        clear hb HB1 HP1 HL1 HV1
        go_wp2_with fail
        refine (step_l _ w2 HBl.out).mono ?_
        rintro e w3 ⟨rfl, hb⟩
        have HB3 := Lib.hid (HB2.out.trans (hb.mono HB2.out.size)); have HP3 := Lib.hid (HP2.out.on hb); have HL3 := Lib.hid (HL2.out.on hb); have HV3 := Lib.hid (HV2.out.on hb)
        clear hb HB2 HP2 HL2 HV2
        rw [HC.out]
        simp only [Option.isSome_some, Option.getD_some]
        rw [HX.out]
        unfold some2
        simp only [Option.isSome_some, Option.getD_some]
        obtain ⟨c0, c1, c2, cg⟩ := HP3.out
        unfold valF at c2
        have h0 := HL3.out.lo k hk
        have h1 := HL3.out.hi k hk
        have hg : 0 < w3.heap.size := by have := HL3.out.lt; show 0 < w3.heap.size; omega
        have hk5 : (k : Int) < 5 := by omega
        have HS := Lib.hid (fun W (h : Below w3.heap.size w3 W) => span_l k p q r ⟨l.toArray⟩ (loK k) (hiK k) n W (HL3.out.on h) hk)
        unfold valF at HS
        have hall : ∀ W, Below w3.heap.size w3 W → (W.cell? ⟨w.heap.size, 0, none⟩ = some (.int .i64 (k : Int)) ∧ W.cell? ⟨w.heap.size, 1, none⟩ = some (.string ⟨l.toArray⟩) ∧
            W.cell? ⟨w.heap.size, 2, none⟩ = some (.func (.func 156) #[] #[.pointer (some ⟨p, 0, none⟩), .pointer (some ⟨q, 0, none⟩), .pointer (some ⟨r, 0, none⟩)]) ∧
            W.cell? ⟨0, k * 2, none⟩ = some (.int .i64 (loK k : Nat)) ∧ W.cell? ⟨0, k * 2 + 1, none⟩ = some (.int .i64 (hiK k : Nat))) := fun W hb =>
          ⟨(hb.cell (p := ⟨w.heap.size, 0, none⟩) cg).trans c0, (hb.cell (p := ⟨w.heap.size, 1, none⟩) cg).trans c1, (hb.cell (p := ⟨w.heap.size, 2, none⟩) cg).trans c2, (hb.cell (p := ⟨0, k * 2, none⟩) hg).trans h0, (hb.cell (p := ⟨0, k * 2 + 1, none⟩) hg).trans h1⟩
        simp only [HAe.out, HZe.out] at HS hall h0 h1
        have HALL := Lib.hid hall
        clear hall
        unfold strV
        cases hz : spanP k a z n with
        | none =>
          rw [hz] at HS
          have HZ := Lib.hid hz
          clear hz
          unfold optM at HS
          go_wp2_with fail
          have hBE := Below.refl w3.heap.size w3
          clear c0 c1 c2 h0 h1
          go_region_held3 (fun W => (W.cell? ⟨w.heap.size, 0, none⟩ = some (.int .i64 (k : Int)) ∧ W.cell? ⟨w.heap.size, 1, none⟩ = some (.string ⟨l.toArray⟩) ∧ W.cell? ⟨w.heap.size, 2, none⟩ = some (.func (.func 156) #[] #[.pointer (some ⟨p, 0, none⟩), .pointer (some ⟨q, 0, none⟩), .pointer (some ⟨r, 0, none⟩)]) ∧ W.cell? ⟨0, k * 2, none⟩ = some (.int .i64 a) ∧ W.cell? ⟨0, k * 2 + 1, none⟩ = some (.int .i64 z))) (first | exact HALL.out _ hBE | exact HALL.out _ hBE.drew | exact HALL.out _ (hBE.alloc hBE.size _)) (first | (go_at_call 176; (with_reducible refine (HS.out _ hBE.drew).mono ?_); rintro e w4 ⟨rfl, hb⟩; replace hBE := hBE.drew.trans (hb.mono hBE.drew.size)))
          rename_i hHeld
          have HB4 := Lib.hid (HB3.out.trans (hBE.mono HB3.out.size))
          clear hHeld hBE hb
          go_wp2_with fail
          go_ret2
          exact ⟨by rw [HZ.out]; rfl, HB4.out⟩
        | some m =>
          rw [hz] at HS
          have HZ := Lib.hid hz
          clear hz
          unfold optM at HS
          go_wp2_with fail
          have hBE := Below.refl w3.heap.size w3
          clear c0 c1 c2 h0 h1
          go_region_held3 (fun W => (W.cell? ⟨w.heap.size, 0, none⟩ = some (.int .i64 (k : Int)) ∧ W.cell? ⟨w.heap.size, 1, none⟩ = some (.string ⟨l.toArray⟩) ∧ W.cell? ⟨w.heap.size, 2, none⟩ = some (.func (.func 156) #[] #[.pointer (some ⟨p, 0, none⟩), .pointer (some ⟨q, 0, none⟩), .pointer (some ⟨r, 0, none⟩)]) ∧ W.cell? ⟨0, k * 2, none⟩ = some (.int .i64 a) ∧ W.cell? ⟨0, k * 2 + 1, none⟩ = some (.int .i64 z))) (first | exact HALL.out _ hBE | exact HALL.out _ hBE.drew | exact HALL.out _ (hBE.alloc hBE.size _)) (first | (go_at_call 176; (with_reducible refine (HS.out _ hBE.drew).mono ?_); rintro e w4 ⟨rfl, hb⟩; replace hBE := hBE.drew.trans (hb.mono hBE.drew.size)))
          rename_i hHeld
          have HB4 := Lib.hid (HB3.out.trans (hBE.mono HB3.out.size))
          clear hHeld hBE hb
          go_wp2_with fail
          go_ret2
          exact ⟨by rw [HZ.out]; rfl, HB4.out⟩
    · rw [if_neg h42]
      have hs : ((cutB l 47).1 == [42]) = false := by simpa using h42
      clear hc h42
      go_enter Tryz.func160, Tryz.ntmps160
      go_wp2_with fail
      have HB1 : Hid (Below w.heap.size w (w.alloc (.cells #[.int .i64 (k : Int), .string ⟨l.toArray⟩, .func (.func 156) #[] #[.pointer (some ⟨p, 0, none⟩), .pointer (some ⟨q, 0, none⟩), .pointer (some ⟨r, 0, none⟩)]] 203))) := Lib.hid ((Below.refl w.heap.size w).alloc (Nat.le_refl _) _)
      have HP1 : Hid (PartAt (w.alloc (.cells #[.int .i64 (k : Int), .string ⟨l.toArray⟩, .func (.func 156) #[] #[.pointer (some ⟨p, 0, none⟩), .pointer (some ⟨q, 0, none⟩), .pointer (some ⟨r, 0, none⟩)]] 203)) w.heap.size k ⟨l.toArray⟩ p q r) := Lib.hid (PartAt.new w k p q r ⟨l.toArray⟩ 203)
      have HL1 := Lib.hid (HL.out.on HB1.out); have HV1 := Lib.hid (HV.out.on HB1.out)
      generalize w.alloc _ = w1 at *
      clear HL HV
      refine (cut_s l 47 w1 HL1.out hl).mono ?_
      rintro e w2 ⟨rfl, hb⟩
      have HB2 := Lib.hid (HB1.out.trans (hb.mono HB1.out.size)); have HP2 := Lib.hid (HP1.out.on hb); have HL2 := Lib.hid (HL1.out.on hb); have HV2 := Lib.hid (HV1.out.on hb)
      clear hb HB1 HP1 HL1 HV1
      go_wp2_with fail
      refine (step_l _ w2 HBl.out).mono ?_
      rintro e w3 ⟨rfl, hb⟩
      have HB3 := Lib.hid (HB2.out.trans (hb.mono HB2.out.size)); have HP3 := Lib.hid (HP2.out.on hb); have HL3 := Lib.hid (HL2.out.on hb); have HV3 := Lib.hid (HV2.out.on hb)
      clear hb HB2 HP2 HL2 HV2
      rw [HC.out]
      simp only [Option.isSome_some, Option.getD_some]
      unfold some2 strV
      go_wp2_with fail
      go_ret2
      exact ⟨rfl, HB3.out⟩
end Go.Proofs.YtbaobjbckabnhaaGreatDoor
/- item: what a part has: walked. -/
namespace Go.Proofs.YtbaobjbckabnhaaGreatDoor
open Go.RowKit

def itemsN (k : Nat) (l : List UInt8) (i : Nat) : Option (BitVec 64) := [wholeP k l, eachP k l, oneP k l, betP k l 1, rowByP k l].getD i none
theorem items_first {k : Nat} {l : List UInt8} {j : Nat} {m : BitVec 64} (hj : j < 5) (h : ∀ i, i < j → itemsN k l i = none) (hm : itemsN k l j = some m) : itemP k l = some m := by
  have hc : j = 0 ∨ j = 1 ∨ j = 2 ∨ j = 3 ∨ j = 4 := by omega
  unfold itemP
  rcases hc with rfl | rfl | rfl | rfl | rfl
  · rw [show wholeP k l = some m from hm]; rfl
  · rw [show wholeP k l = none from h 0 (by omega), show eachP k l = some m from hm]; rfl
  · rw [show wholeP k l = none from h 0 (by omega), show eachP k l = none from h 1 (by omega), show oneP k l = some m from hm]; rfl
  · rw [show wholeP k l = none from h 0 (by omega), show eachP k l = none from h 1 (by omega), show oneP k l = none from h 2 (by omega), show betP k l 1 = some m from hm]; rfl
  · rw [show wholeP k l = none from h 0 (by omega), show eachP k l = none from h 1 (by omega), show oneP k l = none from h 2 (by omega), show betP k l 1 = none from h 3 (by omega), show rowByP k l = some m from hm]; rfl
theorem items_none {k : Nat} {l : List UInt8} (h : ∀ i, i < 5 → itemsN k l i = none) : itemP k l = none := by
  unfold itemP
  rw [show wholeP k l = none from h 0 (by omega), show eachP k l = none from h 1 (by omega), show oneP k l = none from h 2 (by omega), show betP k l 1 = none from h 3 (by omega), show rowByP k l = none from h 4 (by omega)]; rfl
theorem items_next {k : Nat} {l : List UInt8} {j : Nat} (h : ∀ i, i < j → itemsN k l i = none) (hm : itemsN k l j = none) : ∀ i, i < j + 1 → itemsN k l i = none := by
  intro i hi
  rcases Nat.lt_or_ge i j with h1 | h1
  · exact h i h1
  · obtain rfl : i = j := by omega
    exact hm
theorem index_way (w : World) (fs : Array Value) (j : Nat) (v : Value) (hj : j < 5) (hv : fs[j]? = some v) : (Instr.index 218 (.agg fs) (.int .i64 (j : Int))).run Tryz.prog w = .ok v w := by
  simp [Instr.index, asIntOf, Sem.run_bind, run_underlying Tryz.underlying218, Tryz.sizeOf204, Tryz.isAgg204, Go.part, hv, Result.andThen, hj]
set_option maxRecDepth 100000 in
set_option maxHeartbeats 4000000 in
theorem item_any (k p q r : Nat) (l : List UInt8) (w : World) (hL : Laid w) (hk : k < 5) (hV : ValAt w k p q r) (hl : l.length ≤ 1000) :
    Calls Tryz.prog 141 #[.agg #[.int .i64 (k : Int), strV l, valF p q r]] w fun e w' => e = .returned (optM (itemL k l)) ∧ Below w.heap.size w w' := by
  rw [← itemP_is hk]
  unfold strV
  have HB0 : Hid (Below w.heap.size w (w.alloc (.cells #[.int .i64 (k : Int), .string ⟨l.toArray⟩, valF p q r] 203))) := Lib.hid ((Below.refl w.heap.size w).alloc (Nat.le_refl _) _)
  have HL := Lib.hid (hL.on HB0.out); have HV := Lib.hid (hV.on HB0.out); have HI : Hid (itemP k l = itemP k l) := Lib.hid rfl
  unfold valF at *
  clear hL hV
  go_enter Tryz.func141, Tryz.ntmps141
  go_wp2_with fail
  generalize w.alloc _ = w1 at *
  go_loopw [19] (fun i wr => ∃ j : Nat, j ≤ 5 ∧ i = .int .i64 (j : Int) ∧ Below w.heap.size w wr ∧ Below w1.heap.size w1 wr ∧ ∀ i, i < j → itemsN k l i = none) (fun i _ => 5 - (intOf i).toNat)
  case atStart => exact ⟨0, Nat.zero_le _, rfl, HB0.out, Below.refl _ _, fun i h => by omega⟩
  case round =>
    obtain ⟨j, hj, rfl, hB, hB1, hno⟩ := hrel
    have HB := Lib.hid hB; have HB1 := Lib.hid hB1; have HNO := Lib.hid hno
    clear hB hB1 hno HI
    by_cases hlt : j < 5
    · have hc : j = 0 ∨ j = 1 ∨ j = 2 ∨ j = 3 ∨ j = 4 := by omega
      have HLr := Lib.hid (HL.out.on HB1.out); have HVr := Lib.hid (HV.out.on HB1.out)
      clear hlt hj
      rcases hc with rfl | rfl | rfl | rfl | rfl
      · have hix := fun W fs v (hv : fs[0]? = some v) => index_way W fs 0 v (by decide) hv
        have HS := Lib.hid (whole_any k p q r l wr HLr.out hk HVr.out hl)
        unfold strV valF at HS
        rw [show ((0 : Nat) : Int) = 0 by rfl] at hix ⊢
        have hix2 := fun W f0 f1 f2 f3 f4 => hix W #[f0, f1, f2, f3, f4] f0 rfl
        clear hix
        cases hz : wholeP k l with
        | none =>
          rw [hz] at HS
          unfold optM at HS
          have HN := Lib.hid (items_next HNO.out (show itemsN k l 0 = none from hz))
          clear hz
          go_wp2_with fail
          refine HS.out.mono ?_
          rintro e w5 ⟨rfl, hb⟩
          have HB5 := Lib.hid (HB.out.trans (hb.mono HB.out.size)); have HB6 := Lib.hid (HB1.out.trans (hb.mono HB1.out.size))
          clear hb
          go_wp2_with fail
          go_roundw
          case rel => exact ⟨0 + 1, by omega, by rfl, HB5.out, HB6.out, HN.out⟩
          case measure => simp [intOf]
        | some m =>
          rw [hz] at HS
          unfold optM at HS
          have HN := Lib.hid (items_first (by decide) HNO.out (show itemsN k l 0 = some m from hz))
          clear hz
          go_wp2_with fail
          refine HS.out.mono ?_
          rintro e w5 ⟨rfl, hb⟩
          have HB5 := Lib.hid (HB.out.trans (hb.mono HB.out.size))
          clear hb
          go_wp2_with fail
          go_ret2
          exact ⟨by rw [HN.out]; rfl, HB5.out⟩
      · have hix := fun W fs v (hv : fs[1]? = some v) => index_way W fs 1 v (by decide) hv
        have HS := Lib.hid (each_any k p q r l wr HLr.out hk HVr.out hl)
        unfold strV valF at HS
        rw [show ((1 : Nat) : Int) = 1 by rfl] at hix ⊢
        have hix2 := fun W f0 f1 f2 f3 f4 => hix W #[f0, f1, f2, f3, f4] f1 rfl
        clear hix
        cases hz : eachP k l with
        | none =>
          rw [hz] at HS
          unfold optM at HS
          have HN := Lib.hid (items_next HNO.out (show itemsN k l 1 = none from hz))
          clear hz
          go_wp2_with fail
          refine HS.out.mono ?_
          rintro e w5 ⟨rfl, hb⟩
          have HB5 := Lib.hid (HB.out.trans (hb.mono HB.out.size)); have HB6 := Lib.hid (HB1.out.trans (hb.mono HB1.out.size))
          clear hb
          go_wp2_with fail
          go_roundw
          case rel => exact ⟨1 + 1, by omega, by rfl, HB5.out, HB6.out, HN.out⟩
          case measure => simp [intOf]
        | some m =>
          rw [hz] at HS
          unfold optM at HS
          have HN := Lib.hid (items_first (by decide) HNO.out (show itemsN k l 1 = some m from hz))
          clear hz
          go_wp2_with fail
          refine HS.out.mono ?_
          rintro e w5 ⟨rfl, hb⟩
          have HB5 := Lib.hid (HB.out.trans (hb.mono HB.out.size))
          clear hb
          go_wp2_with fail
          go_ret2
          exact ⟨by rw [HN.out]; rfl, HB5.out⟩
      · have hix := fun W fs v (hv : fs[2]? = some v) => index_way W fs 2 v (by decide) hv
        have HS := Lib.hid (one_any k p q r l wr HLr.out hk HVr.out hl)
        unfold strV valF at HS
        rw [show ((2 : Nat) : Int) = 2 by rfl] at hix ⊢
        have hix2 := fun W f0 f1 f2 f3 f4 => hix W #[f0, f1, f2, f3, f4] f2 rfl
        clear hix
        cases hz : oneP k l with
        | none =>
          rw [hz] at HS
          unfold optM at HS
          have HN := Lib.hid (items_next HNO.out (show itemsN k l 2 = none from hz))
          clear hz
          go_wp2_with fail
          refine HS.out.mono ?_
          rintro e w5 ⟨rfl, hb⟩
          have HB5 := Lib.hid (HB.out.trans (hb.mono HB.out.size)); have HB6 := Lib.hid (HB1.out.trans (hb.mono HB1.out.size))
          clear hb
          go_wp2_with fail
          go_roundw
          case rel => exact ⟨2 + 1, by omega, by rfl, HB5.out, HB6.out, HN.out⟩
          case measure => simp [intOf]
        | some m =>
          rw [hz] at HS
          unfold optM at HS
          have HN := Lib.hid (items_first (by decide) HNO.out (show itemsN k l 2 = some m from hz))
          clear hz
          go_wp2_with fail
          refine HS.out.mono ?_
          rintro e w5 ⟨rfl, hb⟩
          have HB5 := Lib.hid (HB.out.trans (hb.mono HB.out.size))
          clear hb
          go_wp2_with fail
          go_ret2
          exact ⟨by rw [HN.out]; rfl, HB5.out⟩
      · have hix := fun W fs v (hv : fs[3]? = some v) => index_way W fs 3 v (by decide) hv
        have HS := Lib.hid (row_any k p q r l wr HLr.out hk HVr.out hl)
        unfold strV valF at HS
        rw [show ((3 : Nat) : Int) = 3 by rfl] at hix ⊢
        have hix2 := fun W f0 f1 f2 f3 f4 => hix W #[f0, f1, f2, f3, f4] f3 rfl
        clear hix
        cases hz : betP k l 1 with
        | none =>
          rw [hz] at HS
          unfold optM at HS
          have HN := Lib.hid (items_next HNO.out (show itemsN k l 3 = none from hz))
          clear hz
          go_wp2_with fail
          refine HS.out.mono ?_
          rintro e w5 ⟨rfl, hb⟩
          have HB5 := Lib.hid (HB.out.trans (hb.mono HB.out.size)); have HB6 := Lib.hid (HB1.out.trans (hb.mono HB1.out.size))
          clear hb
          go_wp2_with fail
          go_roundw
          case rel => exact ⟨3 + 1, by omega, by rfl, HB5.out, HB6.out, HN.out⟩
          case measure => simp [intOf]
        | some m =>
          rw [hz] at HS
          unfold optM at HS
          have HN := Lib.hid (items_first (by decide) HNO.out (show itemsN k l 3 = some m from hz))
          clear hz
          go_wp2_with fail
          refine HS.out.mono ?_
          rintro e w5 ⟨rfl, hb⟩
          have HB5 := Lib.hid (HB.out.trans (hb.mono HB.out.size))
          clear hb
          go_wp2_with fail
          go_ret2
          exact ⟨by rw [HN.out]; rfl, HB5.out⟩
      · have hix := fun W fs v (hv : fs[4]? = some v) => index_way W fs 4 v (by decide) hv
        have HS := Lib.hid (rowBy_any k p q r l wr HLr.out hk HVr.out hl)
        unfold strV valF at HS
        rw [show ((4 : Nat) : Int) = 4 by rfl] at hix ⊢
        have hix2 := fun W f0 f1 f2 f3 f4 => hix W #[f0, f1, f2, f3, f4] f4 rfl
        clear hix
        cases hz : rowByP k l with
        | none =>
          rw [hz] at HS
          unfold optM at HS
          have HN := Lib.hid (items_next HNO.out (show itemsN k l 4 = none from hz))
          clear hz
          go_wp2_with fail
          refine HS.out.mono ?_
          rintro e w5 ⟨rfl, hb⟩
          have HB5 := Lib.hid (HB.out.trans (hb.mono HB.out.size)); have HB6 := Lib.hid (HB1.out.trans (hb.mono HB1.out.size))
          clear hb
          go_wp2_with fail
          go_roundw
          case rel => exact ⟨4 + 1, by omega, by rfl, HB5.out, HB6.out, HN.out⟩
          case measure => simp [intOf]
        | some m =>
          rw [hz] at HS
          unfold optM at HS
          have HN := Lib.hid (items_first (by decide) HNO.out (show itemsN k l 4 = some m from hz))
          clear hz
          go_wp2_with fail
          refine HS.out.mono ?_
          rintro e w5 ⟨rfl, hb⟩
          have HB5 := Lib.hid (HB.out.trans (hb.mono HB.out.size))
          clear hb
          go_wp2_with fail
          go_ret2
          exact ⟨by rw [HN.out]; rfl, HB5.out⟩
    · obtain rfl : j = 5 := by omega
      have HF := Lib.hid (items_none HNO.out)
      clear hj hlt
      rw [show ((5 : Nat) : Int) = 5 by rfl]
      go_wp2_with fail
      go_ret2
      exact ⟨by rw [HF.out]; rfl, HB.out⟩
end Go.Proofs.YtbaobjbckabnhaaGreatDoor
/- Read: the field of a text: walked. -/
namespace Go.Proofs.YtbaobjbckabnhaaGreatDoor
open Go.RowKit

def readV (r : BitVec 64 × Nat × Int) : Value := .tuple #[.int .u64 (U r.1), .int .i64 (r.2.1 : Int), .int .i64 r.2.2]
theorem read_no (z : Int) (s : ByteArray) (w : World) (h : NoKind z) :
    Calls Tryz.prog 119 #[.int .i64 z, .string s] w fun e w' => e = .returned (readV (0#64, 0, 2)) ∧ Below w.heap.size w w' := by
  have H := Lib.hid h
  clear h
  unfold readV
  rw [U_zero]
  go_enter Tryz.func119, Tryz.ntmps119
  go_wp2_with fail
  refine (there_no z _ H.out).mono ?_
  rintro e w' ⟨rfl, rfl⟩
  go_wp2_with fail
  go_ret3
  exact ⟨rfl, Below.refl _ _⟩
theorem read_long (k : Nat) (s : ByteArray) (w : World) (hk : k < 5) (hs : s.size ≤ maxLen) (hl : 256 < s.size) :
    Calls Tryz.prog 119 #[.int .i64 (k : Int), .string s] w fun e w' => e = .returned (readV (readL k s.data.toList)) ∧ Below w.heap.size w w' := by
  unfold maxLen at hs
  have HR : Hid (readL k s.data.toList = (0#64, 0, 3)) := Lib.hid (by unfold readL; rw [if_pos (by rw [len_list]; exact hl)])
  rw [HR.out]
  unfold readV
  rw [U_zero]
  go_enter Tryz.func119, Tryz.ntmps119
  go_wp2_with fail
  refine (there_yes k _ hk).mono ?_
  rintro e w' ⟨rfl, rfl⟩
  go_wp2_with fail
  go_ret3
  exact ⟨rfl, Below.refl _ _⟩
theorem readP_done {k : Nat} {l : List (List UInt8)} {a : Nat} {m : BitVec 64} {j : Nat} {x : List UInt8} (hx : l[j]? = some x) : readP k (l.drop j) a m = match itemL k x with
    | none => (0#64, a, 160)
    | some y => readP k (l.drop (j + 1)) (a + x.length + 1) (m ||| y) := by
  obtain ⟨hlt, hv⟩ := List.getElem?_eq_some_iff.1 hx
  rw [List.drop_eq_getElem_cons hlt, hv, readP]
  cases itemL k x <;> rfl
theorem le_sum : ∀ {l : List Nat} {n : Nat}, n ∈ l → n ≤ l.sum
  | a :: l, n, h => by
    rw [List.sum_cons]
    rcases List.mem_cons.1 h with rfl | h
    · omega
    · have := le_sum h; omega
theorem split_in {l : List UInt8} {j : Nat} {x : List UInt8} (h : (splitC l)[j]? = some x) : x.length + 1 ≤ l.length + 1 := by
  have hs := split_sum l
  have hm : x.length + 1 ∈ (splitC l).map fun s => s.length + 1 := List.mem_map.2 ⟨x, List.mem_of_getElem? h, rfl⟩
  rw [← hs]
  exact le_sum hm
set_option maxRecDepth 100000 in
set_option maxHeartbeats 2000000 in
theorem read_short (k : Nat) (s : ByteArray) (w : World) (hL : Laid w) (hk : k < 5) (hl : s.size ≤ 256) :
    Calls Tryz.prog 119 #[.int .i64 (k : Int), .string s] w fun e w' => e = .returned (readV (readL k s.data.toList)) ∧ Below w.heap.size w w' := by
  have HL := Lib.hid hL
  have hR : readL k s.data.toList = readP k (splitC s.data.toList) 0 0#64 := by unfold readL; rw [if_neg (by rw [len_list]; omega)]
  have hi : ∀ (j : Nat) (x : List UInt8), (splitC s.data.toList)[j]? = some x → x.length ≤ 256 := fun j x h => by have := split_in h; rw [len_list] at this; omega
  have hn : (splitC s.data.toList).length ≤ 257 := by
    have h1 := split_sum s.data.toList
    rw [len_list] at h1
    have h2 : ∀ l : List (List UInt8), l.length ≤ (l.map fun s => s.length + 1).sum := fun l => by
      induction l with
      | nil => simp
      | cons a l ih => simp; omega
    have := h2 (splitC s.data.toList)
    omega
  have HSum := Lib.hid (split_sum s.data.toList)
  rw [hR]
  have HI := Lib.hid hi
  have hsp := fun W h => split_any s W h (by omega)
  have HSP := Lib.hid hsp
  rw [len_list] at HSum
  clear hR hi hL hsp
  generalize splitC s.data.toList = ps at *
  go_enter Tryz.func119, Tryz.ntmps119
  go_wp2_with fail
  refine (there_yes k _ hk).mono ?_
  rintro e w' ⟨rfl, rfl⟩
  go_wp2_with fail
  refine (values_any k w HL.out hk).mono ?_
  rintro e w2 ⟨⟨p, q, r, rfl, hV⟩, hb⟩
  have HV2 := Lib.hid hV; have HB2 := Lib.hid hb; have HL2 := Lib.hid (HL.out.on hb)
  clear hV hb HL
  unfold valF
  go_wp2_with fail
  refine (HSP.out w2 HL2.out).mono ?_
  rintro e w3 ⟨⟨A, n, c, rfl, hA⟩, hb⟩
  have HB3 := Lib.hid (HB2.out.trans (hb.mono HB2.out.size)); have HL3 := Lib.hid (HL2.out.on hb); have HV3 := Lib.hid (HV2.out.on hb); have HA := Lib.hid hA
  have hn2 : n ≤ 257 := by rw [← hA.1]; exact hn
  clear hb hA HB2 HL2 HV2 HSP
  go_wp2_with fail
  go_loopw [8, 9, 27] (fun m a i wr => ∃ (j at_ : Nat) (x : BitVec 64), j ≤ n ∧ i = .int .i64 (j : Int) ∧ m = .int .u64 (U x) ∧ a = .int .i64 (at_ : Int) ∧ Below w3.heap.size w3 wr ∧ readP k ps 0 0#64 = readP k (ps.drop j) at_ x ∧ at_ ≤ 300 * j) (fun _ _ i _ => n - (intOf i).toNat)
  case atStart => exact ⟨0, 0, 0#64, Nat.zero_le _, rfl, by rw [U_zero], rfl, Below.refl _ _, rfl, by omega⟩
  case round =>
    obtain ⟨j, at_, x, hj, rfl, rfl, rfl, hB, hP, hat⟩ := hrel
    have HB := Lib.hid hB; have HP := Lib.hid hP
    have HBw := Lib.hid (HB3.out.trans (hB.mono HB3.out.size))
    have HLr := Lib.hid (HL3.out.on hB); have HVr := Lib.hid (HV3.out.on hB)
    clear hB hP
    by_cases hlt : j < n
    · obtain ⟨y, hy⟩ : ∃ y, ps[j]? = some y := ⟨_, List.getElem?_eq_getElem (by rw [HA.out.1]; exact hlt)⟩
      obtain ⟨b, off, rfl, hbl, hc⟩ := (HA.out.below HB.out).2 j y hy
      have hyl := HI.out j y hy
      have HY := Lib.hid (readP_done (k := k) (a := at_) (m := x) hy)
      have HIt := Lib.hid (item_any k p q r y wr HLr.out hk HVr.out (by omega))
      have hsz := size_l y
      clear hy
      unfold strV at hc HIt
      unfold valF at HIt
      cases hz : itemL k y with
      | none =>
        rw [hz] at HIt HY
        clear hz
        unfold optM at HIt
        go_wp2_with fail
        refine HIt.out.mono ?_
        rintro e w5 ⟨rfl, hb⟩
        have HB5 := Lib.hid (HBw.out.trans (hb.mono HBw.out.size))
        clear hb
        go_wp2_with fail
        go_ret3
        exact ⟨by rw [HP.out, HY.out]; unfold readV; rw [U_zero]; rfl, HB5.out⟩
      | some z =>
        rw [hz] at HIt HY
        clear hz
        unfold optM at HIt
        go_wp2_with fail
        refine HIt.out.mono ?_
        rintro e w5 ⟨rfl, hb⟩
        have HB5 := Lib.hid (HB.out.trans (hb.mono HB.out.size))
        have HO := Lib.hid (or_pair x z w5)
        clear hb hc
        go_wp2_with fail
        refine HO.out.mono ?_
        rintro e w6 ⟨rfl, rfl⟩
        go_wp2_with fail
        go_roundw
        case rel => exact ⟨j + 1, at_ + y.length + 1, _, hlt, by go_num, rfl, by go_num, HB5.out.alloc HB5.out.size _, by rw [HP.out, HY.out], by omega⟩
        case measure => simp [intOf]; omega
    · obtain rfl : j = n := by omega
      have HF : Hid (readP k ps 0 0#64 = (x, 0, 0)) := Lib.hid (by rw [HP.out, List.drop_of_length_le (by rw [HA.out.1]; exact Nat.le_refl _)]; rfl)
      go_wp2_with fail
      go_ret3
      exact ⟨by rw [HF.out]; rfl, HBw.out⟩
end Go.Proofs.YtbaobjbckabnhaaGreatDoor
/- stepOf, runs, Text: walked. -/
namespace Go.Proofs.YtbaobjbckabnhaaGreatDoor
open Go.RowKit

theorem steps_some {k n : Nat} {m : BitVec 64} (h2 : 2 ≤ n) (h63 : n ≤ 63) (hno : ∀ i : Nat, 2 ≤ i → i < n → spanM (loK k) (hiK k) i ≠ some m) (h : spanM (loK k) (hiK k) n = some m) : stepsN k m = some n := by
  unfold stepsN
  rw [List.find?_eq_some_iff_getElem]
  refine ⟨by simpa using h, n - 2, by simp; omega, by simp; omega, fun j hj => ?_⟩
  have := hno (2 + j) (by omega) (by omega)
  simp only [List.getElem_range', Nat.one_mul, Bool.not_eq_true', beq_eq_false_iff_ne, ne_eq]
  exact this
theorem steps_none {k : Nat} {m : BitVec 64} (hno : ∀ i : Nat, 2 ≤ i → i < 64 → spanM (loK k) (hiK k) i ≠ some m) : stepsN k m = none := by
  unfold stepsN
  rw [List.find?_eq_none]
  intro x hx
  rw [List.mem_range'] at hx
  obtain ⟨i, hi, rfl⟩ := hx
  have := hno (2 + 1 * i) (by omega) (by omega)
  simpa using this
def stepOfN (k : Nat) (m : BitVec 64) : Option Nat := if 3 ≤ pop m then stepsN k m else none
set_option maxRecDepth 100000 in
set_option maxHeartbeats 1000000 in
theorem stepOf_any (k : Nat) (m : BitVec 64) (w : World) (hL : Laid w) (hk : k < 5) :
    Calls Tryz.prog 96 #[.int .i64 (k : Int), .int .u64 (U m)] w fun e w' => e = .returned (some2 (stepOfN k m)) ∧ Below w.heap.size w w' := by
  have HL := Lib.hid hL
  have HC := Lib.hid (fun W => count_any m W)
  clear hL
  unfold stepOfN
  by_cases h3 : 3 ≤ pop m
  · rw [if_pos h3]
    have hp : decide ((pop m : Int) < 3) = false := by simp; omega
    clear h3
    obtain ⟨a, hae⟩ : ∃ a : Int, ((loK k : Nat) : Int) = a := ⟨_, rfl⟩
    obtain ⟨z, hze⟩ : ∃ a : Int, ((hiK k : Nat) : Int) = a := ⟨_, rfl⟩
    have HAe := Lib.hid hae; have HZe := Lib.hid hze
    clear hae hze
    go_enter Tryz.func96, Tryz.ntmps96
    go_wp2_with fail
    refine (HC.out _).mono ?_
    rintro e w' ⟨rfl, rfl⟩
    go_wp2_with fail
    go_loopw [6] (fun i wr => ∃ n : Nat, 2 ≤ n ∧ n ≤ 64 ∧ i = .int .i64 (n : Int) ∧ Below w.heap.size w wr ∧ ∀ i : Nat, 2 ≤ i → i < n → spanM (loK k) (hiK k) i ≠ some m) (fun i _ => 64 - (intOf i).toNat)
    case atStart => exact ⟨2, by omega, by omega, rfl, Below.refl _ _, fun i h1 h2 => by omega⟩
    case round =>
      obtain ⟨n, hn2, hn64, rfl, hB, hno⟩ := hrel
      have HB := Lib.hid hB; have HNO := Lib.hid hno
      have h0 := (HL.out.on hB).lo k hk
      have h1 := (HL.out.on hB).hi k hk
      have hg : 0 < wr.heap.size := by have := (HL.out.on hB).lt; show 0 < wr.heap.size; omega
      have hk5 : (k : Int) < 5 := by omega
      clear hB hno
      by_cases hlt : n ≤ 63
      · have hh := hi_lt k
        obtain ⟨x, hx⟩ := span_some (a := loK k) (b := hiK k) (s := (n : Int)) hh.2.1 (by omega) (by omega)
        have HS : Hid (∀ W, Calls Tryz.prog 116 #[.int .i64 a, .int .i64 z, .int .i64 (n : Int)] W fun e w' => e = .returned (.tuple #[.int .u64 (U x), .int .i64 0]) ∧ w' = W) := Lib.hid (fun W => by
          have h := span_any (loK k : Nat) (hiK k : Nat) n W
          rw [hx, HAe.out, HZe.out] at h
          exact h.mono fun _ _ ⟨a, b⟩ => ⟨a, b.symm⟩)
        rw [HAe.out] at h0
        rw [HZe.out] at h1
        have hle : (n : Int) ≤ 63 := by omega
        by_cases he : x = m
        · subst he
          have HF := Lib.hid (steps_some hn2 hlt HNO.out hx)
          clear hx hh
          go_wp2_with fail
          go_quiet ((go_at_call 116; with_reducible exact Calls.quiet_of_same (HS.out _)))
          go_wp2_with fail
          go_ret2
          exact ⟨by rw [HF.out]; rfl, bdrewN HB.out _⟩
        · have hne : (U x == U m) = false := by rw [beq_eq_false_iff_ne, ne_eq, U_inj]; exact he
          have HN : Hid (∀ i : Nat, 2 ≤ i → i < n + 1 → spanM (loK k) (hiK k) i ≠ some m) := Lib.hid (by
            intro i h2 hi
            rcases Nat.lt_or_ge i n with h | h
            · exact HNO.out i h2 h
            · obtain rfl : i = n := by omega
              rw [hx]
              intro q
              exact he (Option.some.inj q))
          clear hx hh he
          go_wp2_with fail
          go_quiet ((go_at_call 116; with_reducible exact Calls.quiet_of_same (HS.out _)))
          go_wp2_with fail
          go_roundw
          case rel => exact ⟨n + 1, by omega, by omega, by go_num, bdrewN HB.out _, HN.out⟩
          case measure => simp [intOf]; omega
      · obtain rfl : n = 64 := by omega
        have HF := Lib.hid (steps_none HNO.out)
        clear hlt
        rw [show ((64 : Nat) : Int) = 64 by rfl]
        go_wp2_with fail
        go_ret2
        exact ⟨by rw [HF.out]; rfl, HB.out⟩
  · rw [if_neg h3]
    have hp : decide ((pop m : Int) < 3) = true := by simp; omega
    clear h3
    go_enter Tryz.func96, Tryz.ntmps96
    go_wp2_with fail
    refine (HC.out _).mono ?_
    rintro e w' ⟨rfl, rfl⟩
    go_wp2_with fail
    go_ret2
    exact ⟨rfl, Below.refl _ _⟩
theorem info_str : (Tryz.prog.info? 9).map (fun i => (i.zero, i.size, i.bytes)) = some (some (.string ⟨#[]⟩), 1, 16) := by kernel_rfl
end Go.Proofs.YtbaobjbckabnhaaGreatDoor
/- runs: the runs of a mask as a text: walked. -/
namespace Go.Proofs.YtbaobjbckabnhaaGreatDoor
open Go.RowKit

theorem str_add (a b : List UInt8) : (⟨a.toArray⟩ : ByteArray) ++ ⟨b.toArray⟩ = ⟨(a ++ b).toArray⟩ := by
  apply ByteArray.ext
  simp
def runsS (m : BitVec 64) : List (List UInt8) := (runsOf m).map runL
theorem join_str (a b : List UInt8) (n m : Nat) (ha : a.length = n) (hb : b.length = m) : ∃ p : List UInt8, (⟨a.toArray⟩ : ByteArray) ++ ⟨b.toArray⟩ = ⟨p.toArray⟩ ∧ p.length = n + m ∧ p = a ++ b :=
  ⟨a ++ b, str_add a b, by rw [List.length_append, ha, hb], rfl⟩
theorem runs_next {m : BitVec 64} {j : Nat} {r : Nat × Nat} (h : (runsOf m)[j]? = some r) : ((runsS m).take (j + 1)).map strV = ((runsS m).take j).map strV ++ [.string ⟨(runL r).toArray⟩] := by
  have h1 : (runsS m)[j]? = some (runL r) := by unfold runsS; rw [List.getElem?_map, h]; rfl
  rw [List.take_add_one, h1, List.map_append]; rfl
theorem sum_six : ∀ (l : List (List UInt8)), (∀ x ∈ l, x.length + 1 ≤ 6) → (l.map fun s => s.length + 1).sum ≤ 6 * l.length
  | [], _ => by simp
  | a :: l, h => by
    have h1 := h a (by simp)
    have h2 := sum_six l (fun x hx => h x (by simp [hx]))
    simp only [List.map_cons, List.sum_cons, List.length_cons]
    omega
theorem join_own (ls : List (List UInt8)) (base : Nat) (v : Value) (w : World) (h : w.ownsRow base 9 1 v ls.length (ls.map strV)) (hn : ls.length ≤ 1000) (h6 : ∀ x ∈ ls, x.length + 1 ≤ 6) :
    Calls Tryz.prog 63 #[v, .string ⟨#[44]⟩] w fun e w' => e = .returned (strV (joinC ls)) ∧ Below w.heap.size w w' := by
  have h0 := h
  rcases h0.2 with ⟨rfl, hz⟩ | ⟨g, cap, cur, rfl, _, hh, hcap, _⟩
  · have hl : ls = [] := List.eq_nil_of_length_eq_zero hz
    subst hl
    exact (strings_Join_none none 0 _ w).mono fun _ _ ⟨a, b⟩ => ⟨a, b ▸ Below.refl _ _⟩
  · have hx : (ls.map fun l => (⟨l.toArray⟩ : ByteArray)).map (·.data.toList) = ls := by
      rw [List.map_map]
      conv => rhs; rw [← List.map_id ls]
      apply List.map_congr_left
      intro x _
      simp
    have hj := strings_Join g 0 cap (ls.map fun l => (⟨l.toArray⟩ : ByteArray)) ⟨#[44]⟩ w (by
      intro j x hx
      rw [List.getElem?_map] at hx
      cases hl : ls[j]? with
      | none => rw [hl] at hx; cases hx
      | some y =>
        rw [hl] at hx
        cases hx
        have hlt := (List.getElem?_eq_some_iff.1 hl).1
        rw [Nat.zero_add, h.cellAt j (by omega), List.getElem?_map, hl]; rfl) (Array.getElem?_eq_some_iff.1 hh).1 (by simp; omega) (by simp; omega) (by
      rw [hx, show (⟨#[44]⟩ : ByteArray).data.toList = [44] by rfl, join_c]
      have h1 := joinC_len ls
      have h2 := sum_six ls h6
      omega)
    rw [hx, show (⟨#[44]⟩ : ByteArray).data.toList = [44] by rfl, join_c, List.length_map] at hj
    exact hj
set_option maxRecDepth 100000 in
set_option maxHeartbeats 1000000 in
theorem runs_text (m : BitVec 64) (w : World) (hL : Laid w) (hr : ∀ r ∈ runsOf m, r.1 ≤ r.2 ∧ r.2 < 64) (hlen : (runsOf m).length ≤ 64) :
    Calls Tryz.prog 98 #[.int .u64 (U m)] w fun e w' => e = .returned (strV (runsL m)) ∧ Below w.heap.size w w' := by
  obtain ⟨i0, hi, hz0, hz1, hz2⟩ := info_parts info_str
  have HR := Lib.hid (runs_any m w hL.tab (by have := hL.lt; show 6 < w.heap.size; omega))
  have HRR := Lib.hid hr
  clear hL hr
  go_enter Tryz.func98, Tryz.ntmps98
  go_wp2_with fail
  refine HR.out.mono ?_
  rintro e wA ⟨v, rfl, hown, hb⟩
  obtain ⟨A, c, rfl⟩ := own_slice0 hown
  have HO := Lib.hid hown; have HB := Lib.hid hb
  clear hown hb HR
  go_wp2_with fail
  go_loopw [3, 10] (fun v i wr => ∃ j : Nat, j ≤ (runsOf m).length ∧ i = .int .i64 (j : Int) ∧ Below wA.heap.size wA wr ∧ wr.ownsRow wA.heap.size 9 1 v j (((runsS m).take j).map strV)) (fun _ i _ => (runsOf m).length - (intOf i).toNat)
  case atStart => exact ⟨0, Nat.zero_le _, rfl, Below.refl _ _, ⟨rfl, .inl ⟨rfl, rfl⟩⟩⟩
  case round =>
    obtain ⟨j, hj, rfl, hB, hrow⟩ := hrel
    have HBr := Lib.hid hB; have HW := Lib.hid hrow
    clear hB hrow
    by_cases hlt : j < (runsOf m).length
    · obtain ⟨⟨a, b⟩, hab⟩ : ∃ r, (runsOf m)[j]? = some r := ⟨_, List.getElem?_eq_getElem hlt⟩
      obtain ⟨g, rfl, hg, c0, c1⟩ := run_cells2 HO.out j (a, b) hab hlt
      have d0 := (HBr.out.cell (p := ⟨g, j * 2, none⟩) hg).trans c0
      have d1 := (HBr.out.cell (p := ⟨g, j * 2 + 1, none⟩) hg).trans c1
      have hle := HRR.out (a, b) (List.mem_of_getElem? hab)
      have HAB := Lib.hid hab
      dsimp only at d0 d1 hle
      clear c0 c1 hab
      have Ha := Lib.hid (fun W => itoa_any a W (by omega)); have Hb := Lib.hid (fun W => itoa_any b W (by omega))
      have hsz := HBr.out.size
      go_wp2_with fail
      have HB1 := Lib.hid (HBr.out.alloc HBr.out.size (.cells #[.int .i64 (a : Int), .int .i64 (b : Int)] 177))
      have HW1 := Lib.hid (HW.out.alloc (.cells #[.int .i64 (a : Int), .int .i64 (b : Int)] 177))
      have x0 : (wr.alloc (.cells #[.int .i64 (a : Int), .int .i64 (b : Int)] 177)).cell? ⟨wr.heap.size, 0, none⟩ = some (.int .i64 (a : Int)) := by go_simp
      have x1 : (wr.alloc (.cells #[.int .i64 (a : Int), .int .i64 (b : Int)] 177)).cell? ⟨wr.heap.size, 1, none⟩ = some (.int .i64 (b : Int)) := by go_simp
      generalize wr.alloc _ = wq at *
      refine (Ha.out _).mono ?_
      rintro e w' ⟨rfl, rfl⟩
      have la := dgs_len a; have lb := dgs_len b
      have hj64 : j ≤ 64 := by omega
      have HLA := Lib.hid la; have HLB := Lib.hid lb
      clear la lb
      unfold strV
      by_cases hlt2 : a < b
      · have hd : decide (a < b) = true := by simpa using hlt2
        obtain ⟨da, hda⟩ : ∃ d, dgsN a = d := ⟨_, rfl⟩
        obtain ⟨db, hdb⟩ : ∃ d, dgsN b = d := ⟨_, rfl⟩
        rw [hdb] at Hb HLB
        rw [hda] at HLA ⊢
        obtain ⟨p1, e1, k1, r1⟩ := join_str [45] db 1 db.length rfl rfl
        obtain ⟨p2, e2, k2, r2⟩ := join_str da p1 da.length p1.length rfl rfl
        have g1 : ¬ (9223372036854775807 < 1 + db.length) := by have := HLB.out; omega
        have g2 : ¬ (9223372036854775807 < da.length + p1.length) := by have := HLB.out; have := HLA.out; omega
        have HS : Hid (runL (a, b) = p2) := Lib.hid (by rw [r2, r1, ← hda, ← hdb]; unfold runL; rw [if_pos hlt2]; rfl)
        replace e1 : (⟨#[45]⟩ : ByteArray) ++ ⟨db.toArray⟩ = ⟨p1.toArray⟩ := e1
        clear hlt2 hda hdb r1 r2 k1 k2
        go_wp2_with fail
        refine (Hb.out _).mono ?_
        rintro e w' ⟨rfl, rfl⟩
        unfold strV
        go_wp2_with (at_builtin; refine wpList_append_own _ rfl _ _ 112 rfl wA.heap.size 9 i0 (.string ⟨#[]⟩) 1 16 Tryz.underlying112 hi hz0 hz1 hz2 rfl (by decide) _ _ _ rfl (HW1.out.alloc _) ⟨wq.heap.size, 0, none⟩ 1 1 [.string ⟨p2.toArray⟩] rfl rfl (cell_one_new _ _ _) (by simp [Value.oneCell']) (by unfold maxLen; omega) (by omega) (by have := HB1.out.size; simp; omega) ?_; intro v' w2 hown' hgrow' _)
        have HB2 := Lib.hid ((HB1.out.alloc HB1.out.size _).grown hgrow' (by have := HB1.out.size; simp; omega) (fun j e => (HW1.out.lt j e).1))
        have HW2 := Lib.hid hown'
        clear hown' hgrow'
        go_roundw
        case rel =>
          refine ⟨j + 1, hlt, by go_num, HB2.out, ?_⟩
          rw [runs_next HAB.out, HS.out]
          exact HW2.out
        case measure => simp [intOf]; omega
      · have hd : decide (a < b) = false := by simpa using hlt2
        have HS : Hid (runL (a, b) = dgsN a) := Lib.hid (by unfold runL; rw [if_neg hlt2])
        clear hlt2
        generalize dgsN a = da at *
        go_wp2_with (at_builtin; refine wpList_append_own _ rfl _ _ 112 rfl wA.heap.size 9 i0 (.string ⟨#[]⟩) 1 16 Tryz.underlying112 hi hz0 hz1 hz2 rfl (by decide) _ _ _ rfl (HW1.out.alloc _) ⟨wq.heap.size, 0, none⟩ 1 1 [.string ⟨da.toArray⟩] rfl rfl (cell_one_new _ _ _) (by simp [Value.oneCell']) (by unfold maxLen; omega) (by omega) (by have := HB1.out.size; simp; omega) ?_; intro v' w2 hown' hgrow' _)
        have HB2 := Lib.hid ((HB1.out.alloc HB1.out.size _).grown hgrow' (by have := HB1.out.size; simp; omega) (fun j e => (HW1.out.lt j e).1))
        have HW2 := Lib.hid hown'
        clear hown' hgrow'
        go_roundw
        case rel =>
          refine ⟨j + 1, hlt, by go_num, HB2.out, ?_⟩
          rw [runs_next HAB.out, HS.out]
          exact HW2.out
        case measure => simp [intOf]; omega
    · obtain rfl : j = (runsOf m).length := by omega
      have h := HW.out
      rw [show (runsOf m).length = (runsS m).length by unfold runsS; simp, List.take_length] at h
      have HJ := Lib.hid (join_own (runsS m) _ _ wr h (by unfold runsS; simp; omega) (fun l hl => by
        unfold runsS at hl
        rw [List.mem_map] at hl
        obtain ⟨r, _, rfl⟩ := hl
        exact (run_len r).2))
      have HBw := Lib.hid (HB.out.trans (HBr.out.mono HB.out.size))
      clear h hlt
      go_wp2_with fail
      refine HJ.out.mono ?_
      rintro e w5 ⟨rfl, hb⟩
      have HB5 := Lib.hid (HBw.out.trans (hb.mono HBw.out.size))
      clear hb
      go_wp2_with fail
      go_ret
      exact ⟨rfl, HB5.out⟩
end Go.Proofs.YtbaobjbckabnhaaGreatDoor
/- Text: the one text of a field: walked. -/
namespace Go.Proofs.YtbaobjbckabnhaaGreatDoor
open Go.RowKit

def errT (l : List UInt8) (e : Int) : Value := .tuple #[strV l, .int .i64 e]
theorem text_no (z : Int) (m : BitVec 64) (w : World) (h : NoKind z) :
    Calls Tryz.prog 62 #[.int .i64 z, .int .u64 (U m)] w fun e w' => e = .returned (errT [] 2) ∧ Below w.heap.size w w' := by
  have H := Lib.hid (check_no z m w h)
  clear h
  go_enter Tryz.func62, Tryz.ntmps62
  go_wp2_with fail
  refine H.out.mono ?_
  rintro e w' ⟨rfl, hb⟩
  go_wp2_with fail
  go_ret2
  exact ⟨rfl, hb⟩
theorem text_bad (k : Nat) (m : BitVec 64) (w : World) (hL : Laid w) (hk : k < 5) (hf : fieldB k m = false) :
    Calls Tryz.prog 62 #[.int .i64 (k : Int), .int .u64 (U m)] w fun e w' => e = .returned (errT [] 160) ∧ Below w.heap.size w w' := by
  have h := check_yes k m w hL hk
  rw [hf, if_neg (by decide)] at h
  have H := Lib.hid h
  clear h hL hf
  go_enter Tryz.func62, Tryz.ntmps62
  go_wp2_with fail
  refine H.out.mono ?_
  rintro e w' ⟨rfl, hb⟩
  go_wp2_with fail
  go_ret2
  exact ⟨rfl, hb⟩
theorem textL_whole (k : Nat) : textL k (wholeM k) = [42] := by unfold textL; rw [if_pos rfl]
theorem textL_step {k n : Nat} {m : BitVec 64} (h : m ≠ wholeM k) (hs : stepOfN k m = some n) : textL k m = 42 :: 47 :: dgsN n := by
  unfold stepOfN at hs
  unfold textL
  rw [if_neg h]
  split at hs
  · rename_i h3
    rw [if_pos h3, hs]
  · cases hs
theorem textL_runs {k : Nat} {m : BitVec 64} (h : m ≠ wholeM k) (hs : stepOfN k m = none) : textL k m = runsL m := by
  unfold stepOfN at hs
  unfold textL
  rw [if_neg h]
  split at hs
  · rename_i h3
    rw [if_pos h3, hs]
  · rename_i h3
    rw [if_neg h3]
theorem runs_64 (m : BitVec 64) : (runsOf m).length ≤ 64 := by
  unfold runsOf; rw [List.length_map, pop_eq]; exact pop_le _
theorem stepOf_lt {k n : Nat} {m : BitVec 64} (hs : stepOfN k m = some n) : n < 100 := by
  unfold stepOfN at hs
  split at hs
  · have := (steps_is hs).2.1; omega
  · cases hs
set_option maxRecDepth 100000 in
set_option maxHeartbeats 1000000 in
theorem text_yes (k : Nat) (m : BitVec 64) (w : World) (hL : Laid w) (hk : k < 5) (hf : fieldB k m = true) :
    Calls Tryz.prog 62 #[.int .i64 (k : Int), .int .u64 (U m)] w fun e w' => e = .returned (errT (textL k m) 0) ∧ Below w.heap.size w w' := by
  have h := check_yes k m w hL hk
  rw [hf, if_pos rfl] at h
  have hF := (fieldB_iff k m).1 hf
  have H := Lib.hid h
  have HL := Lib.hid hL
  have HR := Lib.hid (fun W hW => runs_text m W hW (fun r hr => by
    have := run_field hF hr
    have := hi_lt k
    omega) (runs_64 m))
  clear h hL hf hF
  by_cases he : m = wholeM k
  · subst he
    have HT := Lib.hid (textL_whole k)
    go_enter Tryz.func62, Tryz.ntmps62
    go_wp2_with fail
    refine H.out.mono ?_
    rintro e w1 ⟨rfl, hb⟩
    have HB1 := Lib.hid hb
    have HL1 := Lib.hid (HL.out.on hb)
    clear hb
    go_wp2_with fail
    refine (whole_yes k w1 HL1.out hk).mono ?_
    rintro e w2 ⟨rfl, hb⟩
    have HB2 := Lib.hid (HB1.out.trans (hb.mono HB1.out.size))
    clear hb
    go_wp2_with fail
    go_ret2
    exact ⟨by rw [HT.out]; rfl, HB2.out⟩
  · have hne : (U m == U (wholeM k)) = false := by rw [beq_eq_false_iff_ne, ne_eq, U_inj]; exact he
    have HS := Lib.hid (fun W hW => stepOf_any k m W hW hk)
    cases hs : stepOfN k m with
    | none =>
      have HT := Lib.hid (textL_runs he hs)
      rw [hs] at HS
      clear he hs
      go_enter Tryz.func62, Tryz.ntmps62
      go_wp2_with fail
      refine H.out.mono ?_
      rintro e w1 ⟨rfl, hb⟩
      have HB1 := Lib.hid hb
      have HL1 := Lib.hid (HL.out.on hb)
      clear hb
      go_wp2_with fail
      refine (whole_yes k w1 HL1.out hk).mono ?_
      rintro e w2 ⟨rfl, hb⟩
      have HB2 := Lib.hid (HB1.out.trans (hb.mono HB1.out.size))
      have HL2 := Lib.hid (HL1.out.on hb)
      clear hb
      go_wp2_with fail
      refine (HS.out w2 HL2.out).mono ?_
      rintro e w3 ⟨rfl, hb⟩
      have HB3 := Lib.hid (HB2.out.trans (hb.mono HB2.out.size))
      have HL3 := Lib.hid (HL2.out.on hb)
      clear hb
      unfold some2
      go_wp2_with fail
      refine (HR.out w3 HL3.out).mono ?_
      rintro e w4 ⟨rfl, hb⟩
      have HB4 := Lib.hid (HB3.out.trans (hb.mono HB3.out.size))
      clear hb
      unfold strV
      go_wp2_with fail
      go_ret2
      exact ⟨by rw [HT.out]; rfl, HB4.out⟩
    | some n =>
      have HT := Lib.hid (textL_step he hs)
      have hn := stepOf_lt hs
      rw [hs] at HS
      clear he hs
      go_enter Tryz.func62, Tryz.ntmps62
      go_wp2_with fail
      refine H.out.mono ?_
      rintro e w1 ⟨rfl, hb⟩
      have HB1 := Lib.hid hb
      have HL1 := Lib.hid (HL.out.on hb)
      clear hb
      go_wp2_with fail
      refine (whole_yes k w1 HL1.out hk).mono ?_
      rintro e w2 ⟨rfl, hb⟩
      have HB2 := Lib.hid (HB1.out.trans (hb.mono HB1.out.size))
      have HL2 := Lib.hid (HL1.out.on hb)
      clear hb
      go_wp2_with fail
      refine (HS.out w2 HL2.out).mono ?_
      rintro e w3 ⟨rfl, hb⟩
      have HB3 := Lib.hid (HB2.out.trans (hb.mono HB2.out.size))
      clear hb
      unfold some2
      simp only [Option.getD_some, Option.isSome_some]
      go_wp2_with fail
      refine (itoa_any n w3 hn).mono ?_
      rintro e w4 ⟨rfl, rfl⟩
      have hl := dgs_len n
      obtain ⟨p, e1, k1, r1⟩ := join_str [42, 47] (dgsN n) 2 (dgsN n).length rfl rfl
      have g1 : ¬ (9223372036854775807 < 2 + (dgsN n).length) := by omega
      have HP : Hid (textL k m = p) := Lib.hid (by rw [HT.out, r1]; rfl)
      replace e1 : (⟨#[42, 47]⟩ : ByteArray) ++ ⟨(dgsN n).toArray⟩ = ⟨p.toArray⟩ := e1
      clear HT r1 k1
      unfold strV
      go_wp2_with fail
      go_ret2
      exact ⟨by rw [HP.out]; rfl, HB3.out⟩
end Go.Proofs.YtbaobjbckabnhaaGreatDoor
/- The document's Kind, Ends, Whole, Right, names: walked. -/
namespace Go.Proofs.YtbaobjbckabnhaaGreatDoor
open Go.RowKit

theorem five {k : Nat} (h : k < 5) : k = 0 ∨ k = 1 ∨ k = 2 ∨ k = 3 ∨ k = 4 := by omega
def endsA : Array Value := #[.int .i64 0, .int .i64 59, .int .i64 0, .int .i64 23, .int .i64 1, .int .i64 31, .int .i64 1, .int .i64 12, .int .i64 0, .int .i64 6]
theorem index_ends (k : Nat) (hk : k < 5) (w : World) : (Instr.index 178 (.agg endsA) (.int .i64 (k : Int))).run Tryz.prog w = .ok (runV (loK k) (hiK k)) w := by
  rcases five hk with rfl | rfl | rfl | rfl | rfl <;>
  simp [Instr.index, asIntOf, Sem.run_bind, run_underlying Tryz.underlying178, Tryz.sizeOf177, Tryz.isAgg177, Go.part, Result.andThen, endsA, runV, loK, hiK]
set_option maxRecDepth 100000 in
theorem rends_any (k : Nat) (w : World) (h : k < 5) :
    Calls Tryz.prog 120 #[.int .i64 (k : Int)] w fun e w' => e = .returned (runV (loK k) (hiK k)) ∧ Below w.heap.size w w' := by
  have hix := fun W => index_ends k h W
  have hlt : (k : Int) < 5 := by omega
  unfold runV endsA at *
  generalize ((loK k : Nat) : Int) = a at *
  generalize ((hiK k : Nat) : Int) = b at *
  go_enter Tryz.func120, Tryz.ntmps120
  go_wp2_with fail
  refine bodyPost_ret (v := .agg #[.int .i64 a, .int .i64 b]) (by simp [results, Tryz.results120, go_sem]) rfl ⟨rfl, ?_⟩
  exact (Below.refl _ _).alloc (Nat.le_refl _) _
theorem rspan_whole (k : Nat) (w : World) : Calls Tryz.prog 123 #[.int .i64 (loK k : Nat), .int .i64 (hiK k : Nat), .int .i64 1] w fun e w' => e = .returned (maskOk (some (wholeM k))) ∧ Below w.heap.size w w' := by
  have h := rspan_any (loK k : Nat) (hiK k : Nat) 1 w (by decide)
  rw [whole_span] at h
  exact h
theorem field_run (a b : Int) (w : World) : (Instr.field 177 (.agg #[.int .i64 a, .int .i64 b]) 0).run Tryz.prog w = .ok (.int .i64 a) w ∧ (Instr.field 177 (.agg #[.int .i64 a, .int .i64 b]) 1).run Tryz.prog w = .ok (.int .i64 b) w := by
  constructor <;> simp [Instr.field, Sem.run_bind, run_underlying Tryz.underlying177, Tryz.isAgg3, Go.part, Result.andThen, asAgg]
set_option maxRecDepth 100000 in
theorem rwhole_any (k : Nat) (w : World) (h : k < 5) :
    Calls Tryz.prog 86 #[.int .i64 (k : Int)] w fun e w' => e = .returned (.int .u64 (U (wholeM k))) ∧ Below w.heap.size w w' := by
  have HS := Lib.hid (fun W => rspan_whole k W)
  have HE := Lib.hid (fun W => rends_any k W h)
  unfold runV at HE
  generalize ((loK k : Nat) : Int) = a at *
  generalize ((hiK k : Nat) : Int) = b at *
  have hf0 := fun W => (field_run a b W).1
  have hf1 := fun W => (field_run a b W).2
  go_enter Tryz.func86, Tryz.ntmps86
  go_wp2_with fail
  refine (HE.out _).mono ?_
  rintro e w1 ⟨rfl, hb1⟩
  have HB1 := Lib.hid hb1
  clear hb1
  go_wp2_with fail
  refine (HE.out _).mono ?_
  rintro e w2 ⟨rfl, hb⟩
  have HB2 := Lib.hid (HB1.out.trans (hb.mono HB1.out.size))
  clear hb
  go_wp2_with fail
  refine (HS.out w2).mono ?_
  rintro e w3 ⟨rfl, hb⟩
  have HB3 := Lib.hid (HB2.out.trans (hb.mono HB2.out.size))
  clear hb
  unfold maskOk
  go_wp2_with fail
  go_ret
  exact ⟨rfl, HB3.out⟩
/-! Right -/
theorem field_has (k : Nat) (m : BitVec 64) : fieldB k m = (m != 0#64 && (elems m).all fun n => hasB (wholeM k) n) := by
  unfold fieldB
  rw [Bool.eq_iff_iff, Bool.and_eq_true, Bool.and_eq_true, beq_iff_eq, less_whole, List.all_eq_true]
  refine and_congr_right fun _ => ⟨fun h n hn => ?_, fun h n hn => ?_⟩
  · have := mem_elems.1 hn
    rw [hasB_nat, whole_bit]
    have h64 := BitVec.lt_of_getLsbD this
    have := h n this
    simp; omega
  · have := h n (mem_elems.2 hn)
    rw [hasB_nat, whole_bit] at this
    simp at this; omega
/-- A slice of ints reads l. -/
def ArrN (w : World) (A : Option Addr) (n : Nat) (l : List Nat) : Prop := l.length = n ∧ ∀ (i x : Nat), l[i]? = some x → ∃ b off, A = some ⟨b, off, none⟩ ∧ b < w.heap.size ∧ w.cell? ⟨b, off + i, none⟩ = some (.int .i64 (x : Int))
theorem ArrN.below {w w' : World} {A : Option Addr} {n : Nat} {l : List Nat} (h : ArrN w A n l) (hb : Below w.heap.size w w') : ArrN w' A n l :=
  ⟨h.1, fun i x hx => by
    obtain ⟨b, off, rfl, hlt, hc⟩ := h.2 i x hx
    exact ⟨b, off, rfl, Nat.lt_of_lt_of_le hlt hb.size, (hb.cell (p := ⟨b, off + i, none⟩) hlt).trans hc⟩⟩
theorem rall_row (x : BitVec 64) (w : World) :
    Calls Tryz.prog 84 #[.int .u64 (U x)] w fun e w' => (∃ A c, e = .returned (.slice A (elems x).length c) ∧ ArrN w' A (elems x).length (elems x)) ∧ Below w.heap.size w w' := by
  refine (rall_any x w).mono ?_
  rintro e w' ⟨v, rfl, hv, hb⟩
  refine ⟨?_, hb⟩
  obtain ⟨A, c, rfl⟩ := own_slice0 hv
  refine ⟨A, c, rfl, rfl, fun i y hy => ?_⟩
  have hlt := (List.getElem?_eq_some_iff.1 hy).1
  rcases hv.2 with ⟨_, h0⟩ | ⟨g, cap, cur, he, hg, hh, _⟩
  · omega
  · injection he with e1 e2 e3
    subst e1; subst e3
    refine ⟨g, 0, rfl, (Array.getElem?_eq_some_iff.1 hh).1, ?_⟩
    rw [Nat.zero_add, hv.cellAt i (by omega), List.getElem?_map, hy]; rfl
theorem elems_64 (x : BitVec 64) : (elems x).length ≤ 64 := by rw [pop_eq]; exact pop_le x
theorem all_no {l : List Nat} {p : Nat → Bool} {j q : Nat} (h : l[j]? = some q) (hp : p q = false) : l.all p = false := by
  rw [← Bool.not_eq_true, List.all_eq_true]
  intro q'
  rw [q' _ (List.mem_of_getElem? h)] at hp
  cases hp
theorem all_yes {l : List Nat} {p : Nat → Bool} (h : ∀ (i : Nat) q, i < l.length → l[i]? = some q → p q = true) : l.all p = true := by
  rw [List.all_eq_true]
  intro q hq
  obtain ⟨i, hi, e⟩ := List.mem_iff_getElem.1 hq
  exact h i q hi (by rw [← e]; exact List.getElem?_eq_getElem _)
set_option maxRecDepth 100000 in
theorem rright_any (k : Nat) (m : BitVec 64) (w : World) (hk : k < 5) :
    Calls Tryz.prog 52 #[.int .i64 (k : Int), .int .u64 (U m)] w fun e w' => e = .returned (.bool (fieldB k m)) ∧ Below w.heap.size w w' := by
  have HFH := Lib.hid (field_has k m)
  have h64 := elems_64 m
  have HW := Lib.hid (fun W => rwhole_any k W hk)
  have HHas := Lib.hid (fun q W => rhas_any (wholeM k) q W)
  have hun := u_ne m
  have HU := Lib.hid hun
  clear hun
  go_enter Tryz.func52, Tryz.ntmps52
  go_wp2_with fail
  refine (rall_row m w).mono ?_
  rintro e w1 ⟨⟨A, c, rfl, hA⟩, hb⟩
  have HA := Lib.hid hA
  have HB1 := Lib.hid hb
  clear hA hb
  go_wp2_with fail
  go_loopw [10] (fun i wr => ∃ j : Nat, j ≤ (elems m).length ∧ i = .int .i64 (j : Int) ∧ Below w1.heap.size w1 wr ∧ ∀ (i : Nat) q, i < j → (elems m)[i]? = some q → hasB (wholeM k) q = true) (fun i _ => (elems m).length - (intOf i).toNat)
  case atStart => exact ⟨0, Nat.zero_le _, rfl, Below.refl _ _, fun i q h => by omega⟩
  case round =>
    obtain ⟨j, hj, rfl, hB, hi⟩ := hrel
    have HB := Lib.hid hB; have HI := Lib.hid hi
    clear hB hi
    by_cases hlt : j < (elems m).length
    · obtain ⟨q, hq⟩ : ∃ q, (elems m)[j]? = some q := ⟨_, List.getElem?_eq_getElem hlt⟩
      obtain ⟨b, off, rfl, hbl, hc⟩ := (HA.out.below HB.out).2 j q hq
      have HQ := Lib.hid hq
      clear hq
      go_wp2_with fail
      refine (HW.out wr).mono ?_
      rintro e w2 ⟨rfl, hb⟩
      have HB2 := Lib.hid (HB.out.trans (hb.mono HB.out.size))
      clear hb
      go_wp2_with fail
      refine (HHas.out _ _).mono ?_
      rintro e w3 ⟨rfl, rfl⟩
      cases hh : hasB (wholeM k) q with
      | false =>
        have HN : Hid (fieldB k m = false) := Lib.hid (by rw [HFH.out, all_no (p := fun n => hasB (wholeM k) n) HQ.out hh, Bool.and_false])
        go_wp2_with fail
        go_ret
        exact ⟨by rw [HN.out]; rfl, HB1.out.trans (HB2.out.mono HB1.out.size)⟩
      | true =>
        have HN : Hid (∀ (i : Nat) q, i < j + 1 → (elems m)[i]? = some q → hasB (wholeM k) q = true) := Lib.hid (by
          intro i q' hi hq'
          rcases Nat.lt_or_ge i j with h | h
          · exact HI.out i q' h hq'
          · obtain rfl : i = j := by omega
            rw [HQ.out] at hq'
            cases hq'
            exact hh)
        clear hh
        go_wp2_with fail
        go_roundw
        case rel => exact ⟨j + 1, hlt, by go_num, HB2.out, HN.out⟩
        case measure => simp [intOf]; omega
    · obtain rfl : j = (elems m).length := by omega
      have HN : Hid (fieldB k m = (m != 0#64)) := Lib.hid (by rw [HFH.out, all_yes (p := fun n => hasB (wholeM k) n) (fun i q hi hq => HI.out i q hi hq), Bool.and_true])
      go_wp2_with fail
      go_ret
      exact ⟨by rw [HN.out, ← HU.out]; rfl, HB1.out.trans (HB.out.mono HB1.out.size)⟩
theorem names_at {w : World} {t : TypeId} (l : List (List UInt8)) : ArrL (w.alloc (.cells (l.map strV).toArray t)) (some ⟨w.heap.size, 0, none⟩) l.length l := by
  refine ⟨rfl, fun i x hx => ⟨_, _, rfl, by simp, ?_⟩⟩
  simp only [Nat.zero_add]
  rw [World.cell?_alloc_new, List.getElem?_toArray, List.getElem?_map, hx]; rfl
set_option maxRecDepth 100000 in
theorem rnames_any (k : Nat) (w : World) (hk : k < 5) :
    Calls Tryz.prog 143 #[.int .i64 (k : Int)] w fun e w' => (∃ A n c, e = .returned (.slice A n c) ∧ ArrL w' A n (namesK k)) ∧ Below w.heap.size w w' := by
  by_cases h3 : k = 3
  · subst h3
    have ha := Lib.hid (names_at (w := w) (t := 9) (namesK 3))
    rw [show ((3 : Nat) : Int) = 3 by rfl]
    go_enter Tryz.func143, Tryz.ntmps143
    go_wp2_with fail
    go_ret
    exact ⟨⟨_, _, _, rfl, ha.out⟩, (Below.refl _ _).alloc (Nat.le_refl _) _⟩
  · by_cases h4 : k = 4
    · subst h4
      have ha := Lib.hid (names_at (w := w) (t := 9) (namesK 4))
      rw [show ((4 : Nat) : Int) = 4 by rfl]
      go_enter Tryz.func143, Tryz.ntmps143
      go_wp2_with fail
      go_ret
      exact ⟨⟨_, _, _, rfl, ha.out⟩, (Below.refl _ _).alloc (Nat.le_refl _) _⟩
    · have hn : namesK k = [] := by unfold namesK; rw [if_neg h3, if_neg h4]
      have e3 : ((k : Int) == 3) = false := by simp; omega
      have e4 : ((k : Int) == 4) = false := by simp; omega
      clear h3 h4
      go_enter Tryz.func143, Tryz.ntmps143
      go_wp2_with fail
      go_ret
      exact ⟨⟨_, _, _, rfl, by rw [hn]; exact ⟨rfl, fun i x h => by simp at h⟩⟩, Below.refl _ _⟩
end Go.Proofs.YtbaobjbckabnhaaGreatDoor
/- The document's upper: walked. -/
namespace Go.Proofs.YtbaobjbckabnhaaGreatDoor
open Go.RowKit

/-- The first k letters are great ones. -/
def upto (l : List UInt8) (k : Nat) : List UInt8 := (upL l).take k ++ l.drop k
theorem up_len (l : List UInt8) : (upL l).length = l.length := by unfold upL; simp
theorem upto_len (l : List UInt8) (k : Nat) : (upto l k).length = l.length := by
  unfold upto; rw [List.length_append, List.length_take, List.length_drop, up_len]; omega
theorem upto_get {l : List UInt8} {k : Nat} (h : k < l.length) : (upto l k)[k]? = l[k]? := by
  unfold upto
  rw [List.getElem?_append_right (by rw [List.length_take, up_len]; omega), List.length_take, up_len, List.getElem?_drop]
  congr 1; omega
theorem upto_set {l : List UInt8} {k : Nat} {x : UInt8} (h : l[k]? = some x) : (upto l k).set k (upB x) = upto l (k + 1) := by
  obtain ⟨hlt, hx⟩ := List.getElem?_eq_some_iff.1 h
  unfold upto
  rw [List.set_append_right _ _ (by rw [List.length_take, up_len]; omega), List.length_take, up_len, show k - min k l.length = 0 by omega, List.drop_eq_getElem_cons hlt, hx, List.set_cons_zero,
    List.take_add_one, List.append_assoc]
  congr 1
  have : (upL l)[k]? = some (upB x) := by unfold upL; rw [List.getElem?_map, h]; rfl
  rw [this]; rfl
theorem upto_same {l : List UInt8} {k : Nat} {x : UInt8} (h : l[k]? = some x) (hx : upB x = x) : upto l k = upto l (k + 1) := by
  rw [← upto_set h, hx]
  have hlt := (List.getElem?_eq_some_iff.1 h).1
  have hg := upto_get hlt
  rw [h] at hg
  obtain ⟨h1, h2⟩ := List.getElem?_eq_some_iff.1 hg
  conv => lhs; rw [← List.set_getElem_self h1]
  rw [h2]
theorem upto_all (l : List UInt8) : upto l l.length = upL l := by
  unfold upto
  rw [List.drop_length, List.append_nil, List.take_of_length_le (by rw [up_len]; exact Nat.le_refl _)]
theorem upto_zero (l : List UInt8) : upto l 0 = l := by unfold upto; simp
/-- Block g holds the bytes l. -/
def UpAt (w : World) (g N : Nat) (l : List UInt8) : Prop := ∃ cs : Array Value, w.heap[g]? = some (.cells cs 5 (N, N + 1)) ∧ l.length ≤ N ∧ cs.size = N ∧ ∀ (i : Nat) x, l[i]? = some x → cs[i]? = some (.int .u8 (x.toNat : Nat))
theorem UpAt.cell {w : World} {g N i : Nat} {l : List UInt8} {x : UInt8} (h : UpAt w g N l) (hi : l[i]? = some x) : w.cell? ⟨g, i, none⟩ = some (.int .u8 (x.toNat : Nat)) ∧ w.frozen? ⟨g, i, none⟩ = false := by
  obtain ⟨cs, h1, h2, h3, h4⟩ := h
  have hlt := (List.getElem?_eq_some_iff.1 hi).1
  refine ⟨by rw [Go.Joins.cell_of_block h1, h4 i x hi], ?_⟩
  simp [World.frozen?, h1]; omega
theorem UpAt.lt {w : World} {g N : Nat} {l : List UInt8} (h : UpAt w g N l) : g < w.heap.size := by
  obtain ⟨cs, h1, _⟩ := h
  rcases Nat.lt_or_ge g w.heap.size with hlt | hge
  · exact hlt
  · rw [Array.getElem?_eq_none hge] at h1; cases h1
theorem UpAt.set {w : World} {g N i : Nat} {l : List UInt8} (h : UpAt w g N l) (b : UInt8) : UpAt (w.setCell ⟨g, i, none⟩ (.int .u8 (b.toNat : Nat))) g N (l.set i b) := by
  obtain ⟨cs, h1, h2, h3, h4⟩ := h
  refine ⟨_, Go.Joins.block_setCell h1 _, by rw [List.length_set]; exact h2, by simpa using h3, fun j x hj => ?_⟩
  rw [Array.getElem?_setIfInBounds]
  rw [List.getElem?_set] at hj
  by_cases e : i = j
  · rw [if_pos e] at hj ⊢
    split at hj
    · cases hj; rw [if_pos (by omega)]
    · cases hj
  · rw [if_neg e] at hj ⊢
    exact h4 j x hj
theorem up_conv (s : ByteArray) (w : World) : ∃ N w', (convert 9 154 (.string s)).run Tryz.prog w = .ok (.slice (some ⟨w.heap.size, 0, none⟩) s.size N) w' ∧ UpAt w' w.heap.size N s.data.toList ∧ Below w.heap.size w w' := by
  refine ⟨_, _, run_bytes_of_string w _ _ _ s Tryz.underlying9 Tryz.underlying154 Tryz.underlying5, ?_, ?_⟩
  · have hge := grownCap_ge w s.size 0 5
    have hz : (bytesRow s (grownCap w s.size 0 5)).size = grownCap w s.size 0 5 := by unfold bytesRow; simp; omega
    rw [hz]
    refine ⟨bytesRow s (grownCap w s.size 0 5), ?_, ?_, ?_, fun i x hx => ?_⟩
    · exact heap_alloc_new _ _
    · rw [len_list]; exact hge
    · exact hz
    · obtain ⟨hlt, hv⟩ := List.getElem?_eq_some_iff.1 hx
      unfold bytesRow
      rw [Array.getElem?_append_left (by simpa using hlt), Array.getElem?_map]
      rw [show s.data[i]? = some x by rw [← Array.getElem?_toList]; exact hx]; rfl
  · exact ((bdrewN (Below.refl w.heap.size w) 1).alloc (Nat.le_refl _) _)
theorem back_conv (l : List UInt8) (g N c : Nat) (w : World) (h : UpAt w g N l) : (convert 154 9 (.slice (some ⟨g, 0, none⟩) l.length c)).run Tryz.prog w = .ok (strV l) w :=
  run_convert_bytes_back w _ _ _ ⟨g, 0, none⟩ c l Tryz.underlying154 Tryz.underlying5 Tryz.underlying9 (fun j hj => by
    rw [show (⟨g, 0, none⟩ : Addr).add j = ⟨g, j, none⟩ by unfold Addr.add; by_cases h0 : j = 0 <;> simp [h0]]
    exact (h.cell (List.getElem?_eq_getElem hj)).1)
theorem up_no {b : UInt8} (h : (b.toNat : Int) < 97 ∨ 122 < (b.toNat : Int)) : upB b = b := by unfold upB; rw [if_neg (by omega)]
theorem up_yes {b : UInt8} (h0 : 97 ≤ (b.toNat : Int)) (h1 : (b.toNat : Int) ≤ 122) : ((upB b).toNat : Int) = (b.toNat : Int) - 97 + 65 := by
  unfold upB
  rw [if_pos (by omega), UInt8.toNat_sub]
  have : (32 : UInt8).toNat = 32 := rfl
  omega
set_option maxRecDepth 100000 in
theorem rupper_any (s : ByteArray) (w : World) (hs : s.size ≤ 1000) :
    Calls Tryz.prog 144 #[.string s] w fun e w' => e = .returned (strV (upL s.data.toList)) ∧ Below w.heap.size w w' := by
  obtain ⟨N, w1, hcv, hU, hB⟩ := up_conv s w
  have HU := Lib.hid hU; have HB := Lib.hid hB
  clear hU hB
  go_enter Tryz.func144, Tryz.ntmps144
  go_wp2_with fail
  go_loopw [10] (fun i wr => ∃ j : Nat, j ≤ s.size ∧ i = .int .i64 (j : Int) ∧ Below w.heap.size w wr ∧ UpAt wr w.heap.size N (upto s.data.toList j)) (fun i _ => s.size - (intOf i).toNat)
  case atStart => exact ⟨0, Nat.zero_le _, rfl, HB.out, by rw [upto_zero]; exact HU.out⟩
  case round =>
    obtain ⟨j, hj, rfl, hB, hU⟩ := hrel
    have HBr := Lib.hid hB; have HUr := Lib.hid hU
    clear hB hU
    by_cases hlt : j < s.size
    · have hx := get_list s j hlt
      obtain ⟨c0, f0⟩ := HUr.out.cell ((upto_get (by rw [len_list]; exact hlt)).trans hx)
      have hlt2 := HUr.out.lt
      have HX := Lib.hid hx
      have hb0 : s[j].toNat < 256 := UInt8.toNat_lt _
      clear hx
      by_cases hc : 97 ≤ (s[j].toNat : Int) ∧ (s[j].toNat : Int) ≤ 122
      · obtain ⟨h0, h1⟩ := hc
        have HY := Lib.hid (up_yes h0 h1)
        have HUn := Lib.hid (HUr.out.set (i := j) (upB s[j]))
        rw [upto_set HX.out, HY.out] at HUn
        have HBn := Lib.hid (HBr.out.setCell (p := ⟨w.heap.size, j, none⟩) (Nat.le_refl _) (.int .u8 ((s[j].toNat : Int) - 97 + 65)))
        go_wp2_with fail
        go_roundw
        case rel => exact ⟨j + 1, hlt, by go_num, HBn.out, HUn.out⟩
        case measure => simp [intOf]; omega
      · have HE := Lib.hid (upto_same HX.out (up_no (by omega)))
        by_cases h0 : 97 ≤ (s[j].toNat : Int)
        · have h1 : decide ((s[j].toNat : Int) ≤ 122) = false := by simp; omega
          clear hc
          go_wp2_with fail
          go_roundw
          case rel => exact ⟨j + 1, hlt, by go_num, HBr.out, by rw [← HE.out]; exact HUr.out⟩
          case measure => simp [intOf]; omega
        · have h1 : decide (97 ≤ (s[j].toNat : Int)) = false := by simp; omega
          clear hc h0
          go_wp2_with fail
          go_roundw
          case rel => exact ⟨j + 1, hlt, by go_num, HBr.out, by rw [← HE.out]; exact HUr.out⟩
          case measure => simp [intOf]; omega
    · obtain rfl : j = s.size := by omega
      have hu := HUr.out
      rw [← len_list, upto_all] at hu
      have hbk := back_conv _ _ _ N wr hu
      rw [up_len, len_list] at hbk
      clear hu
      go_wp2_with fail
      go_ret
      exact ⟨rfl, HBr.out⟩
end Go.Proofs.YtbaobjbckabnhaaGreatDoor
/- The document's number, cut, digits: walked. -/
namespace Go.Proofs.YtbaobjbckabnhaaGreatDoor
open Go.RowKit

theorem take_snoc8 (s : ByteArray) (k : Nat) (h : k < s.size) : s.data.toList.take (k + 1) = s.data.toList.take k ++ [s[k]] := by
  rw [List.take_succ_eq_append_getElem (by simpa using h)]; rfl
theorem digs_snoc (l : List UInt8) (b : UInt8) : digs (l ++ [b]) = (digs l && isDg b) := by unfold digs; simp
theorem empty_is (s : ByteArray) : s.toList.isEmpty = decide (s.size = 0) := by
  rw [ByteArray.toList_eq, ← len_list]
  cases s.data.toList <;> simp
theorem head_is (s : ByteArray) (h : 0 < s.size) : s.data.toList.head? = some s[0] := by
  rw [List.head?_eq_getElem?]; exact get_list s 0 h
theorem val_thou {l : List UInt8} (h : digs l = true) (hl : l.length ≤ 3) : valL l < 1000 := by
  match l, h, hl with
  | [], _, _ => simp [valL]
  | [a], h, _ => simp [digs, isDg] at h; simp [valL]; omega
  | [a, b], h, _ => simp [digs, isDg] at h; simp [valL]; omega
  | [a, b, c], h, _ => simp [digs, isDg] at h; simp [valL]; omega
  | a :: b :: c :: d :: l, _, hl => simp at hl
set_option maxRecDepth 100000 in
theorem rnumber_any (s : ByteArray) (w : World) (hs : s.size ≤ maxLen) :
    Calls Tryz.prog 121 #[.string s] w fun e w' => e = .returned (some2 (numL s.data.toList)) ∧ w = w' := by
  unfold maxLen at hs
  have hem := empty_is s
  by_cases h0 : s.size = 0
  · have hN : Hid (numL s.data.toList = none) := Lib.hid (by
      unfold numL
      rw [if_pos (.inl (List.eq_nil_of_length_eq_zero (by rw [len_list]; exact h0)))])
    rw [h0] at hem
    have hem : s.toList.isEmpty = true := by rw [hem]; rfl
    have h1 : decide ((1 : Int) < (s.size : Int)) = false := by simp; omega
    have h3 : decide ((3 : Int) < (s.size : Int)) = false := by simp; omega
    clear h0
    go_enter Tryz.func121, Tryz.ntmps121
    go_wp2_with fail
    go_ret2
    exact ⟨by rw [hN.out]; rfl, rfl⟩
  · have hem : s.toList.isEmpty = false := by rw [hem]; simpa using h0
    have hne : ¬ s = ByteArray.empty := fun e => h0 (by rw [e]; rfl)
    by_cases h3 : 3 < s.size
    · have hN : Hid (numL s.data.toList = none) := Lib.hid (by
        unfold numL
        rw [if_pos (.inr (.inl (by rw [len_list]; exact h3)))])
      have h3' : decide ((3 : Int) < (s.size : Int)) = true := by simp; omega
      clear h3
      go_enter Tryz.func121, Tryz.ntmps121
      go_wp2_with fail
      go_ret2
      exact ⟨by rw [hN.out]; rfl, rfl⟩
    · have h3' : decide ((3 : Int) < (s.size : Int)) = false := by simp; omega
      by_cases hz : 1 < s.size ∧ s.data.toList.head? = some 48
      · obtain ⟨h1, h2⟩ := hz
        have hN : Hid (numL s.data.toList = none) := Lib.hid (by
          unfold numL
          rw [if_pos (.inr (.inr (.inl ⟨by rw [len_list]; exact h1, h2⟩)))])
        rw [head_is s (by omega)] at h2
        have h2' : ((s[0].toNat : Int) == 48) = true := by
          injection h2 with h2
          rw [h2]; rfl
        have h1' : decide ((1 : Int) < (s.size : Int)) = true := by simp; omega
        clear h2
        go_enter Tryz.func121, Tryz.ntmps121
        go_wp2_with fail
        go_ret2
        exact ⟨by rw [hN.out]; rfl, rfl⟩
      · have HG : Hid (∀ b : Bool, digs s.data.toList = b → numL s.data.toList = if b = true then some (valL s.data.toList) else none) := Lib.hid (by
          intro b hb
          have e0 : s.data.toList ≠ [] := fun e => h0 (by rw [← len_list, e]; rfl)
          unfold numL
          cases b with
          | true => rw [if_neg (by rw [len_list]; rintro (q | q | q | q); exact e0 q; omega; exact hz q; rw [hb] at q; cases q)]; rfl
          | false => rw [if_pos (.inr (.inr (.inr hb)))]; rfl)
        have HL : Hid (s.size ≤ 3) := Lib.hid (by omega)
        have hguard : decide ((1 : Int) < (s.size : Int)) = false ∨ decide ((1 : Int) < (s.size : Int)) = true ∧ 0 < s.size ∧ ∀ h : 0 < s.size, ((s[0].toNat : Int) == 48) = false := by
          by_cases h1 : 1 < s.size
          · right
            refine ⟨by simp; omega, by omega, fun h => ?_⟩
            rw [beq_eq_false_iff_ne]
            intro e
            exact hz ⟨h1, by rw [head_is s h]; congr 1; apply UInt8.toNat_inj.1; have : (48 : UInt8).toNat = 48 := rfl; omega⟩
          · left; simp; omega
        have HD := Lib.hid h0
        clear hz h0 h3
        rcases hguard with hg | ⟨hg, hp, hq⟩
        all_goals
          try have hq := hq hp
          go_enter Tryz.func121, Tryz.ntmps121
          go_wp2_with fail
          try clear hq
          go_loop [4, 5] (fun n i => ∃ k : Nat, k ≤ s.size ∧ i = .int .i64 k ∧ digs (s.data.toList.take k) = true ∧ n = .int .i64 ((valL (s.data.toList.take k) : Nat) : Int)) (fun _ i => s.size - (intOf i).toNat)
          case atStart => exact ⟨0, Nat.zero_le _, rfl, rfl, rfl⟩
          case round =>
            obtain ⟨k, hk, rfl, hdk, rfl⟩ := hrel
            have hv := val_thou hdk (by rw [List.length_take]; have := HL.out; omega)
            by_cases hlt : k < s.size
            · have hts := take_snoc8 s k hlt
              have hvs := valL_snoc (s.data.toList.take k) s[k]
              rw [← hts] at hvs
              have hdn : digs (s.data.toList.take (k + 1)) = isDg s[k] := by rw [hts, digs_snoc, hdk]; rfl
              have HV := Lib.hid hvs; have HDN := Lib.hid hdn
              clear hts hvs hdn hdk
              generalize valL (s.data.toList.take k) = v at *
              have v1 : (v : Int) < 1000 := by omega
              by_cases hc : 48 ≤ s[k].toNat ∧ s[k].toNat ≤ 57
              · obtain ⟨c0, c1⟩ := hc
                have HDG := Lib.hid (show isDg s[k] = true by unfold isDg; simp [c0, c1])
                have g0 : (48 : Int) ≤ (s[k].toNat : Int) := by omega
                have g1 : (s[k].toNat : Int) ≤ 57 := by omega
                have g2 : decide ((s[k].toNat : Int) < 48) = false := by simp; omega
                have g3 : decide (57 < (s[k].toNat : Int)) = false := by simp; omega
                clear c0 c1
                go_wp2_with fail
                go_round
                case rel => exact ⟨k + 1, by omega, by go_num, by rw [HDN.out, HDG.out], by rw [HV.out]; congr 1; omega⟩
                case measure => simp [intOf]; omega
              · have hcc : s[k].toNat < 48 ∨ 57 < s[k].toNat := by omega
                have HDG : Hid (isDg s[k] = false) := Lib.hid (by unfold isDg; rw [← Bool.not_eq_true]; simp; omega)
                have HF := Lib.hid (HG.out false (by
                  cases hd : digs s.data.toList with
                  | false => rfl
                  | true =>
                    have := digs_take hd (k + 1)
                    rw [HDN.out, HDG.out] at this; cases this))
                clear hc
                rcases hcc with hcc | hcc
                · have g2 : decide ((s[k].toNat : Int) < 48) = true := by simp; omega
                  go_wp2_with fail
                  go_ret2
                  exact ⟨by rw [HF.out]; rfl, rfl⟩
                · have g2 : decide ((s[k].toNat : Int) < 48) = false := by simp; omega
                  have g3 : decide (57 < (s[k].toNat : Int)) = true := by simp; omega
                  go_wp2_with fail
                  go_ret2
                  exact ⟨by rw [HF.out]; rfl, rfl⟩
            · have hk2 : k = s.size := by omega
              have hlast : s.data.toList.take k = s.data.toList := by rw [List.take_of_length_le (by simp; omega)]
              rw [hlast] at hdk hv ⊢
              have HF := Lib.hid (HG.out true hdk)
              have hlt' : decide ((k : Int) < (s.size : Int)) = false := by simp; omega
              clear hlast hk2 hdk
              go_wp2_with fail
              go_ret2
              exact ⟨by rw [HF.out]; rfl, rfl⟩
/-! cut -/
theorem ext_head (s : ByteArray) (k : Nat) : Value.string (s.extract 0 k) = strV (s.data.toList.take k) := by
  rw [strV_data, ByteArray.data_extract, Array.toList_extract]; simp
theorem ext_tail (s : ByteArray) (k : Nat) : Value.string (s.extract k s.size) = strV (s.data.toList.drop k) := by
  rw [strV_data, ByteArray.data_extract, Array.toList_extract]
  congr 1
  show (s.data.toList.drop k).take (s.size - k) = _
  rw [List.take_of_length_le (by rw [List.length_drop, len_list]; exact Nat.le_refl _)]
set_option maxRecDepth 100000 in
theorem rcut_any (s : ByteArray) (c : UInt8) (w : World) (hs : s.size ≤ 1000) :
    Calls Tryz.prog 81 #[.string s, .int .u8 (c.toNat : Nat)] w fun e w' => e = .returned (.tuple #[strV (cutB s.data.toList c).1, strV ((cutB s.data.toList c).2.getD []), .bool (cutB s.data.toList c).2.isSome]) ∧ Below w.heap.size w w' := by
  go_enter Tryz.func81, Tryz.ntmps81
  go_wp2_with fail
  go_loopw [7] (fun i wr => ∃ j : Nat, j ≤ s.size ∧ i = .int .i64 (j : Int) ∧ w = wr ∧ c ∉ s.data.toList.take j) (fun i _ => s.size - (intOf i).toNat)
  case atStart => exact ⟨0, Nat.zero_le _, rfl, rfl, by simp⟩
  case round =>
    obtain ⟨j, hj, rfl, rfl, hno⟩ := hrel
    have HNO := Lib.hid hno
    clear hno
    by_cases hlt : j < s.size
    · by_cases he : s[j] = c
      · subst he
        have hc : cutB s.data.toList s[j] = (s.data.toList.take j, some (s.data.toList.drop (j + 1))) := by
          have h := cutB_at (s.data.toList.drop (j + 1)) HNO.out
          have hd := List.drop_eq_getElem_cons (i := j) (l := s.data.toList) (by rw [len_list]; exact hlt)
          have hg : s.data.toList[j]'(by rw [len_list]; exact hlt) = s[j] := rfl
          rw [hg] at hd
          rw [← hd, List.take_append_drop] at h
          exact h
        have HC := Lib.hid hc
        clear hc
        go_wp2_with fail
        go_region
        go_wp2_with fail
        go_ret3
        refine ⟨?_, bdrewN (Below.refl _ _) _⟩
        rw [HC.out]
        show _ = Ending.returned (.tuple #[strV (s.data.toList.take j), strV (s.data.toList.drop (j + 1)), .bool true])
        rw [← ext_head, ← ext_tail]; rfl
      · have hne : ((s[j].toNat : Int) == (c.toNat : Int)) = false := by rw [beq_eq_false_iff_ne]; intro e; exact he (UInt8.toNat_inj.1 (by omega))
        have HN : Hid (c ∉ s.data.toList.take (j + 1)) := Lib.hid (by
          rw [take_snoc8 s j hlt, List.mem_append]
          rintro (q | q)
          · exact HNO.out q
          · simp at q; exact he q.symm)
        clear he
        go_wp2_with fail
        go_roundw
        case rel => exact ⟨j + 1, hlt, by go_num, by trivial, HN.out⟩
        case measure => simp [intOf]; omega
    · have hc : cutB s.data.toList c = (s.data.toList, none) := by
        have h := HNO.out
        rw [List.take_of_length_le (by rw [len_list]; omega)] at h
        exact cutB_none h
      have HC := Lib.hid hc
      clear hc
      go_wp2_with fail
      go_ret3
      refine ⟨?_, Below.refl _ _⟩
      rw [HC.out]
      show _ = Ending.returned (.tuple #[strV s.data.toList, strV [], .bool false])
      rw [← strV_data]
      rfl
end Go.Proofs.YtbaobjbckabnhaaGreatDoor
/- The document's Value: walked. -/
namespace Go.Proofs.YtbaobjbckabnhaaGreatDoor
open Go.RowKit

/-- A run stands in block g. -/
def RunBox (w : World) (g : Nat) (a b : Int) : Prop := w.heap[g]? = some (.cells #[.int .i64 a, .int .i64 b] 177 (0, 0))
theorem RunBox.lt {w : World} {g : Nat} {a b : Int} (h : RunBox w g a b) : g < w.heap.size := by
  rcases Nat.lt_or_ge g w.heap.size with hlt | hge
  · exact hlt
  · unfold RunBox at h; rw [Array.getElem?_eq_none hge] at h; cases h
theorem RunBox.on {w w' : World} {g : Nat} {a b : Int} (h : RunBox w g a b) (hb : Below w.heap.size w w') : RunBox w' g a b := (hb.block g h.lt).trans h
theorem RunBox.cells {w : World} {g : Nat} {a b : Int} (h : RunBox w g a b) : w.cell? ⟨g, 0, none⟩ = some (.int .i64 a) ∧ w.cell? ⟨g, 1, none⟩ = some (.int .i64 b) ∧ w.frozen? ⟨g, 0, none⟩ = false ∧ w.frozen? ⟨g, 1, none⟩ = false := by
  unfold RunBox at h
  exact ⟨by rw [Go.Joins.cell_of_block h]; rfl, by rw [Go.Joins.cell_of_block h]; rfl, by simp [World.frozen?, h], by simp [World.frozen?, h]⟩
theorem RunBox.new (w : World) (a b : Int) : RunBox (w.alloc (.cells #[.int .i64 a, .int .i64 b] 177)) w.heap.size a b := heap_alloc_new w _
theorem RunBox.set1 {w : World} {g : Nat} {a b : Int} (h : RunBox w g a b) (c : Int) : RunBox (w.setCell ⟨g, 1, none⟩ (.int .i64 c)) g a c := Go.Joins.block_setCell h _
theorem RunBox.set0 {w : World} {g : Nat} {a b : Int} (h : RunBox w g a b) (c : Int) : RunBox (w.setCell ⟨g, 0, none⟩ (.int .i64 c)) g c b := Go.Joins.block_setCell h _
theorem vname_at {k j : Nat} {s x : List UInt8} (hx : (namesK k)[j]? = some x) (hno : ∀ (i : Nat) y, i < j → (namesK k)[i]? = some y → upL s ≠ y) (h : upL s = x) : valueL k s = some (loK k + j) := by
  have hf : (namesK k).findIdx? (fun nm => upL s == nm) = some j := by
    obtain ⟨hlt, hv⟩ := List.getElem?_eq_some_iff.1 hx
    rw [List.findIdx?_eq_some_iff_getElem]
    refine ⟨hlt, by rw [hv, h]; simp, fun i hi => ?_⟩
    have := hno i _ hi (List.getElem?_eq_getElem (by omega))
    simpa using this
  unfold valueL
  rw [hf]
theorem vname_none {k : Nat} {s : List UInt8} (hno : ∀ (i : Nat) y, i < (namesK k).length → (namesK k)[i]? = some y → upL s ≠ y) : valueL k s = match numL s with | some n => if loK k ≤ n ∧ n ≤ topK k then some n else none | none => none := by
  have hf : (namesK k).findIdx? (fun nm => upL s == nm) = none := by
    rw [List.findIdx?_eq_none_iff]
    intro x hx
    obtain ⟨i, hi, e⟩ := List.mem_iff_getElem.1 hx
    have := hno i x hi (by rw [← e]; exact List.getElem?_eq_getElem _)
    simpa using this
  unfold valueL
  rw [hf]
  rfl
theorem num_1000 (l : List UInt8) : (numL l).getD 0 < 1000 := by
  cases h : numL l with
  | none => simp
  | some n => exact num_lt h
set_option maxRecDepth 100000 in
set_option maxHeartbeats 2000000 in
theorem rvalue_any (k : Nat) (s : ByteArray) (w : World) (hk : k < 5) (hs : s.size ≤ 1000) :
    Calls Tryz.prog 122 #[.int .i64 (k : Int), .string s] w fun e w' => e = .returned (some2 (valueL k s.data.toList)) ∧ Below w.heap.size w w' := by
  have HE := Lib.hid (fun W => rends_any k W hk)
  have HT := Lib.hid (show topK k = if k = 4 then 7 else hiK k from rfl)
  have HLH := Lib.hid (hi_bd k)
  have HU := Lib.hid (fun W => rupper_any s W hs)
  have HN := Lib.hid (fun W => rnumber_any s W (by unfold maxLen; omega))
  have h1000 := num_1000 s.data.toList
  unfold runV at HE
  obtain ⟨a, hae⟩ : ∃ a : Int, ((loK k : Nat) : Int) = a := ⟨_, rfl⟩
  obtain ⟨z, hze⟩ : ∃ a : Int, ((hiK k : Nat) : Int) = a := ⟨_, rfl⟩
  have HA := Lib.hid hae; have HZ := Lib.hid hze
  rw [hae, hze] at HE HLH
  have hb := HLH.out
  clear hae hze
  go_enter Tryz.func122, Tryz.ntmps122
  go_wp2_with fail
  refine (HE.out _).mono ?_
  rintro e w1 ⟨rfl, hb1⟩
  have HB1 := Lib.hid hb1
  clear hb1
  -- NAMES
  go_wp2_with fail
  have HB2 := Lib.hid (HB1.out.alloc HB1.out.size (.cells #[.int .i64 a, .int .i64 z] 177))
  have HX := Lib.hid (RunBox.new w1 a z)
  have hwg : w.heap.size ≤ w1.heap.size := HB1.out.size
  clear HB1
  generalize hgw : w1.alloc _ = w2 at *
  generalize w1.heap.size = g at *
  clear hgw
  refine (rnames_any k w2 hk).mono ?_
  rintro e w3 ⟨⟨A, n, c, rfl, hA⟩, hb⟩
  have HB3 := Lib.hid (HB2.out.trans (hb.mono HB2.out.size)); have HX3 := Lib.hid (HX.out.on hb); have HAr := Lib.hid hA
  have hn12 : n ≤ 12 := by rw [← hA.1]; exact (names_size k).1
  clear hb hA HX HB2
  go_wp2_with fail
  go_loopw [16] (fun i wr => ∃ j : Nat, j ≤ n ∧ i = .int .i64 (j : Int) ∧ Below w3.heap.size w3 wr ∧ ∀ (i : Nat) y, i < j → (namesK k)[i]? = some y → upL s.data.toList ≠ y) (fun i _ => n - (intOf i).toNat)
  case atStart => exact ⟨0, Nat.zero_le _, rfl, Below.refl _ _, fun i x h => by omega⟩
  case round =>
    obtain ⟨j, hj, rfl, hB, hno⟩ := hrel
    have HNO := Lib.hid hno; have HBr := Lib.hid hB; have HXr := Lib.hid (HX3.out.on hB); have HBw := Lib.hid (HB3.out.trans (hB.mono HB3.out.size))
    clear hno hB
    by_cases hlt : j < n
    · obtain ⟨x, hx⟩ : ∃ x, (namesK k)[j]? = some x := ⟨_, List.getElem?_eq_getElem (by rw [HAr.out.1]; exact hlt)⟩
      obtain ⟨b, off, rfl, hbl, hc⟩ := (HAr.out.below HBr.out).2 j x hx
      have HX' := Lib.hid hx
      clear hx
      unfold strV at hc
      go_wp2_with fail
      refine (HU.out wr).mono ?_
      rintro e w4 ⟨rfl, hb4⟩
      have HB4 := Lib.hid (HBr.out.trans (hb4.mono HBr.out.size)); have HB4w := Lib.hid (HBw.out.trans (hb4.mono HBw.out.size))
      obtain ⟨c0, c1, f0, f1⟩ := (HXr.out.on hb4).cells
      have hg4 := (HXr.out.on hb4).lt
      clear hb4 hc
      unfold strV
      by_cases he : upL s.data.toList = x
      · have HV := Lib.hid (vname_at HX'.out HNO.out he)
        rw [he]
        go_wp2_with fail
        go_ret2
        refine ⟨?_, HB4w.out⟩
        rw [HV.out]
        simp only [some2, Option.getD_some, Option.isSome_some]
        rw [show (((loK k + j : Nat)) : Int) = (loK k : Nat) + (j : Int) by omega, HA.out]; rfl
      · have hne : (upL s.data.toList == x) = false := by rw [beq_eq_false_iff_ne]; exact he
        have HN2 : Hid (∀ (i : Nat) y, i < j + 1 → (namesK k)[i]? = some y → upL s.data.toList ≠ y) := Lib.hid (by
          intro i y hi hy
          rcases Nat.lt_or_ge i j with h | h
          · exact HNO.out i y h hy
          · obtain rfl : i = j := by omega
            rw [HX'.out] at hy
            cases hy
            exact he)
        clear he c0 c1 f0 f1
        go_wp2_with fail
        go_roundw
        case rel => exact ⟨j + 1, hlt, by go_num, HB4.out, HN2.out⟩
        case measure => simp [intOf]; omega
    · obtain rfl : j = n := by omega
      have HVN := Lib.hid (vname_none (k := k) (s := s.data.toList) (fun i y hi hy => HNO.out i y (by rw [← HAr.out.1]; exact hi) hy))
      obtain ⟨c0, c1, f0, f1⟩ := HXr.out.cells
      have hgr := HXr.out.lt
      clear HNO
      by_cases h4 : k = 4
      · have e4 : ((k : Int) == 4) = true := by rw [h4]; rfl
        rw [if_pos h4] at HT
        clear h4
        cases hn : numL s.data.toList with
        | none =>
          have HV : Hid (valueL k s.data.toList = none) := Lib.hid (by rw [HVN.out, hn])
          rw [hn] at HN
          simp only [some2, Option.getD_none, Option.isSome_none] at HN
          clear hn HVN
          go_wp2_with fail
          refine (HN.out _).mono ?_
          rintro e w5 ⟨rfl, rfl⟩
          go_wp2_with fail
          go_ret2
          exact ⟨by rw [HV.out]; rfl, (HBw.out.setCell (p := ⟨g, 1, none⟩) hwg (.int .i64 7))⟩
        | some m =>
          rw [hn] at HN
          simp only [some2, Option.getD_some, Option.isSome_some] at HN
          rw [hn, Option.getD_some] at h1000
          by_cases h0 : a ≤ (m : Int)
          · by_cases h1 : (m : Int) ≤ 7
            · have HV : Hid (valueL k s.data.toList = some m) := Lib.hid (by
                rw [HVN.out, hn]
                show (if loK k ≤ m ∧ m ≤ topK k then some m else none) = some m
                rw [if_pos (by have := HT.out; have := HA.out; have := HZ.out; omega)])
              have d0 : decide ((m : Int) < a) = false := by simp; omega
              have d1 : decide (7 < (m : Int)) = false := by simp; omega
              clear hn HVN h0 h1
              go_wp2_with fail
              refine (HN.out _).mono ?_
              rintro e w5 ⟨rfl, rfl⟩
              go_wp2_with fail
              go_ret2
              exact ⟨by rw [HV.out]; rfl, (HBw.out.setCell (p := ⟨g, 1, none⟩) hwg (.int .i64 7))⟩
            · have HV : Hid (valueL k s.data.toList = none) := Lib.hid (by
                rw [HVN.out, hn]
                show (if loK k ≤ m ∧ m ≤ topK k then some m else none) = none
                rw [if_neg (by have := HT.out; have := HA.out; have := HZ.out; omega)])
              have d0 : decide ((m : Int) < a) = false := by simp; omega
              have d1 : decide (7 < (m : Int)) = true := by simp; omega
              clear hn HVN h0 h1
              go_wp2_with fail
              refine (HN.out _).mono ?_
              rintro e w5 ⟨rfl, rfl⟩
              go_wp2_with fail
              go_ret2
              exact ⟨by rw [HV.out]; rfl, (HBw.out.setCell (p := ⟨g, 1, none⟩) hwg (.int .i64 7))⟩
          · have HV : Hid (valueL k s.data.toList = none) := Lib.hid (by
              rw [HVN.out, hn]
              show (if loK k ≤ m ∧ m ≤ topK k then some m else none) = none
              rw [if_neg (by have := HA.out; omega)])
            have d0 : decide ((m : Int) < a) = true := by simp; omega
            clear hn HVN h0
            go_wp2_with fail
            refine (HN.out _).mono ?_
            rintro e w5 ⟨rfl, rfl⟩
            go_wp2_with fail
            go_ret2
            exact ⟨by rw [HV.out]; rfl, (HBw.out.setCell (p := ⟨g, 1, none⟩) hwg (.int .i64 7))⟩
      · have e4 : ((k : Int) == 4) = false := by simp; omega
        rw [if_neg h4] at HT
        clear h4
        cases hn : numL s.data.toList with
        | none =>
          have HV : Hid (valueL k s.data.toList = none) := Lib.hid (by rw [HVN.out, hn])
          rw [hn] at HN
          simp only [some2, Option.getD_none, Option.isSome_none] at HN
          clear hn HVN
          go_wp2_with fail
          refine (HN.out _).mono ?_
          rintro e w5 ⟨rfl, rfl⟩
          go_wp2_with fail
          go_ret2
          exact ⟨by rw [HV.out]; rfl, HBw.out⟩
        | some m =>
          rw [hn] at HN
          simp only [some2, Option.getD_some, Option.isSome_some] at HN
          rw [hn, Option.getD_some] at h1000
          by_cases h0 : a ≤ (m : Int)
          · by_cases h1 : (m : Int) ≤ z
            · have HV : Hid (valueL k s.data.toList = some m) := Lib.hid (by
                rw [HVN.out, hn]
                show (if loK k ≤ m ∧ m ≤ topK k then some m else none) = some m
                rw [if_pos (by have := HT.out; have := HA.out; have := HZ.out; omega)])
              have d0 : decide ((m : Int) < a) = false := by simp; omega
              have d1 : decide (z < (m : Int)) = false := by simp; omega
              clear hn HVN h0 h1
              go_wp2_with fail
              refine (HN.out _).mono ?_
              rintro e w5 ⟨rfl, rfl⟩
              go_wp2_with fail
              go_ret2
              exact ⟨by rw [HV.out]; rfl, HBw.out⟩
            · have HV : Hid (valueL k s.data.toList = none) := Lib.hid (by
                rw [HVN.out, hn]
                show (if loK k ≤ m ∧ m ≤ topK k then some m else none) = none
                rw [if_neg (by have := HT.out; have := HA.out; have := HZ.out; omega)])
              have d0 : decide ((m : Int) < a) = false := by simp; omega
              have d1 : decide (z < (m : Int)) = true := by simp; omega
              clear hn HVN h0 h1
              go_wp2_with fail
              refine (HN.out _).mono ?_
              rintro e w5 ⟨rfl, rfl⟩
              go_wp2_with fail
              go_ret2
              exact ⟨by rw [HV.out]; rfl, HBw.out⟩
          · have HV : Hid (valueL k s.data.toList = none) := Lib.hid (by
              rw [HVN.out, hn]
              show (if loK k ≤ m ∧ m ≤ topK k then some m else none) = none
              rw [if_neg (by have := HA.out; omega)])
            have d0 : decide ((m : Int) < a) = true := by simp; omega
            clear hn HVN h0
            go_wp2_with fail
            refine (HN.out _).mono ?_
            rintro e w5 ⟨rfl, rfl⟩
            go_wp2_with fail
            go_ret2
            exact ⟨by rw [HV.out]; rfl, HBw.out⟩
end Go.Proofs.YtbaobjbckabnhaaGreatDoor
