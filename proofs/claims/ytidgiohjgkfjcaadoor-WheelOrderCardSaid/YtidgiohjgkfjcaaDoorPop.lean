/- The sum of bits by halves: of no program. -/
import Derived.Test.YtidgiohjgkfjcaaDoorMath
namespace Go.Proofs.YtidgiohjgkfjcaaDoor
open Go

def val : List Nat → Nat
  | [] => 0
  | a :: l => a + 256 * val l
def Small (l : List Nat) : Prop := ∀ a ∈ l, a < 256
theorem and_split (a c q m : Nat) (ha : a < 256) (hc : c < 256) : (a + 256 * q) &&& (c + 256 * m) = (a &&& c) + 256 * (q &&& m) := by
  have h1 : a &&& c < 2 ^ 8 := Nat.and_lt_two_pow _ (by omega)
  apply Nat.eq_of_testBit_eq
  intro i
  rw [Nat.testBit_and, show a + 256 * q = 2 ^ 8 * q + a by omega, show c + 256 * m = 2 ^ 8 * m + c by omega, show (a &&& c) + 256 * (q &&& m) = 2 ^ 8 * (q &&& m) + (a &&& c) by omega,
    Nat.testBit_two_pow_mul_add _ (by omega), Nat.testBit_two_pow_mul_add _ (by omega), Nat.testBit_two_pow_mul_add _ h1]
  split <;> rw [Nat.testBit_and]

def f1 (b : Nat) : Nat := (b / 2 &&& 85) + (b &&& 85)
def f2 (b : Nat) : Nat := (b / 4 &&& 51) + (b &&& 51)
def f3 (b : Nat) : Nat := (b / 16 + b) &&& 15
def rep (c : Nat) (l : List Nat) : Nat := val (l.map fun _ => c)

theorem m1 : ∀ a : Fin 256, ∀ r : Fin 2, (a.val / 2 + 128 * r.val) &&& 85 = a.val / 2 &&& 85 := by decide +kernel
theorem m2 : ∀ a : Fin 256, ∀ r : Fin 4, (a.val / 4 + 64 * r.val) &&& 51 = a.val / 4 &&& 51 := by decide +kernel
theorem m3 : ∀ a : Fin 256, ∀ r : Fin 5, a.val % 16 ≤ 4 → a.val / 16 ≤ 4 → (a.val / 16 + 16 * r.val + a.val) &&& 15 = f3 a.val := by decide +kernel
theorem l1 : ∀ a : Fin 256, f1 a.val < 256 := by decide +kernel
theorem l2 : ∀ a : Fin 256, f2 (f1 a.val) < 256 ∧ f2 (f1 a.val) % 16 ≤ 4 ∧ f2 (f1 a.val) / 16 ≤ 4 := by decide +kernel

theorem s1 : ∀ l : List Nat, Small l → (val l / 2 &&& rep 85 l) + (val l &&& rep 85 l) = val (l.map f1)
  | [], _ => by simp [val, rep]
  | a :: l, h => by
    have ha : a < 256 := h a (by simp)
    have ih := s1 l (fun b hb => h b (by simp [hb]))
    show ((a + 256 * val l) / 2 &&& (85 + 256 * rep 85 l)) + ((a + 256 * val l) &&& (85 + 256 * rep 85 l)) = f1 a + 256 * val (l.map f1)
    rw [show (a + 256 * val l) / 2 = (a / 2 + 128 * (val l % 2)) + 256 * (val l / 2) by omega, and_split _ _ _ _ (by omega) (by omega), and_split _ _ _ _ ha (by omega), ← ih]
    have := m1 ⟨a, ha⟩ ⟨val l % 2, by omega⟩
    simp only at this
    rw [this]
    unfold f1
    omega
theorem s2 : ∀ l : List Nat, Small l → (val l / 4 &&& rep 51 l) + (val l &&& rep 51 l) = val (l.map f2)
  | [], _ => by simp [val, rep]
  | a :: l, h => by
    have ha : a < 256 := h a (by simp)
    have ih := s2 l (fun b hb => h b (by simp [hb]))
    show ((a + 256 * val l) / 4 &&& (51 + 256 * rep 51 l)) + ((a + 256 * val l) &&& (51 + 256 * rep 51 l)) = f2 a + 256 * val (l.map f2)
    rw [show (a + 256 * val l) / 4 = (a / 4 + 64 * (val l % 4)) + 256 * (val l / 4) by omega, and_split _ _ _ _ (by omega) (by omega), and_split _ _ _ _ ha (by omega), ← ih]
    have := m2 ⟨a, ha⟩ ⟨val l % 4, by omega⟩
    simp only at this
    rw [this]
    unfold f2
    omega
def Nib (l : List Nat) : Prop := ∀ a ∈ l, a < 256 ∧ a % 16 ≤ 4 ∧ a / 16 ≤ 4
theorem head_nib : ∀ l, Nib l → val l % 16 ≤ 4
  | [], _ => by simp [val]
  | a :: l, h => by have := h a (by simp); unfold val; omega
theorem s3 : ∀ l : List Nat, Nib l → (val l / 16 + val l) &&& rep 15 l = val (l.map f3)
  | [], _ => by simp [val, rep]
  | a :: l, h => by
    obtain ⟨ha, ha1, ha2⟩ := h a (by simp)
    have hl : Nib l := fun b hb => h b (by simp [hb])
    have ih := s3 l hl
    have hn := head_nib l hl
    show ((a + 256 * val l) / 16 + (a + 256 * val l)) &&& (15 + 256 * rep 15 l) = f3 a + 256 * val (l.map f3)
    rw [show (a + 256 * val l) / 16 + (a + 256 * val l) = (a / 16 + 16 * (val l % 16) + a) + 256 * (val l / 16 + val l) by omega, and_split _ _ _ _ (by omega) (by omega), ih]
    have := m3 ⟨a, ha⟩ ⟨val l % 16, by omega⟩ ha1 ha2
    simp only at this
    rw [this]

def cnt8 (b : Nat) : Nat := (List.range 8).countP b.testBit
theorem f_cnt : ∀ a : Fin 256, f3 (f2 (f1 a.val)) = cnt8 a.val ∧ cnt8 a.val ≤ 8 := by decide +kernel

theorem cnt_at (x : BitVec 64) (k : Nat) : (List.range' (8 * k) 8).countP x.getLsbD = cnt8 (x.toNat / 2 ^ (8 * k) % 256) := by
  unfold cnt8
  rw [List.range'_eq_map_range, List.countP_map]
  apply List.countP_congr
  intro i hi
  simp at hi
  simp only [Function.comp, BitVec.getLsbD]
  rw [show (256 : Nat) = 2 ^ 8 from rfl, Nat.testBit_mod_two_pow, Nat.testBit_div_two_pow, Nat.add_comm i]
  simp [hi]
theorem pop_bytes (x : BitVec 64) : pop x = cnt8 (x.toNat % 256) + cnt8 (x.toNat / 2 ^ 8 % 256) + cnt8 (x.toNat / 2 ^ 16 % 256) + cnt8 (x.toNat / 2 ^ 24 % 256) + cnt8 (x.toNat / 2 ^ 32 % 256) + cnt8 (x.toNat / 2 ^ 40 % 256) + cnt8 (x.toNat / 2 ^ 48 % 256) + cnt8 (x.toNat / 2 ^ 56 % 256) := by
  unfold pop
  have e : List.range 64 = List.range' (8 * 0) 8 ++ (List.range' (8 * 1) 8 ++ (List.range' (8 * 2) 8 ++ (List.range' (8 * 3) 8 ++ (List.range' (8 * 4) 8 ++ (List.range' (8 * 5) 8 ++ (List.range' (8 * 6) 8 ++ List.range' (8 * 7) 8)))))) := by decide
  rw [e]
  simp only [List.countP_append, cnt_at]
  simp
  omega

/-- The bytes of a word. -/
def bytesOf (x : BitVec 64) : List Nat := [x.toNat % 256, x.toNat / 2 ^ 8 % 256, x.toNat / 2 ^ 16 % 256, x.toNat / 2 ^ 24 % 256, x.toNat / 2 ^ 32 % 256, x.toNat / 2 ^ 40 % 256, x.toNat / 2 ^ 48 % 256, x.toNat / 2 ^ 56 % 256]
theorem val_bytes (x : BitVec 64) : val (bytesOf x) = x.toNat := by
  have := x.isLt
  simp only [bytesOf, val]
  omega
theorem small_bytes (x : BitVec 64) : Small (bytesOf x) := by
  intro a h
  simp [bytesOf] at h
  omega
theorem small_map {l : List Nat} (f : Nat → Nat) (hf : ∀ a : Fin 256, f a.val < 256) (h : Small l) : Small (l.map f) := by
  intro a ha
  simp at ha
  obtain ⟨b, hb, rfl⟩ := ha
  exact hf ⟨b, h b hb⟩
theorem val_lt : ∀ l : List Nat, Small l → val l < 256 ^ l.length
  | [], _ => by simp [val]
  | a :: l, h => by
    have h1 := h a (by simp)
    have h2 := val_lt l (fun b hb => h b (by simp [hb]))
    rw [List.length_cons, Nat.pow_succ]
    show a + 256 * val l < _
    omega
theorem val_small8 (l : List Nat) (h8 : l.length = 8) (h : Small l) : val l < 18446744073709551616 := by
  have := val_lt l h
  rw [h8] at this
  simpa using this
theorem div8 (a q : Nat) (h : a < 256) : (a + 256 * q) / 256 = q := by omega
theorem div16 (a q : Nat) (h : a < 65536) : (a + 65536 * q) / 65536 = q := by omega
theorem div32 (a q : Nat) (h : a < 4294967296) : (a + 4294967296 * q) / 4294967296 = q := by omega
section
variable (a b c d e f g h : Nat)
def w3 : Nat := a + 256 * (b + 256 * (c + 256 * (d + 256 * (e + 256 * (f + 256 * (g + 256 * h))))))
def w4 : Nat := (a + b + 256 * (b + c)) + 65536 * (c + d + 256 * (d + e + 256 * (e + f + 256 * (f + g + 256 * (g + h + 256 * h)))))
def w5 : Nat := (a + b + c + d + 256 * (b + c + d + e) + 65536 * (c + d + e + f) + 16777216 * (d + e + f + g)) + 4294967296 * (e + f + g + h + 256 * (f + g + h + 256 * (g + h + 256 * h)))
def w6 : Nat := (a + b + c + d + e + f + g + h) + 128 * (2 * (b + c + d + e + f + g + h) + 512 * (c + d + e + f + g + h) + 131072 * (d + e + f + g + h) + 33554432 * (e + f + g + h + 256 * (f + g + h + 256 * (g + h + 256 * h))))
theorem w34 (ha : a ≤ 8) : w4 a b c d e f g h = w3 a b c d e f g h + w3 a b c d e f g h / 256 := by
  have q : w3 a b c d e f g h / 256 = b + 256 * (c + 256 * (d + 256 * (e + 256 * (f + 256 * (g + 256 * h))))) := div8 _ _ (by omega)
  rw [q]; unfold w3 w4; clear q; omega
theorem w45 (ha : a ≤ 8) (hb : b ≤ 8) (hc : c ≤ 8) : w5 a b c d e f g h = w4 a b c d e f g h + w4 a b c d e f g h / 65536 := by
  have q : w4 a b c d e f g h / 65536 = c + d + 256 * (d + e + 256 * (e + f + 256 * (f + g + 256 * (g + h + 256 * h)))) := div16 _ _ (by omega)
  rw [q]; unfold w4 w5; clear q; omega
theorem w56 (ha : a ≤ 8) (hb : b ≤ 8) (hc : c ≤ 8) (hd : d ≤ 8) (he : e ≤ 8) (hf : f ≤ 8) (hg : g ≤ 8) : w6 a b c d e f g h = w5 a b c d e f g h + w5 a b c d e f g h / 4294967296 := by
  have q : w5 a b c d e f g h / 4294967296 = e + f + g + h + 256 * (f + g + h + 256 * (g + h + 256 * h)) := div32 _ _ (by omega)
  rw [q]; unfold w5 w6; clear q; omega
theorem wlt (ha : a ≤ 8) (hb : b ≤ 8) (hc : c ≤ 8) (hd : d ≤ 8) (he : e ≤ 8) (hf : f ≤ 8) (hg : g ≤ 8) (hh : h ≤ 8) :
    w3 a b c d e f g h < 18446744073709551616 ∧ w4 a b c d e f g h < 18446744073709551616 ∧ w5 a b c d e f g h < 18446744073709551616 ∧ w6 a b c d e f g h < 18446744073709551616 := by
  unfold w3 w4 w5 w6
  refine ⟨by omega, by omega, by omega, by omega⟩
theorem wmod (ha : a ≤ 8) (hb : b ≤ 8) (hc : c ≤ 8) (hd : d ≤ 8) (he : e ≤ 8) (hf : f ≤ 8) (hg : g ≤ 8) (hh : h ≤ 8) : w6 a b c d e f g h % 128 = a + b + c + d + e + f + g + h := by
  unfold w6
  rw [Nat.add_mul_mod_self_left]
  omega
/-- The four sums behind the third step, of eight counts. -/
theorem tail8 (ha : a ≤ 8) (hb : b ≤ 8) (hc : c ≤ 8) (hd : d ≤ 8) (he : e ≤ 8) (hf : f ≤ 8) (hg : g ≤ 8) (hh : h ≤ 8) :
    ∃ y3 y4 y5 y6 : Nat, y3 = val [a, b, c, d, e, f, g, h] ∧ y4 = y3 + y3 / 256 ∧ y5 = y4 + y4 / 65536 ∧ y6 = y5 + y5 / 4294967296 ∧ y3 < 18446744073709551616 ∧ y4 < 18446744073709551616 ∧ y5 < 18446744073709551616 ∧ y6 < 18446744073709551616 ∧ y6 % 128 = a + b + c + d + e + f + g + h := by
  obtain ⟨l3, l4, l5, l6⟩ := wlt a b c d e f g h ha hb hc hd he hf hg hh
  refine ⟨w3 a b c d e f g h, w4 a b c d e f g h, w5 a b c d e f g h, w6 a b c d e f g h, ?_, w34 _ _ _ _ _ _ _ _ ha, w45 _ _ _ _ _ _ _ _ ha hb hc, w56 _ _ _ _ _ _ _ _ ha hb hc hd he hf hg, l3, l4, l5, l6, wmod _ _ _ _ _ _ _ _ ha hb hc hd he hf hg hh⟩
  unfold w3
  simp only [val, Nat.mul_zero, Nat.add_zero]
end
theorem swar (x : BitVec 64) : ∃ y1 y2 y3 y4 y5 y6 : Nat,
    y1 = (x.toNat / 2 &&& 6148914691236517205) + (x.toNat &&& 6148914691236517205) ∧ y1 < 18446744073709551616 ∧
    y2 = (y1 / 4 &&& 3689348814741910323) + (y1 &&& 3689348814741910323) ∧ y2 < 18446744073709551616 ∧
    y2 / 16 + y2 < 18446744073709551616 ∧ y3 = (y2 / 16 + y2) &&& 1085102592571150095 ∧
    y4 = y3 + y3 / 256 ∧ y5 = y4 + y4 / 65536 ∧ y6 = y5 + y5 / 4294967296 ∧ y3 < 18446744073709551616 ∧ y4 < 18446744073709551616 ∧ y5 < 18446744073709551616 ∧ y6 < 18446744073709551616 ∧ y6 % 128 = pop x := by
  have hs := small_bytes x
  have e1 := s1 _ hs
  have hs1 := small_map f1 l1 hs
  have e2 := s2 _ hs1
  have hn : Nib (((bytesOf x).map f1).map f2) := by
    intro a ha
    simp at ha
    obtain ⟨b, hb, rfl⟩ := ha
    exact l2 ⟨b, hs b hb⟩
  have hs2 : Small (((bytesOf x).map f1).map f2) := fun a ha => (hn a ha).1
  have e3 := s3 _ hn
  rw [val_bytes] at e1
  have c1 : rep 85 (bytesOf x) = 6148914691236517205 := by simp [rep, bytesOf, val]
  have c2 : rep 51 ((bytesOf x).map f1) = 3689348814741910323 := by simp [rep, bytesOf, val]
  have c3 : rep 15 (((bytesOf x).map f1).map f2) = 1085102592571150095 := by simp [rep, bytesOf, val]
  rw [c1] at e1
  rw [c2] at e2
  rw [c3] at e3
  have b1 := val_small8 _ (by simp [bytesOf]) hs1
  have b2 := val_small8 _ (by simp [bytesOf]) hs2
  have b3 : val (((bytesOf x).map f1).map f2) / 16 + val (((bytesOf x).map f1).map f2) < 18446744073709551616 := by
    have h7 := (hn (f2 (f1 (x.toNat / 2 ^ 56 % 256))) (by simp [bytesOf]))
    have h0 := (hn (f2 (f1 (x.toNat % 256))) (by simp [bytesOf]))
    have h1 := (hn (f2 (f1 (x.toNat / 2 ^ 8 % 256))) (by simp [bytesOf]))
    have h2 := (hn (f2 (f1 (x.toNat / 2 ^ 16 % 256))) (by simp [bytesOf]))
    have h3 := (hn (f2 (f1 (x.toNat / 2 ^ 24 % 256))) (by simp [bytesOf]))
    have h4 := (hn (f2 (f1 (x.toNat / 2 ^ 32 % 256))) (by simp [bytesOf]))
    have h5 := (hn (f2 (f1 (x.toNat / 2 ^ 40 % 256))) (by simp [bytesOf]))
    have h6 := (hn (f2 (f1 (x.toNat / 2 ^ 48 % 256))) (by simp [bytesOf]))
    simp only [bytesOf, List.map, val]
    omega
  have hc : ∀ k, k < 256 → f3 (f2 (f1 k)) = cnt8 k ∧ cnt8 k ≤ 8 := fun k hk => f_cnt ⟨k, hk⟩
  have em : (((bytesOf x).map f1).map f2).map f3 = (bytesOf x).map cnt8 := by
    rw [List.map_map, List.map_map]
    exact List.map_congr_left fun a ha => (hc a (hs a ha)).1
  rw [em] at e3
  obtain ⟨y3, y4, y5, y6, r3, r4, r5, r6, q3, q4, q5, q6, q⟩ := tail8 _ _ _ _ _ _ _ _ (hc _ (hs (x.toNat % 256) (by simp [bytesOf]))).2 (hc _ (hs (x.toNat / 2 ^ 8 % 256) (by simp [bytesOf]))).2 (hc _ (hs (x.toNat / 2 ^ 16 % 256) (by simp [bytesOf]))).2 (hc _ (hs (x.toNat / 2 ^ 24 % 256) (by simp [bytesOf]))).2 (hc _ (hs (x.toNat / 2 ^ 32 % 256) (by simp [bytesOf]))).2 (hc _ (hs (x.toNat / 2 ^ 40 % 256) (by simp [bytesOf]))).2 (hc _ (hs (x.toNat / 2 ^ 48 % 256) (by simp [bytesOf]))).2 (hc _ (hs (x.toNat / 2 ^ 56 % 256) (by simp [bytesOf]))).2
  have e3' : (val (((bytesOf x).map f1).map f2) / 16 + val (((bytesOf x).map f1).map f2)) &&& 1085102592571150095 = y3 := by rw [e3, r3]; rfl
  refine ⟨_, _, y3, y4, y5, y6, e1.symm, b1, e2.symm, b2, b3, e3'.symm, r4, r5, r6, q3, q4, q5, q6, ?_⟩
  rw [q, pop_bytes]
end Go.Proofs.YtidgiohjgkfjcaaDoor
