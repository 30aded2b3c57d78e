/- Sums of bytes, plain: eight steps, what is linear of them, and bits that are turned. -/
namespace Go.Proofs.Ytcfeijphiallfaa

/-- The number by which an odd one is turned. -/
def crcP : Nat := 2197175160
/-- One step. -/
def e1 (x : Nat) : Nat := if x % 2 = 1 then x / 2 ^^^ crcP else x / 2
/-- n steps. -/
def eN : Nat → Nat → Nat
  | 0, x => x
  | n + 1, x => eN n (e1 x)
theorem e1_xor (x y : Nat) : e1 (x ^^^ y) = e1 x ^^^ e1 y := by
  unfold e1
  rw [Nat.xor_div_two]
  rcases Nat.mod_two_eq_zero_or_one x with hx | hx <;> rcases Nat.mod_two_eq_zero_or_one y with hy | hy
  · rw [if_neg (by rw [Nat.xor_mod_two_eq_one]; omega), if_neg (by omega), if_neg (by omega)]
  · rw [if_pos (by rw [Nat.xor_mod_two_eq_one]; omega), if_neg (by omega), if_pos hy, Nat.xor_assoc]
  · rw [if_pos (by rw [Nat.xor_mod_two_eq_one]; omega), if_pos hx, if_neg (by omega), Nat.xor_assoc, Nat.xor_assoc, Nat.xor_comm (y / 2)]
  · rw [if_neg (by rw [Nat.xor_mod_two_eq_one]; omega), if_pos hx, if_pos hy]
    rw [Nat.xor_assoc, ← Nat.xor_assoc crcP, Nat.xor_comm crcP, Nat.xor_assoc (y / 2), Nat.xor_self, Nat.xor_zero]
theorem eN_xor (n x y : Nat) : eN n (x ^^^ y) = eN n x ^^^ eN n y := by
  induction n generalizing x y with
  | zero => rfl
  | succ n ih => unfold eN; rw [e1_xor, ih]
theorem eN_add (m n x : Nat) : eN (m + n) x = eN n (eN m x) := by
  induction m generalizing x with
  | zero => rw [Nat.zero_add]; rfl
  | succ m ih => rw [Nat.succ_add]; exact ih (e1 x)
theorem e1_even (x : Nat) : e1 (2 * x) = x := by unfold e1; rw [if_neg (by omega)]; omega
theorem eN_pow (n x : Nat) : eN n (2 ^ n * x) = x := by
  induction n generalizing x with
  | zero => show 2 ^ 0 * x = x; omega
  | succ n ih => unfold eN; rw [show 2 ^ (n + 1) * x = 2 * (2 ^ n * x) by rw [Nat.pow_succ, Nat.mul_assoc, Nat.mul_comm, Nat.mul_comm (2 ^ n), Nat.mul_assoc, Nat.mul_comm x], e1_even, ih]
theorem crcP_lt : crcP < 2 ^ 32 := by decide
theorem e1_lt {x : Nat} (h : x < 2 ^ 32) : e1 x < 2 ^ 32 := by
  unfold e1; split
  · exact Nat.xor_lt_two_pow (by omega) crcP_lt
  · omega
theorem eN_lt {n x : Nat} (h : x < 2 ^ 32) : eN n x < 2 ^ 32 := by
  induction n generalizing x with
  | zero => exact h
  | succ n ih => exact ih (e1_lt h)
theorem e1_zero {x : Nat} (h : x < 2 ^ 32) (h0 : e1 x = 0) : x = 0 := by
  unfold e1 at h0; split at h0
  · have : (x / 2 ^^^ crcP).testBit 31 = true := by
      rw [Nat.testBit_xor, Nat.testBit_lt_two_pow (show x / 2 < 2 ^ 31 by omega)]; decide
    rw [h0] at this; simp at this
  · omega
theorem eN_zero {n x : Nat} (h : x < 2 ^ 32) (h0 : eN n x = 0) : x = 0 := by
  induction n generalizing x with
  | zero => exact h0
  | succ n ih => exact e1_zero h (ih (e1_lt h) h0)
theorem eN_of_zero (n : Nat) : eN n 0 = 0 := by have := eN_pow n 0; rwa [Nat.mul_zero] at this
theorem xor_left_zero {a b : Nat} (h : a ^^^ b = a) : b = 0 := by
  have : a ^^^ (a ^^^ b) = a ^^^ a := by rw [h]
  rwa [← Nat.xor_assoc, Nat.xor_self, Nat.zero_xor] at this
theorem xor_eq_zero {a b : Nat} (h : a ^^^ b = 0) : a = b := by
  have : a ^^^ (a ^^^ b) = a ^^^ 0 := by rw [h]
  rw [← Nat.xor_assoc, Nat.xor_self, Nat.zero_xor, Nat.xor_zero] at this
  exact this.symm
theorem eN_inj {n x y : Nat} (hx : x < 2 ^ 32) (hy : y < 2 ^ 32) (h : eN n x = eN n y) : x = y :=
  xor_eq_zero (eN_zero (n := n) (Nat.xor_lt_two_pow hx hy) (by rw [eN_xor, h, Nat.xor_self]))

/-- A byte below others. -/
theorem add_xor {c : Nat} (h : c < 256) (y : Nat) : c + 256 * y = c ^^^ 256 * y := by
  apply Nat.eq_of_testBit_eq; intro i
  rw [Nat.add_comm, show (256 : Nat) = 2 ^ 8 from rfl, Nat.testBit_two_pow_mul_add _ (show c < 2 ^ 8 from h), Nat.testBit_xor, Nat.testBit_two_pow_mul]
  by_cases hi : i < 8
  · rw [if_pos hi]; simp [show ¬ 8 ≤ i by omega]
  · rw [if_neg hi, Nat.testBit_lt_two_pow (show c < 2 ^ i from Nat.lt_of_lt_of_le (show c < 2 ^ 8 from h) (show 2 ^ 8 ≤ 2 ^ i from Nat.pow_le_pow_right (by omega) (by omega)))]
    simp [show 8 ≤ i by omega]
/-- Bytes as a number, the lowest first. -/
def le : List Nat → Nat
  | [] => 0
  | c :: l => c + 256 * le l
/-- What bytes make of a state. -/
def raw (x : Nat) (l : List Nat) : Nat := l.foldl (fun x c => eN 8 (x ^^^ c)) x
theorem raw_nil (x : Nat) : raw x [] = x := rfl
theorem raw_cons (x c : Nat) (l : List Nat) : raw x (c :: l) = raw (eN 8 (x ^^^ c)) l := rfl
theorem raw_append (x : Nat) (a b : List Nat) : raw x (a ++ b) = raw (raw x a) b := by unfold raw; rw [List.foldl_append]
theorem raw_snoc (x c : Nat) (a : List Nat) : raw x (a ++ [c]) = eN 8 (raw x a ^^^ c) := by rw [raw_append]; rfl
theorem raw_lt {x : Nat} {l : List Nat} (hx : x < 2 ^ 32) (hl : ∀ c ∈ l, c < 256) : raw x l < 2 ^ 32 := by
  induction l generalizing x with
  | nil => exact hx
  | cons c l ih =>
    have hc := hl c (List.mem_cons_self ..)
    exact ih (eN_lt (Nat.xor_lt_two_pow hx (by omega))) (fun d hd => hl d (List.mem_cons_of_mem _ hd))
theorem raw_eq {x : Nat} {l : List Nat} (hl : ∀ c ∈ l, c < 256) : raw x l = eN (8 * l.length) (x ^^^ le l) := by
  induction l generalizing x with
  | nil => show x = x ^^^ 0; rw [Nat.xor_zero]
  | cons c l ih =>
    have hc := hl c (List.mem_cons_self ..)
    rw [raw_cons, ih (fun d hd => hl d (List.mem_cons_of_mem _ hd)), List.length_cons, show 8 * (l.length + 1) = 8 + 8 * l.length by omega, eN_add]
    rw [show le (c :: l) = c + 256 * le l from rfl, add_xor hc, ← Nat.xor_assoc, eN_xor 8 (x ^^^ c), show (256 : Nat) * le l = 2 ^ 8 * le l from rfl, eN_pow]
/-- What is told of bytes. -/
def sumOf (l : List Nat) : Nat := raw 4294967295 l ^^^ 4294967295
/-- What is told of bytes behind others. -/
def moreOf (s : Nat) (l : List Nat) : Nat := raw (s ^^^ 4294967295) l ^^^ 4294967295
theorem sumOf_lt {l : List Nat} (hl : ∀ c ∈ l, c < 256) : sumOf l < 4294967296 := Nat.xor_lt_two_pow (n := 32) (raw_lt (by decide) hl) (by decide)
theorem more_lt {s : Nat} {l : List Nat} (hs : s < 4294967296) (hl : ∀ c ∈ l, c < 256) : moreOf s l < 4294967296 :=
  Nat.xor_lt_two_pow (n := 32) (raw_lt (Nat.xor_lt_two_pow (n := 32) hs (by decide)) hl) (by decide)
theorem more_sum (a b : List Nat) : moreOf (sumOf a) b = sumOf (a ++ b) := by
  unfold moreOf sumOf; rw [Nat.xor_assoc, Nat.xor_self, Nat.xor_zero, raw_append]
theorem more_zero (b : List Nat) : moreOf 0 b = sumOf b := by unfold moreOf sumOf; rw [Nat.zero_xor]
theorem more_nil (s : Nat) : moreOf s [] = s := by unfold moreOf; rw [raw_nil, Nat.xor_assoc, Nat.xor_self, Nat.xor_zero]
/-- Three rows of one length, put together. -/
def xor3 : List Nat → List Nat → List Nat → List Nat
  | a :: l, b :: m, c :: n => (a ^^^ b ^^^ c) :: xor3 l m n
  | _, _, _ => []
theorem raw_xor3 {n : Nat} : ∀ {x y z : Nat} {a b c : List Nat}, a.length = n → b.length = n → c.length = n → raw (x ^^^ y ^^^ z) (xor3 a b c) = raw x a ^^^ raw y b ^^^ raw z c := by
  induction n with
  | zero =>
    intro x y z a b c ha hb hc
    rw [List.length_eq_zero_iff.1 ha, List.length_eq_zero_iff.1 hb, List.length_eq_zero_iff.1 hc]; rfl
  | succ n ih =>
    intro x y z a b c ha hb hc
    match a, b, c, ha, hb, hc with
    | p :: a, q :: b, r :: c, ha, hb, hc =>
      unfold xor3
      rw [raw_cons, raw_cons, raw_cons, raw_cons]
      have e : x ^^^ y ^^^ z ^^^ (p ^^^ q ^^^ r) = (x ^^^ p) ^^^ (y ^^^ q) ^^^ (z ^^^ r) := by
        ac_rfl
      rw [e, eN_xor, eN_xor]
      exact ih (by simpa using ha) (by simpa using hb) (by simpa using hc)

/-- A number below others' bits. -/
theorem low_xor {b i : Nat} (h : b < 2 ^ i) (a : Nat) : b + 2 ^ i * a = b ^^^ 2 ^ i * a := by
  apply Nat.eq_of_testBit_eq; intro j
  rw [Nat.add_comm, Nat.testBit_two_pow_mul_add _ h, Nat.testBit_xor, Nat.testBit_two_pow_mul]
  by_cases hj : j < i
  · rw [if_pos hj]; simp [show ¬ i ≤ j by omega]
  · rw [if_neg hj, Nat.testBit_lt_two_pow (show b < 2 ^ j from Nat.lt_of_lt_of_le h (Nat.pow_le_pow_right (by omega) (by omega)))]
    simp [show i ≤ j by omega]
theorem mul_xor (i a b : Nat) : 2 ^ i * (a ^^^ b) = 2 ^ i * a ^^^ 2 ^ i * b := by
  apply Nat.eq_of_testBit_eq; intro j
  rw [Nat.testBit_two_pow_mul, Nat.testBit_xor, Nat.testBit_xor, Nat.testBit_two_pow_mul, Nat.testBit_two_pow_mul]
  by_cases hj : j ≥ i <;> simp [hj]
theorem le_lt {l : List Nat} (hl : ∀ c ∈ l, c < 256) : le l < 2 ^ (8 * l.length) := by
  induction l with
  | nil => decide
  | cons c l ih =>
    have hc := hl c (List.mem_cons_self ..)
    have h := ih (fun d hd => hl d (List.mem_cons_of_mem _ hd))
    rw [List.length_cons, show 8 * (l.length + 1) = 8 * l.length + 8 by omega, Nat.pow_add]
    show c + 256 * le l < _
    omega
/-- A byte turned. -/
theorem le_set {l : List Nat} (hl : ∀ c ∈ l, c < 256) {i : Nat} (hi : i < l.length) {d : Nat} (hd : d < 256) : le (l.set i (l[i] ^^^ d)) = le l ^^^ 2 ^ (8 * i) * d := by
  induction l generalizing i with
  | nil => simp at hi
  | cons c l ih =>
    have hc := hl c (List.mem_cons_self ..)
    have hl' := fun e he => hl e (List.mem_cons_of_mem _ he)
    cases i with
    | zero =>
      rw [List.set_cons_zero]
      show (c ^^^ d) + 256 * le l = (c + 256 * le l) ^^^ _
      rw [add_xor (Nat.xor_lt_two_pow (n := 8) hc hd), add_xor hc, Nat.mul_zero, Nat.pow_zero, Nat.one_mul]
      ac_rfl
    | succ i =>
      have hi' : i < l.length := by simpa using hi
      rw [List.set_cons_succ]
      show c + 256 * le (l.set i (l[i] ^^^ d)) = (c + 256 * le l) ^^^ _
      rw [ih hl' hi', add_xor hc, add_xor hc, show (256 : Nat) = 2 ^ 8 from rfl, mul_xor, show 8 * (i + 1) = 8 + 8 * i by omega, Nat.pow_add, Nat.mul_assoc]
      ac_rfl
theorem set_bytes {l : List Nat} (hl : ∀ c ∈ l, c < 256) {i d : Nat} (hd : d < 256) : ∀ c ∈ l.set i d, c < 256 := fun c hc => by
  rcases List.mem_or_eq_of_mem_set hc with h | rfl
  · exact hl c h
  · exact hd
/-- Rows of one length of which the numbers are the same are the same. -/
theorem le_inj : ∀ {a b : List Nat}, (∀ c ∈ a, c < 256) → (∀ c ∈ b, c < 256) → a.length = b.length → le a = le b → a = b
  | [], [], _, _, _, _ => rfl
  | c :: a, d :: b, ha, hb, hn, h => by
    have hc := ha c (List.mem_cons_self ..)
    have hd := hb d (List.mem_cons_self ..)
    have h' : c + 256 * le a = d + 256 * le b := h
    have e : c = d := by omega
    have := le_inj (fun e he => ha e (List.mem_cons_of_mem _ he)) (fun e he => hb e (List.mem_cons_of_mem _ he)) (by simpa using hn) (show le a = le b by omega)
    rw [e, this]
/-- What is turned of bytes, turns what they make of a state. -/
theorem raw_turn {x B from' m : Nat} {l l' : List Nat} (hl : ∀ c ∈ l, c < 256) (hl' : ∀ c ∈ l', c < 256) (hn : l'.length = l.length) (hm : from' + m = 8 * l.length) (h : le l' = le l ^^^ 2 ^ from' * B) : raw x l' = raw x l ^^^ eN m B := by
  rw [raw_eq hl', raw_eq hl, hn, h, ← Nat.xor_assoc, eN_xor, ← hm, eN_add from' m (2 ^ from' * B), eN_pow]
theorem sum_turn {B from' m : Nat} {l l' : List Nat} (hl : ∀ c ∈ l, c < 256) (hl' : ∀ c ∈ l', c < 256) (hn : l'.length = l.length) (hm : from' + m = 8 * l.length) (h : le l' = le l ^^^ 2 ^ from' * B) (hB : B < 2 ^ 32) :
    sumOf l' = sumOf l ↔ B = 0 := by
  unfold sumOf
  rw [raw_turn hl hl' hn hm h]
  constructor
  · intro e
    have e2 : raw 4294967295 l ^^^ eN m B = raw 4294967295 l := by
      have := congrArg (· ^^^ 4294967295) e
      simpa [Nat.xor_assoc] using this
    exact eN_zero hB (xor_left_zero e2)
  · rintro rfl
    rw [eN_of_zero, Nat.xor_zero]
/-- A number's four bytes. -/
def le4 (x : Nat) : List Nat := [x % 256, x / 256 % 256, x / 65536 % 256, x / 16777216 % 256]
theorem le4_byte (x : Nat) : ∀ c ∈ le4 x, c < 256 := by unfold le4; intro c hc; simp at hc; omega
theorem le_le4 {x : Nat} (h : x < 4294967296) : le (le4 x) = x := by unfold le4 le le le le le; omega
theorem le_append (a b : List Nat) : le (a ++ b) = le a + 2 ^ (8 * a.length) * le b := by
  induction a with
  | nil => show le b = le [] + _; rw [show le [] = 0 from rfl]; simp
  | cons c a ih =>
    show c + 256 * le (a ++ b) = c + 256 * le a + _
    rw [ih, List.length_cons, show 8 * (a.length + 1) = 8 + 8 * a.length by omega, Nat.pow_add, Nat.mul_add, Nat.mul_assoc, Nat.add_assoc]
/-- Sealed bytes. -/
def sealOf (l : List Nat) : List Nat := l ++ le4 (sumOf l)
theorem seal_len (l : List Nat) : (sealOf l).length = l.length + 4 := by unfold sealOf; simp [le4]
theorem seal_byte {l : List Nat} (hl : ∀ c ∈ l, c < 256) : ∀ c ∈ sealOf l, c < 256 := fun c hc => by
  unfold sealOf at hc
  rcases List.mem_append.1 hc with h | h
  · exact hl c h
  · exact le4_byte _ c h
/-- What sealed bytes, and no others, come to. -/
theorem seal_iff {a t : List Nat} (ha : ∀ c ∈ a, c < 256) (ht : ∀ c ∈ t, c < 256) (h4 : t.length = 4) : raw 4294967295 (a ++ t) = eN 32 4294967295 ↔ t = le4 (sumOf a) := by
  have hle := le_lt ht
  rw [h4] at hle
  rw [raw_append, raw_eq ht, h4]
  have hr : raw 4294967295 a < 2 ^ 32 := raw_lt (by decide) ha
  constructor
  · intro h
    have e := eN_inj (Nat.xor_lt_two_pow hr hle) (by decide) h
    have e2 : le t = sumOf a := by
      unfold sumOf
      have := congrArg (raw 4294967295 a ^^^ ·) e
      simpa [← Nat.xor_assoc] using this
    exact le_inj ht (le4_byte _) (by rw [h4]; rfl) (by rw [le_le4 (sumOf_lt ha), e2])
  · rintro rfl
    rw [le_le4 (sumOf_lt ha)]
    unfold sumOf
    rw [← Nat.xor_assoc, Nat.xor_self, Nat.zero_xor]
/-- Which bytes are opened. -/
def opens (l : List Nat) : Prop := 4 ≤ l.length ∧ l.drop (l.length - 4) = le4 (sumOf (l.take (l.length - 4)))
theorem opens_iff {l : List Nat} (hl : ∀ c ∈ l, c < 256) (h4 : 4 ≤ l.length) : opens l ↔ raw 4294967295 l = eN 32 4294967295 := by
  have ha : ∀ c ∈ l.take (l.length - 4), c < 256 := fun c hc => hl c (List.mem_of_mem_take hc)
  have ht : ∀ c ∈ l.drop (l.length - 4), c < 256 := fun c hc => hl c (List.mem_of_mem_drop hc)
  have h := seal_iff ha ht (by simp; omega)
  rw [List.take_append_drop] at h
  unfold opens
  rw [h]
  exact ⟨fun h => h.2, fun h => ⟨h4, h⟩⟩
theorem opens_seal {l : List Nat} : opens (sealOf l) := by
  unfold opens
  rw [seal_len]
  have e : l.length + 4 - 4 = l.length := by omega
  refine ⟨by omega, ?_⟩
  rw [e]
  unfold sealOf
  rw [List.drop_left, List.take_left]
theorem opens_turn {B from' m : Nat} {l l' : List Nat} (hl : ∀ c ∈ l, c < 256) (hl' : ∀ c ∈ l', c < 256) (hn : l'.length = l.length) (hm : from' + m = 8 * l.length) (h : le l' = le l ^^^ 2 ^ from' * B) (hB : B < 2 ^ 32) (ho : opens l) :
    opens l' ↔ B = 0 := by
  have h4 := ho.1
  rw [opens_iff hl h4] at ho
  rw [opens_iff hl' (by omega), raw_turn hl hl' hn hm h, ho]
  constructor
  · intro e; exact eN_zero hB (xor_left_zero e)
  · rintro rfl; rw [eN_of_zero, Nat.xor_zero]
/-- What bits are turned by the first k of 32, of which m lie in the bytes. -/
def burst (bits m k : Nat) : Nat := bits % 2 ^ min k m
theorem burst_zero (bits m : Nat) : burst bits m 0 = 0 := by unfold burst; rw [Nat.zero_min, Nat.pow_zero, Nat.mod_one]
theorem burst_out {bits m k : Nat} (h : m ≤ k) : burst bits m (k + 1) = burst bits m k := by unfold burst; rw [Nat.min_eq_right h, Nat.min_eq_right (by omega)]
theorem burst_in {bits m k : Nat} (h : k < m) : burst bits m (k + 1) = burst bits m k + 2 ^ k * (bits / 2 ^ k % 2) := by
  unfold burst; rw [Nat.min_eq_left (by omega), Nat.min_eq_left (by omega), Nat.mod_pow_succ]
theorem burst_off {bits m k : Nat} (h : bits / 2 ^ k % 2 = 0) : burst bits m (k + 1) = burst bits m k := by
  by_cases hk : k < m
  · rw [burst_in hk, h]; omega
  · exact burst_out (by omega)
theorem burst_on {bits m k : Nat} (hk : k < m) (h : bits / 2 ^ k % 2 = 1) : burst bits m (k + 1) = burst bits m k ^^^ 2 ^ k := by
  rw [burst_in hk, h, low_xor _ 1, Nat.mul_one]
  unfold burst
  rw [Nat.min_eq_left (by omega)]
  exact Nat.mod_lt _ (Nat.two_pow_pos k)
theorem burst_on_ne {bits m k : Nat} (hk : k < m) (h : bits / 2 ^ k % 2 = 1) : burst bits m (k + 1) ≠ 0 := by
  rw [burst_in hk, h]; have := Nat.two_pow_pos k; omega
theorem burst_lt {bits m k : Nat} (hk : k ≤ 32) : burst bits m k < 2 ^ 32 := by
  unfold burst
  exact Nat.lt_of_lt_of_le (Nat.mod_lt _ (Nat.two_pow_pos _)) (Nat.pow_le_pow_right (by omega) (by omega))
/-- One bit more is turned. -/
theorem burst_step {l0 l : List Nat} {from' bits m k n : Nat} (hl : ∀ c ∈ l, c < 256) (hn : from' + k = n) (hin : n < 8 * l.length) (hm : from' + m = 8 * l.length) (hb : bits / 2 ^ k % 2 = 1)
    (h : le l = le l0 ^^^ 2 ^ from' * burst bits m k) (hi : n / 8 < l.length) : le (l.set (n / 8) (l[n / 8] ^^^ 2 ^ (n % 8))) = le l0 ^^^ 2 ^ from' * burst bits m (k + 1) := by
  have h8 : 2 ^ (n % 8) < 256 := by
    have : n % 8 < 8 := by omega
    exact Nat.lt_of_lt_of_le (Nat.pow_lt_pow_right (by omega) this) (by decide)
  rw [le_set hl hi h8, h, burst_on (by omega) hb, mul_xor, ← Nat.pow_add, ← Nat.pow_add, show 8 * (n / 8) + n % 8 = from' + k by omega, Nat.xor_assoc]
theorem eight_split (y : Nat) : eN 8 y = eN 8 (y % 256) ^^^ y / 256 := by
  have e : y = y % 256 ^^^ 256 * (y / 256) := by rw [← add_xor (by omega)]; omega
  have h := eN_pow 8 (y / 256)
  rw [show (2 : Nat) ^ 8 = 256 from rfl] at h
  have h2 := eN_xor 8 (y % 256) (256 * (y / 256))
  rw [← e, h] at h2
  exact h2
theorem xor_byte {x c : Nat} (h : c < 256) : (x ^^^ c) % 256 = x % 256 ^^^ c ∧ (x ^^^ c) / 256 = x / 256 := by
  have h1 := Nat.xor_mod_two_pow (a := x) (b := c) (n := 8)
  have h2 := Nat.xor_div_two_pow (a := x) (b := c) (n := 8)
  rw [show (2 : Nat) ^ 8 = 256 from rfl] at h1 h2
  rw [Nat.mod_eq_of_lt h] at h1
  rw [Nat.div_eq_of_lt h, Nat.xor_zero] at h2
  exact ⟨h1, h2⟩
theorem eight_byte {x c : Nat} (h : c < 256) : eN 8 (x ^^^ c) = eN 8 (x % 256 ^^^ c) ^^^ x / 256 := by
  rw [eight_split, (xor_byte h).1, (xor_byte h).2]
end Go.Proofs.Ytcfeijphiallfaa
