/- Mathematics of no program: the sum CRC-32C over natural numbers: its step is linear and loses nothing, a table of 256 numbers does eight steps, and a burst of at most 32 bits never comes to 0. -/
import Derived.Handy
import Derived.Test.YtmholhjdpkfleaaDoorQBase
namespace Go.Proofs.YtmholhjdpkfleaaDoor
set_option linter.unusedSimpArgs false
set_option linter.unusedVariables false
set_option maxRecDepth 100000

def poly : Nat := 0x82F63B78
/-- one step: halved, and turned by the number if it was odd -/
def st (x : Nat) : Nat := (x / 2) ^^^ (if x % 2 = 1 then poly else 0)
def sts : Nat → Nat → Nat
  | 0, x => x
  | k + 1, x => sts k (st x)
theorem sts_succ (k x : Nat) : sts (k + 1) x = st (sts k x) := by
  induction k generalizing x with
  | zero => rfl
  | succ k ih => exact ih (st x)
theorem sts_add (j k x : Nat) : sts (j + k) x = sts k (sts j x) := by
  induction k with
  | zero => rfl
  | succ k ih => rw [← Nat.add_assoc, sts_succ, ih, sts_succ]

theorem xor_half (x y : Nat) : (x ^^^ y) / 2 = (x / 2) ^^^ (y / 2) := by
  apply Nat.eq_of_testBit_eq
  intro i
  simp [Nat.testBit_div_two, Nat.testBit_xor]
theorem odd_bit (x : Nat) : (x % 2 = 1) = (x.testBit 0 = true) := by simp [Nat.testBit_zero]
theorem st_xor (x y : Nat) : st (x ^^^ y) = st x ^^^ st y := by
  unfold st
  rw [xor_half]
  simp only [odd_bit, Nat.testBit_xor]
  apply Nat.eq_of_testBit_eq
  intro i
  cases hx : x.testBit 0 <;> cases hy : y.testBit 0 <;> simp [Nat.testBit_xor] <;> cases (x / 2).testBit i <;> cases (y / 2).testBit i <;> cases poly.testBit i <;> rfl
theorem st_0 : st 0 = 0 := rfl
theorem sts_xor (k x y : Nat) : sts k (x ^^^ y) = sts k x ^^^ sts k y := by
  induction k generalizing x y with
  | zero => rfl
  | succ k ih => simp only [sts, st_xor, ih]
theorem sts_0 (k : Nat) : sts k 0 = 0 := by
  induction k with
  | zero => rfl
  | succ k ih => simpa [sts, st_0] using ih
theorem st_lt {x : Nat} (h : x < 4294967296) : st x < 4294967296 := by
  unfold st
  refine Nat.xor_lt_two_pow (n := 32) (by omega) ?_
  split <;> simp [poly]
theorem sts_lt (k : Nat) {x : Nat} (h : x < 4294967296) : sts k x < 4294967296 := by
  induction k generalizing x with
  | zero => exact h
  | succ k ih => exact ih (st_lt h)
theorem xor_zero {x y : Nat} (h : x ^^^ y = 0) : x = y := by
  apply Nat.eq_of_testBit_eq
  intro i
  have := congrArg (fun n => Nat.testBit n i) h
  simpa [Nat.testBit_xor] using this
theorem st_zero {x : Nat} (h : x < 4294967296) (e : st x = 0) : x = 0 := by
  unfold st at e
  have := xor_zero e
  split at this
  · unfold poly at this; omega
  · omega
theorem sts_zero (k : Nat) {x : Nat} (h : x < 4294967296) (e : sts k x = 0) : x = 0 := by
  induction k generalizing x with
  | zero => exact e
  | succ k ih => exact st_zero h (ih (st_lt h) e)
theorem sts_inj (k : Nat) {x y : Nat} (hx : x < 4294967296) (hy : y < 4294967296) (e : sts k x = sts k y) : x = y := by
  apply xor_zero
  apply sts_zero k (Nat.xor_lt_two_pow (n := 32) hx hy)
  rw [sts_xor, e, Nat.xor_self]

/-! ### A table of 256 numbers does eight steps -/
theorem st_even (z : Nat) : st (2 * z) = z := by
  unfold st
  rw [if_neg (by omega), Nat.xor_zero]
  omega
theorem sts_even (k z : Nat) : sts k (2 ^ k * z) = z := by
  induction k with
  | zero => simp [sts]
  | succ k ih => rw [sts, Nat.pow_succ, Nat.mul_comm (2 ^ k) 2, Nat.mul_assoc, st_even, ih]
theorem split8 (x : Nat) : x = (x % 256) ^^^ (256 * (x / 256)) := by
  apply Nat.eq_of_testBit_eq
  intro i
  have e1 : x % 256 = x % 2 ^ 8 := rfl
  have e2 : 256 * (x / 256) = (x / 2 ^ 8) * 2 ^ 8 := by rw [Nat.mul_comm]
  rw [Nat.testBit_xor, e1, e2, Nat.testBit_mod_two_pow, Nat.testBit_mul_two_pow, Nat.testBit_div_two_pow]
  by_cases h : i < 8
  · have : ¬ 8 ≤ i := by omega
    simp [h, this]
  · have h8 : 8 ≤ i := by omega
    have e : i - 8 + 8 = i := by omega
    simp [h, h8, e]
/-- eight steps by the table's place x % 256 -/
theorem sts8 (x : Nat) : sts 8 x = sts 8 (x % 256) ^^^ (x / 256) := by
  have h := sts_xor 8 (x % 256) (256 * (x / 256))
  rw [← split8] at h
  rw [h]
  congr 1
  exact sts_even 8 (x / 256)

/-! ### Sums of bytes -/
def byteSt (x : Nat) (b : UInt8) : Nat := sts 8 (x ^^^ b.toNat)
def runC (x : Nat) (l : List UInt8) : Nat := l.foldl byteSt x
def extC (sum : Nat) (l : List UInt8) : Nat := (runC (sum ^^^ 4294967295) l) ^^^ 4294967295
theorem runC_nil (x : Nat) : runC x [] = x := rfl
theorem runC_cons (x : Nat) (b : UInt8) (l : List UInt8) : runC x (b :: l) = runC (byteSt x b) l := rfl
theorem runC_append (x : Nat) (l m : List UInt8) : runC x (l ++ m) = runC (runC x l) m := List.foldl_append
theorem byte_lt (b : UInt8) : b.toNat < 4294967296 := by have := b.toNat_lt; omega
theorem byteSt_lt {x : Nat} (h : x < 4294967296) (b : UInt8) : byteSt x b < 4294967296 := sts_lt 8 (Nat.xor_lt_two_pow (n := 32) h (byte_lt b))
theorem runC_lt {x : Nat} (h : x < 4294967296) (l : List UInt8) : runC x l < 4294967296 := by
  induction l generalizing x with
  | nil => exact h
  | cons b l ih => exact ih (byteSt_lt h b)
theorem not_lt {x : Nat} (h : x < 4294967296) : x ^^^ 4294967295 < 4294967296 := Nat.xor_lt_two_pow (n := 32) h (by omega)
theorem extC_lt {s : Nat} (h : s < 4294967296) (l : List UInt8) : extC s l < 4294967296 := not_lt (runC_lt (not_lt h) l)
theorem xor_xor (x k : Nat) : (x ^^^ k) ^^^ k = x := by rw [Nat.xor_assoc, Nat.xor_self, Nat.xor_zero]
/-- bytes may be summed in parts -/
theorem extC_append (s : Nat) (l m : List UInt8) : extC s (l ++ m) = extC (extC s l) m := by
  unfold extC
  rw [runC_append, xor_xor]
theorem xor_right {x y k : Nat} (h : x ^^^ k = y ^^^ k) : x = y := by
  have := congrArg (fun z => z ^^^ k) h
  simpa only [xor_xor] using this
theorem byteSt_inj {x y : Nat} (hx : x < 4294967296) (hy : y < 4294967296) (b : UInt8) (e : byteSt x b = byteSt y b) : x = y :=
  xor_right (sts_inj 8 (Nat.xor_lt_two_pow (n := 32) hx (byte_lt b)) (Nat.xor_lt_two_pow (n := 32) hy (byte_lt b)) e)
theorem runC_inj {x y : Nat} (hx : x < 4294967296) (hy : y < 4294967296) (l : List UInt8) (e : runC x l = runC y l) : x = y := by
  induction l generalizing x y with
  | nil => exact e
  | cons b l ih => exact byteSt_inj hx hy b (ih (byteSt_lt hx b) (byteSt_lt hy b) e)
/-- from two unlike sums on the same bytes come to unlike sums -/
theorem extC_inj {x y : Nat} (hx : x < 4294967296) (hy : y < 4294967296) (l : List UInt8) : extC x l = extC y l ↔ x = y :=
  ⟨fun e => xor_right (runC_inj (not_lt hx) (not_lt hy) l (xor_right e)), fun e => by rw [e]⟩

/-! ### Three texts, put together -/
theorem xor3 (a b c d e f : Nat) : (a ^^^ b ^^^ c) ^^^ (d ^^^ e ^^^ f) = (a ^^^ d) ^^^ (b ^^^ e) ^^^ (c ^^^ f) := by
  apply Nat.eq_of_testBit_eq
  intro i
  simp only [Nat.testBit_xor]
  cases a.testBit i <;> cases b.testBit i <;> cases c.testBit i <;> cases d.testBit i <;> cases e.testBit i <;> cases f.testBit i <;> rfl
def xor3L : List UInt8 → List UInt8 → List UInt8 → List UInt8
  | a :: l, b :: m, c :: n => (a ^^^ b ^^^ c) :: xor3L l m n
  | _, _, _ => []
theorem runC_three (l m n : List UInt8) (h1 : l.length = m.length) (h2 : m.length = n.length) (x y z : Nat) :
    runC (x ^^^ y ^^^ z) (xor3L l m n) = runC x l ^^^ runC y m ^^^ runC z n := by
  induction l generalizing m n x y z with
  | nil =>
    cases m with
    | nil => cases n with
      | nil => rfl
      | cons => simp at h2
    | cons => simp at h1
  | cons a l ih =>
    cases m with
    | nil => simp at h1
    | cons b m => cases n with
      | nil => simp at h2
      | cons c n =>
        simp only [xor3L, runC_cons]
        rw [← ih m n (by simpa using h1) (by simpa using h2)]
        congr 1
        unfold byteSt
        rw [← sts_xor, ← sts_xor, UInt8.toNat_xor, UInt8.toNat_xor, xor3]
theorem extC_three (l m n : List UInt8) (h1 : l.length = m.length) (h2 : m.length = n.length) :
    extC 0 (xor3L l m n) = extC 0 l ^^^ extC 0 m ^^^ extC 0 n := by
  unfold extC
  have e : (0 ^^^ 4294967295 : Nat) = (4294967295 ^^^ 4294967295 ^^^ 4294967295) := by decide
  have h := runC_three l m n h1 h2 4294967295 4294967295 4294967295
  have e0 : (0 ^^^ 4294967295 : Nat) = 4294967295 := by decide
  have e3 : (4294967295 ^^^ 4294967295 ^^^ 4294967295 : Nat) = 4294967295 := by decide
  rw [e3] at h
  rw [e0, h]
  generalize runC 4294967295 l = p
  generalize runC 4294967295 m = q
  generalize runC 4294967295 n = r
  rw [← xor3, e3]
end Go.Proofs.YtmholhjdpkfleaaDoor
/- Mathematics of no program: a text with its CRC-32C behind it has one sum; a burst of at most 32 bits turns the sum, and is told in a text with its sum behind it. -/
namespace Go.Proofs.YtmholhjdpkfleaaDoor
set_option linter.unusedSimpArgs false
set_option linter.unusedVariables false
set_option maxRecDepth 100000

/-! ### A text with its sum behind it -/
theorem mod_step (y k : Nat) : (y % 256 ^ (k + 1)) % 256 = y % 256 ∧ (y % 256 ^ (k + 1)) / 256 = y / 256 % 256 ^ k := by
  have e : 256 ^ (k + 1) = 256 * 256 ^ k := by rw [Nat.pow_succ, Nat.mul_comm]
  rw [e]
  exact ⟨Nat.mod_mul_right_mod _ _ _, Nat.mod_mul_right_div_self _ _ _⟩
theorem runC_nb (k x y : Nat) : runC x (nb k y) = sts (8 * k) (x ^^^ (y % 256 ^ k)) := by
  induction k generalizing x y with
  | zero => simp [nb, runC, sts, Nat.mod_one]
  | succ k ih =>
    have e : nb (k + 1) y = UInt8.ofNat (y % 256) :: nb k (y / 256) := rfl
    have e8 : (UInt8.ofNat (y % 256)).toNat = y % 256 := by simp
    rw [e, runC_cons, ih, byteSt, e8]
    have h := split8 (y % 256 ^ (k + 1))
    rw [(mod_step y k).1, (mod_step y k).2] at h
    have h2 : y / 256 % 256 ^ k = sts 8 (256 * (y / 256 % 256 ^ k)) := (sts_even 8 _).symm
    rw [h2, ← sts_xor, ← sts_add, Nat.xor_assoc, ← h]
    congr 1
    omega
theorem sum_rest {x : Nat} (hx : x < 4294967296) : runC x (nb 4 (x ^^^ 4294967295)) = sts 32 4294967295 := by
  rw [runC_nb, Nat.mod_eq_of_lt (not_lt hx), ← Nat.xor_assoc, Nat.xor_self, Nat.zero_xor]
theorem extC_rest (l : List UInt8) : extC 0 (l ++ nb 4 (extC 0 l)) = 0x48674bc7 := by
  have e0 : (0 ^^^ 4294967295 : Nat) = 4294967295 := by decide
  unfold extC
  rw [e0, runC_append, sum_rest (runC_lt (by omega) l)]
  decide

/-! ### Bit by bit -/
def bitAt (l : List UInt8) (j : Nat) : Bool := (l.getD (j / 8) 0).toNat.testBit (j % 8)
def runB (f : Nat → Bool) (x : Nat) : Nat → Nat
  | 0 => x
  | n + 1 => st (runB f x n ^^^ (f n).toNat)
/-- i bits from a on as a number -/
def bitsOf (f : Nat → Bool) (a : Nat) : Nat → Nat
  | 0 => 0
  | i + 1 => bitsOf f a i ^^^ (2 ^ i * (f (a + i)).toNat)
theorem bitsOf_bit (f : Nat → Bool) (a i j : Nat) : (bitsOf f a i).testBit j = (decide (j < i) && f (a + j)) := by
  induction i with
  | zero => simp [bitsOf]
  | succ i ih =>
    rw [bitsOf, Nat.testBit_xor, ih, Nat.testBit_two_pow_mul]
    rcases Nat.lt_trichotomy j i with h | h | h
    · have h1 : j < i + 1 := by omega
      have h2 : ¬ i ≤ j := by omega
      simp [h, h1, h2]
    · subst h
      cases f (a + j) <;> simp
    · have h1 : ¬ j < i + 1 := by omega
      have h2 : i ≤ j := by omega
      have h3 : ¬ j < i := by omega
      obtain ⟨d, hd⟩ : ∃ d, j - i = d + 1 := ⟨j - i - 1, by omega⟩
      cases f (a + i) <;> simp [h1, h2, h3, hd, Nat.testBit_add_one]
theorem bitsOf_lt (f : Nat → Bool) (a i : Nat) (hi : i ≤ 32) : bitsOf f a i < 4294967296 := by
  refine Nat.lt_pow_two_of_testBit (n := 32) _ ?_
  intro j hj
  rw [bitsOf_bit]
  have : ¬ j < i := by omega
  simp [this]
theorem runB_add (f : Nat → Bool) (x a i : Nat) : runB f x (a + i) = sts i (runB f x a ^^^ bitsOf f a i) := by
  induction i with
  | zero => simp [bitsOf, sts]
  | succ i ih =>
    have e : a + (i + 1) = (a + i) + 1 := by omega
    rw [e, runB, ih, bitsOf, sts_succ]
    have h : (f (a + i)).toNat = sts i (2 ^ i * (f (a + i)).toNat) := (sts_even i _).symm
    rw [h, ← sts_xor, Nat.xor_assoc, ← h]
theorem getD_lt (l : List UInt8) {k : Nat} (h : k < l.length) : l.getD k 0 = l[k] := by simp [List.getD, h]
theorem byte_bits (l : List UInt8) (k : Nat) : bitsOf (bitAt l) (8 * k) 8 = (l.getD k 0).toNat := by
  apply Nat.eq_of_testBit_eq
  intro j
  rw [bitsOf_bit]
  by_cases h : j < 8
  · have e1 : (8 * k + j) / 8 = k := by omega
    have e2 : (8 * k + j) % 8 = j := by omega
    simp [h, bitAt, e1, e2]
  · have hb := (l.getD k 0).toNat_lt
    have : (l.getD k 0).toNat < 2 ^ j := Nat.lt_of_lt_of_le hb (Nat.pow_le_pow_right (by omega) (by omega : 8 ≤ j))
    rw [Nat.testBit_lt_two_pow this]
    simp [h]
theorem runC_take (x : Nat) (l : List UInt8) (k : Nat) (hk : k ≤ l.length) : runC x (l.take k) = runB (bitAt l) x (8 * k) := by
  induction k with
  | zero => rfl
  | succ k ih =>
    have e : 8 * (k + 1) = 8 * k + 8 := by omega
    rw [List.take_succ_eq_append_getElem (by omega), runC_append, ih (by omega), e, runB_add, byte_bits, getD_lt l (by omega)]
    rfl
theorem runC_bits (x : Nat) (l : List UInt8) : runC x l = runB (bitAt l) x (8 * l.length) := by
  have := runC_take x l l.length (Nat.le_refl _)
  rwa [List.take_length] at this
theorem runB_xor (f g : Nat → Bool) (x y n : Nat) : runB (fun j => f j ^^ g j) (x ^^^ y) n = runB f x n ^^^ runB g y n := by
  induction n with
  | zero => rfl
  | succ n ih =>
    simp only [runB]
    rw [ih, ← st_xor]
    congr 1
    apply Nat.eq_of_testBit_eq
    intro i
    simp only [Nat.testBit_xor]
    cases f n <;> cases g n <;> cases (runB f x n).testBit i <;> cases (runB g y n).testBit i <;> simp
theorem runB_congr {f g : Nat → Bool} {n : Nat} (h : ∀ j, j < n → f j = g j) (x : Nat) : runB f x n = runB g x n := by
  induction n with
  | zero => rfl
  | succ n ih => simp only [runB, ih (fun j hj => h j (by omega)), h n (by omega)]
theorem runB_none {f : Nat → Bool} {n : Nat} (h : ∀ j, j < n → f j = false) : runB f 0 n = 0 := by
  induction n with
  | zero => rfl
  | succ n ih =>
    rw [runB, ih (fun j hj => h j (by omega)), h n (by omega)]
    rfl
/-- A burst never comes to 0. -/
theorem burst_some {f : Nat → Bool} {a n : Nat} (h : ∀ j, f j = true → a ≤ j ∧ j < a + 32) {j : Nat} (hj : j < n) (hf : f j = true) : runB f 0 n ≠ 0 := by
  intro e
  have hr := h j hf
  obtain ⟨i, hi, r, hn, hir⟩ : ∃ i, i ≤ 32 ∧ ∃ r, n = (a + i) + r ∧ (r = 0 ∨ i = 32) := by
    by_cases hc : n ≤ a + 32
    · exact ⟨n - a, by omega, 0, by omega, .inl rfl⟩
    · exact ⟨32, by omega, n - (a + 32), by omega, .inr rfl⟩
  have h0 : runB f 0 a = 0 := runB_none (fun k hk => by
    cases hfk : f k with
    | false => rfl
    | true => have := h k hfk; omega)
  have hW := bitsOf_lt f a i hi
  have h1 := runB_add f 0 a i
  rw [h0, Nat.zero_xor] at h1
  have h2 := runB_add f 0 (a + i) r
  have hz : bitsOf f (a + i) r = 0 := by
    apply Nat.eq_of_testBit_eq
    intro k
    rw [bitsOf_bit, Nat.zero_testBit]
    by_cases hk : k < r
    · cases hfk : f (a + i + k) with
      | false => simp
      | true => have := h _ hfk; omega
    · simp [hk]
  rw [← hn, hz, Nat.xor_zero, h1, ← sts_add, e] at h2
  have h3 := sts_zero _ hW h2.symm
  have h4 := bitsOf_bit f a i (j - a)
  rw [h3, Nat.zero_testBit] at h4
  have e1 : a + (j - a) = j := by omega
  have e2 : j - a < i := by omega
  rw [e1, hf] at h4
  simp [e2] at h4

/-! ### Texts that a burst has turned -/
theorem bits_ext {l m : List UInt8} (hl : l.length = m.length) (h : ∀ j, j < 8 * l.length → bitAt l j = bitAt m j) : l = m := by
  apply List.ext_getElem hl
  intro k h1 h2
  apply UInt8.toNat_inj.1
  apply Nat.eq_of_testBit_eq
  intro i
  by_cases hi : i < 8
  · have := h (8 * k + i) (by omega)
    have e1 : (8 * k + i) / 8 = k := by omega
    have e2 : (8 * k + i) % 8 = i := by omega
    simp only [bitAt, e1, e2] at this
    rwa [getD_lt l h1, getD_lt m h2] at this
  · have p : (256 : Nat) ≤ 2 ^ i := (Nat.pow_le_pow_right (by omega) (by omega : 8 ≤ i) : 2 ^ 8 ≤ 2 ^ i)
    rw [Nat.testBit_lt_two_pow (Nat.lt_of_lt_of_le l[k].toNat_lt p), Nat.testBit_lt_two_pow (Nat.lt_of_lt_of_le m[k].toNat_lt p)]
/-- the text l with the mask's bits from bit a on turned, i rounds of them -/
def turnC (l : List UInt8) (a m : Nat) : Nat → List UInt8
  | 0 => l
  | i + 1 => if m.testBit i = true ∧ a + i < 8 * l.length then (turnC l a m i).set ((a + i) / 8) ((turnC l a m i).getD ((a + i) / 8) 0 ^^^ UInt8.ofNat (2 ^ ((a + i) % 8))) else turnC l a m i
theorem turnC_length (l : List UInt8) (a m i : Nat) : (turnC l a m i).length = l.length := by
  induction i with
  | zero => rfl
  | succ i ih => rw [turnC]; split <;> simp [ih]
theorem turnC_bit (l : List UInt8) (a m i j : Nat) (hj : j < 8 * l.length) : bitAt (turnC l a m i) j = (bitAt l j ^^ (decide (a ≤ j ∧ j < a + i) && m.testBit (j - a))) := by
  induction i with
  | zero =>
    have : ¬ (a ≤ j ∧ j < a + 0) := by omega
    rw [turnC, decide_eq_false this]
    simp
  | succ i ih =>
    rw [turnC]
    by_cases hm : m.testBit i = true ∧ a + i < 8 * l.length
    · rw [if_pos hm]
      have hlen := turnC_length l a m i
      have hp : (2 : Nat) ^ ((a + i) % 8) < 256 := Nat.pow_lt_pow_right (by omega) (by omega : (a + i) % 8 < 8)
      by_cases hb : j / 8 = (a + i) / 8
      · have hset : bitAt ((turnC l a m i).set ((a + i) / 8) ((turnC l a m i).getD ((a + i) / 8) 0 ^^^ UInt8.ofNat (2 ^ ((a + i) % 8)))) j = (bitAt (turnC l a m i) j ^^ decide ((a + i) % 8 = j % 8)) := by
          unfold bitAt
          rw [hb]
          have hk : (a + i) / 8 < (turnC l a m i).length := by omega
          have e : ((turnC l a m i).set ((a + i) / 8) ((turnC l a m i).getD ((a + i) / 8) 0 ^^^ UInt8.ofNat (2 ^ ((a + i) % 8)))).getD ((a + i) / 8) 0 = (turnC l a m i).getD ((a + i) / 8) 0 ^^^ UInt8.ofNat (2 ^ ((a + i) % 8)) := by
            rw [getD_lt _ (by simpa using hk)]
            simp
          have e2 : (UInt8.ofNat (2 ^ ((a + i) % 8))).toNat = 2 ^ ((a + i) % 8) := by
            rw [UInt8.toNat_ofNat']
            exact Nat.mod_eq_of_lt hp
          rw [e, UInt8.toNat_xor, Nat.testBit_xor, e2, Nat.testBit_two_pow]
        rw [hset, ih]
        by_cases he : j = a + i
        · subst he
          have h1 : ¬ (a ≤ a + i ∧ a + i < a + i) := by omega
          have h2 : a ≤ a + i ∧ a + i < a + (i + 1) := by omega
          have h3 : a + i - a = i := by omega
          simp [h3, hm.1]
        · have h1 : ¬ ((a + i) % 8 = j % 8) := by omega
          have h2 : (a ≤ j ∧ j < a + i) ↔ (a ≤ j ∧ j < a + (i + 1)) := by omega
          simp [h1, h2]
      · have hset : bitAt ((turnC l a m i).set ((a + i) / 8) ((turnC l a m i).getD ((a + i) / 8) 0 ^^^ UInt8.ofNat (2 ^ ((a + i) % 8)))) j = bitAt (turnC l a m i) j := by
          unfold bitAt
          congr 2
          simp only [List.getD, List.getElem?_set]
          rw [if_neg (fun e => hb e.symm)]
        rw [hset, ih]
        have h2 : (a ≤ j ∧ j < a + i) ↔ (a ≤ j ∧ j < a + (i + 1)) := by
          have : j ≠ a + i := fun e => hb (by rw [e])
          omega
        simp [h2]
    · rw [if_neg hm, ih]
      by_cases he : j = a + i
      · subst he
        have h1 : m.testBit i = false := by
          cases hmi : m.testBit i with
          | false => rfl
          | true => exact absurd ⟨hmi, hj⟩ hm
        have h3 : a + i - a = i := by omega
        simp [h3, h1]
      · have h2 : (a ≤ j ∧ j < a + i) ↔ (a ≤ j ∧ j < a + (i + 1)) := by omega
        simp [h2]
/-- A burst turns the state that a text comes to. -/
theorem runC_burst (x : Nat) (l : List UInt8) (a m : Nat) (h : l ≠ turnC l a m 32) : runC x (turnC l a m 32) ≠ runC x l := by
  let g : Nat → Bool := fun j => decide (a ≤ j ∧ j < a + 32) && m.testBit (j - a)
  have hbit : ∀ j, j < 8 * l.length → bitAt (turnC l a m 32) j = (bitAt l j ^^ g j) := fun j hj => turnC_bit l a m 32 j hj
  obtain ⟨j, hj, hg⟩ : ∃ j, j < 8 * l.length ∧ g j = true := by
    apply Classical.byContradiction
    intro hno
    apply h
    apply bits_ext (turnC_length l a m 32).symm
    intro j hj
    rw [hbit j hj]
    cases hgj : g j with
    | false => simp
    | true => exact absurd ⟨j, hj, hgj⟩ hno
  rw [runC_bits, runC_bits, turnC_length]
  have h1 : runB (bitAt (turnC l a m 32)) x (8 * l.length) = runB (bitAt l) x (8 * l.length) ^^^ runB g 0 (8 * l.length) := by
    rw [← runB_xor, Nat.xor_zero]
    exact runB_congr hbit x
  rw [h1]
  intro e
  have hne : runB g 0 (8 * l.length) ≠ 0 := burst_some (a := a) (fun k hk => by
    have : (decide (a ≤ k ∧ k < a + 32) && m.testBit (k - a)) = true := hk
    rw [Bool.and_eq_true] at this
    exact of_decide_eq_true this.1) hj hg
  apply hne
  have := congrArg (fun z => runB (bitAt l) x (8 * l.length) ^^^ z) e
  simpa [← Nat.xor_assoc] using this
/-- a burst turns the sum -/
theorem extC_burst (s : Nat) (l : List UInt8) (a m : Nat) (h : l ≠ turnC l a m 32) : extC s (turnC l a m 32) ≠ extC s l :=
  fun e => runC_burst _ l a m h (xor_right e)
/-- a burst is told in a text that has its sum behind it -/
theorem extC_told (l : List UInt8) (a m : Nat) (h : l ++ nb 4 (extC 0 l) ≠ turnC (l ++ nb 4 (extC 0 l)) a m 32) :
    extC 0 ((turnC (l ++ nb 4 (extC 0 l)) a m 32).take l.length) ≠ le ((turnC (l ++ nb 4 (extC 0 l)) a m 32).drop l.length) := by
  intro e
  have hne := runC_burst 4294967295 _ a m h
  have hlen := turnC_length (l ++ nb 4 (extC 0 l)) a m 32
  have e0 : (0 ^^^ 4294967295 : Nat) = 4294967295 := by decide
  have h1 : runC 4294967295 (l ++ nb 4 (extC 0 l)) = sts 32 4294967295 := by
    unfold extC
    rw [e0, runC_append, sum_rest (runC_lt (by omega) l)]
  revert e hne hlen
  generalize turnC (l ++ nb 4 (extC 0 l)) a m 32 = d
  intro e hne hlen
  apply hne
  have hd : d = d.take l.length ++ nb 4 (le (d.drop l.length)) := by
    have h4 : (d.drop l.length).length = 4 := by
      rw [List.length_drop, hlen, List.length_append, nb_length]
      omega
    have := nb_le (d.drop l.length)
    rw [h4] at this
    rw [this, List.take_append_drop]
  rw [h1, hd, ← e]
  unfold extC
  rw [e0, runC_append]
  exact sum_rest (runC_lt (by omega) _)
end Go.Proofs.YtmholhjdpkfleaaDoor
