/- Mathematics of no program: the sum CRC-32C over natural numbers: its step is linear and loses nothing, a table of 256 numbers does eight steps, and a burst of at most 32 bits never comes to 0. -/
import Derived.Handy
namespace Go.Proofs.YtbpiiegjbcoapaaDoor
set_option linter.unusedSimpArgs false
set_option linter.unusedVariables false
set_option maxRecDepth 100000

def poly : Nat := 0x82F63B78
/-- one step: halved, and turned by the number if it was odd -/
def st (x : Nat) : Nat := (x / 2) ^^^ (if x % 2 = 1 then poly else 0)
def sts : Nat → Nat → Nat
  | 0, x => x
  | k + 1, x => sts k (st x)
theorem sts_succ (k x : Nat) : sts (k + 1) x = st (sts k x) := by
  induction k generalizing x with
  | zero => rfl
  | succ k ih => exact ih (st x)
theorem sts_add (j k x : Nat) : sts (j + k) x = sts k (sts j x) := by
  induction k with
  | zero => rfl
  | succ k ih => rw [← Nat.add_assoc, sts_succ, ih, sts_succ]

theorem xor_half (x y : Nat) : (x ^^^ y) / 2 = (x / 2) ^^^ (y / 2) := by
  apply Nat.eq_of_testBit_eq
  intro i
  simp [Nat.testBit_div_two, Nat.testBit_xor]
theorem odd_bit (x : Nat) : (x % 2 = 1) = (x.testBit 0 = true) := by simp [Nat.testBit_zero]
theorem st_xor (x y : Nat) : st (x ^^^ y) = st x ^^^ st y := by
  unfold st
  rw [xor_half]
  simp only [odd_bit, Nat.testBit_xor]
  apply Nat.eq_of_testBit_eq
  intro i
  cases hx : x.testBit 0 <;> cases hy : y.testBit 0 <;> simp [Nat.testBit_xor] <;> cases (x / 2).testBit i <;> cases (y / 2).testBit i <;> cases poly.testBit i <;> rfl
theorem st_0 : st 0 = 0 := rfl
theorem sts_xor (k x y : Nat) : sts k (x ^^^ y) = sts k x ^^^ sts k y := by
  induction k generalizing x y with
  | zero => rfl
  | succ k ih => simp only [sts, st_xor, ih]
theorem sts_0 (k : Nat) : sts k 0 = 0 := by
  induction k with
  | zero => rfl
  | succ k ih => simpa [sts, st_0] using ih
theorem st_lt {x : Nat} (h : x < 4294967296) : st x < 4294967296 := by
  unfold st
  refine Nat.xor_lt_two_pow (n := 32) (by omega) ?_
  split <;> simp [poly]
theorem sts_lt (k : Nat) {x : Nat} (h : x < 4294967296) : sts k x < 4294967296 := by
  induction k generalizing x with
  | zero => exact h
  | succ k ih => exact ih (st_lt h)
theorem xor_zero {x y : Nat} (h : x ^^^ y = 0) : x = y := by
  apply Nat.eq_of_testBit_eq
  intro i
  have := congrArg (fun n => Nat.testBit n i) h
  simpa [Nat.testBit_xor] using this
theorem st_zero {x : Nat} (h : x < 4294967296) (e : st x = 0) : x = 0 := by
  unfold st at e
  have := xor_zero e
  split at this
  · unfold poly at this; omega
  · omega
theorem sts_zero (k : Nat) {x : Nat} (h : x < 4294967296) (e : sts k x = 0) : x = 0 := by
  induction k generalizing x with
  | zero => exact e
  | succ k ih => exact st_zero h (ih (st_lt h) e)
theorem sts_inj (k : Nat) {x y : Nat} (hx : x < 4294967296) (hy : y < 4294967296) (e : sts k x = sts k y) : x = y := by
  apply xor_zero
  apply sts_zero k (Nat.xor_lt_two_pow (n := 32) hx hy)
  rw [sts_xor, e, Nat.xor_self]

/-! ### A table of 256 numbers does eight steps -/
theorem st_even (z : Nat) : st (2 * z) = z := by
  unfold st
  rw [if_neg (by omega), Nat.xor_zero]
  omega
theorem sts_even (k z : Nat) : sts k (2 ^ k * z) = z := by
  induction k with
  | zero => simp [sts]
  | succ k ih => rw [sts, Nat.pow_succ, Nat.mul_comm (2 ^ k) 2, Nat.mul_assoc, st_even, ih]
theorem split8 (x : Nat) : x = (x % 256) ^^^ (256 * (x / 256)) := by
  apply Nat.eq_of_testBit_eq
  intro i
  have e1 : x % 256 = x % 2 ^ 8 := rfl
  have e2 : 256 * (x / 256) = (x / 2 ^ 8) * 2 ^ 8 := by rw [Nat.mul_comm]
  rw [Nat.testBit_xor, e1, e2, Nat.testBit_mod_two_pow, Nat.testBit_mul_two_pow, Nat.testBit_div_two_pow]
  by_cases h : i < 8
  · have : ¬ 8 ≤ i := by omega
    simp [h, this]
  · have h8 : 8 ≤ i := by omega
    have e : i - 8 + 8 = i := by omega
    simp [h, h8, e]
/-- eight steps by the table's place x % 256 -/
theorem sts8 (x : Nat) : sts 8 x = sts 8 (x % 256) ^^^ (x / 256) := by
  have h := sts_xor 8 (x % 256) (256 * (x / 256))
  rw [← split8] at h
  rw [h]
  congr 1
  exact sts_even 8 (x / 256)

/-! ### Sums of bytes -/
def byteSt (x : Nat) (b : UInt8) : Nat := sts 8 (x ^^^ b.toNat)
def runC (x : Nat) (l : List UInt8) : Nat := l.foldl byteSt x
def extC (sum : Nat) (l : List UInt8) : Nat := (runC (sum ^^^ 4294967295) l) ^^^ 4294967295
theorem runC_nil (x : Nat) : runC x [] = x := rfl
theorem runC_cons (x : Nat) (b : UInt8) (l : List UInt8) : runC x (b :: l) = runC (byteSt x b) l := rfl
theorem runC_append (x : Nat) (l m : List UInt8) : runC x (l ++ m) = runC (runC x l) m := List.foldl_append
theorem byte_lt (b : UInt8) : b.toNat < 4294967296 := by have := b.toNat_lt; omega
theorem byteSt_lt {x : Nat} (h : x < 4294967296) (b : UInt8) : byteSt x b < 4294967296 := sts_lt 8 (Nat.xor_lt_two_pow (n := 32) h (byte_lt b))
theorem runC_lt {x : Nat} (h : x < 4294967296) (l : List UInt8) : runC x l < 4294967296 := by
  induction l generalizing x with
  | nil => exact h
  | cons b l ih => exact ih (byteSt_lt h b)
theorem not_lt {x : Nat} (h : x < 4294967296) : x ^^^ 4294967295 < 4294967296 := Nat.xor_lt_two_pow (n := 32) h (by omega)
theorem extC_lt {s : Nat} (h : s < 4294967296) (l : List UInt8) : extC s l < 4294967296 := not_lt (runC_lt (not_lt h) l)
theorem xor_xor (x k : Nat) : (x ^^^ k) ^^^ k = x := by rw [Nat.xor_assoc, Nat.xor_self, Nat.xor_zero]
/-- bytes may be summed in parts -/
theorem extC_append (s : Nat) (l m : List UInt8) : extC s (l ++ m) = extC (extC s l) m := by
  unfold extC
  rw [runC_append, xor_xor]
theorem xor_right {x y k : Nat} (h : x ^^^ k = y ^^^ k) : x = y := by
  have := congrArg (fun z => z ^^^ k) h
  simpa only [xor_xor] using this
theorem byteSt_inj {x y : Nat} (hx : x < 4294967296) (hy : y < 4294967296) (b : UInt8) (e : byteSt x b = byteSt y b) : x = y :=
  xor_right (sts_inj 8 (Nat.xor_lt_two_pow (n := 32) hx (byte_lt b)) (Nat.xor_lt_two_pow (n := 32) hy (byte_lt b)) e)
theorem runC_inj {x y : Nat} (hx : x < 4294967296) (hy : y < 4294967296) (l : List UInt8) (e : runC x l = runC y l) : x = y := by
  induction l generalizing x y with
  | nil => exact e
  | cons b l ih => exact byteSt_inj hx hy b (ih (byteSt_lt hx b) (byteSt_lt hy b) e)
/-- from two unlike sums on the same bytes come to unlike sums -/
theorem extC_inj {x y : Nat} (hx : x < 4294967296) (hy : y < 4294967296) (l : List UInt8) : extC x l = extC y l ↔ x = y :=
  ⟨fun e => xor_right (runC_inj (not_lt hx) (not_lt hy) l (xor_right e)), fun e => by rw [e]⟩

/-! ### Three texts, put together -/
theorem xor3 (a b c d e f : Nat) : (a ^^^ b ^^^ c) ^^^ (d ^^^ e ^^^ f) = (a ^^^ d) ^^^ (b ^^^ e) ^^^ (c ^^^ f) := by
  apply Nat.eq_of_testBit_eq
  intro i
  simp only [Nat.testBit_xor]
  cases a.testBit i <;> cases b.testBit i <;> cases c.testBit i <;> cases d.testBit i <;> cases e.testBit i <;> cases f.testBit i <;> rfl
def xor3L : List UInt8 → List UInt8 → List UInt8 → List UInt8
  | a :: l, b :: m, c :: n => (a ^^^ b ^^^ c) :: xor3L l m n
  | _, _, _ => []
theorem runC_three (l m n : List UInt8) (h1 : l.length = m.length) (h2 : m.length = n.length) (x y z : Nat) :
    runC (x ^^^ y ^^^ z) (xor3L l m n) = runC x l ^^^ runC y m ^^^ runC z n := by
  induction l generalizing m n x y z with
  | nil =>
    cases m with
    | nil => cases n with
      | nil => rfl
      | cons => simp at h2
    | cons => simp at h1
  | cons a l ih =>
    cases m with
    | nil => simp at h1
    | cons b m => cases n with
      | nil => simp at h2
      | cons c n =>
        simp only [xor3L, runC_cons]
        rw [← ih m n (by simpa using h1) (by simpa using h2)]
        congr 1
        unfold byteSt
        rw [← sts_xor, ← sts_xor, UInt8.toNat_xor, UInt8.toNat_xor, xor3]
theorem extC_three (l m n : List UInt8) (h1 : l.length = m.length) (h2 : m.length = n.length) :
    extC 0 (xor3L l m n) = extC 0 l ^^^ extC 0 m ^^^ extC 0 n := by
  unfold extC
  have e : (0 ^^^ 4294967295 : Nat) = (4294967295 ^^^ 4294967295 ^^^ 4294967295) := by decide
  have h := runC_three l m n h1 h2 4294967295 4294967295 4294967295
  have e0 : (0 ^^^ 4294967295 : Nat) = 4294967295 := by decide
  have e3 : (4294967295 ^^^ 4294967295 ^^^ 4294967295 : Nat) = 4294967295 := by decide
  rw [e3] at h
  rw [e0, h]
  generalize runC 4294967295 l = p
  generalize runC 4294967295 m = q
  generalize runC 4294967295 n = r
  rw [← xor3, e3]
end Go.Proofs.YtbpiiegjbcoapaaDoor
