/- Mathematics of no program: a text with its CRC-32C behind it has one sum; a burst of at most 32 bits turns the sum, and is told in a text with its sum behind it. -/
import Derived.Test.YtbpiiegjbcoapaaDoorBase
import Derived.Test.YtbpiiegjbcoapaaDoorCrcMath
namespace Go.Proofs.YtbpiiegjbcoapaaDoor
set_option linter.unusedSimpArgs false
set_option linter.unusedVariables false
set_option maxRecDepth 100000

/-! ### A text with its sum behind it -/
theorem mod_step (y k : Nat) : (y % 256 ^ (k + 1)) % 256 = y % 256 ∧ (y % 256 ^ (k + 1)) / 256 = y / 256 % 256 ^ k := by
  have e : 256 ^ (k + 1) = 256 * 256 ^ k := by rw [Nat.pow_succ, Nat.mul_comm]
  rw [e]
  exact ⟨Nat.mod_mul_right_mod _ _ _, Nat.mod_mul_right_div_self _ _ _⟩
theorem runC_nb (k x y : Nat) : runC x (nb k y) = sts (8 * k) (x ^^^ (y % 256 ^ k)) := by
  induction k generalizing x y with
  | zero => simp [nb, runC, sts, Nat.mod_one]
  | succ k ih =>
    have e : nb (k + 1) y = UInt8.ofNat (y % 256) :: nb k (y / 256) := rfl
    have e8 : (UInt8.ofNat (y % 256)).toNat = y % 256 := by simp
    rw [e, runC_cons, ih, byteSt, e8]
    have h := split8 (y % 256 ^ (k + 1))
    rw [(mod_step y k).1, (mod_step y k).2] at h
    have h2 : y / 256 % 256 ^ k = sts 8 (256 * (y / 256 % 256 ^ k)) := (sts_even 8 _).symm
    rw [h2, ← sts_xor, ← sts_add, Nat.xor_assoc, ← h]
    congr 1
    omega
theorem sum_rest {x : Nat} (hx : x < 4294967296) : runC x (nb 4 (x ^^^ 4294967295)) = sts 32 4294967295 := by
  rw [runC_nb, Nat.mod_eq_of_lt (not_lt hx), ← Nat.xor_assoc, Nat.xor_self, Nat.zero_xor]
theorem extC_rest (l : List UInt8) : extC 0 (l ++ nb 4 (extC 0 l)) = 0x48674bc7 := by
  have e0 : (0 ^^^ 4294967295 : Nat) = 4294967295 := by decide
  unfold extC
  rw [e0, runC_append, sum_rest (runC_lt (by omega) l)]
  decide

/-! ### Bit by bit -/
def bitAt (l : List UInt8) (j : Nat) : Bool := (l.getD (j / 8) 0).toNat.testBit (j % 8)
def runB (f : Nat → Bool) (x : Nat) : Nat → Nat
  | 0 => x
  | n + 1 => st (runB f x n ^^^ (f n).toNat)
/-- i bits from a on as a number -/
def bitsOf (f : Nat → Bool) (a : Nat) : Nat → Nat
  | 0 => 0
  | i + 1 => bitsOf f a i ^^^ (2 ^ i * (f (a + i)).toNat)
theorem bitsOf_bit (f : Nat → Bool) (a i j : Nat) : (bitsOf f a i).testBit j = (decide (j < i) && f (a + j)) := by
  induction i with
  | zero => simp [bitsOf]
  | succ i ih =>
    rw [bitsOf, Nat.testBit_xor, ih, Nat.testBit_two_pow_mul]
    rcases Nat.lt_trichotomy j i with h | h | h
    · have h1 : j < i + 1 := by omega
      have h2 : ¬ i ≤ j := by omega
      simp [h, h1, h2]
    · subst h
      cases f (a + j) <;> simp
    · have h1 : ¬ j < i + 1 := by omega
      have h2 : i ≤ j := by omega
      have h3 : ¬ j < i := by omega
      obtain ⟨d, hd⟩ : ∃ d, j - i = d + 1 := ⟨j - i - 1, by omega⟩
      cases f (a + i) <;> simp [h1, h2, h3, hd, Nat.testBit_add_one]
theorem bitsOf_lt (f : Nat → Bool) (a i : Nat) (hi : i ≤ 32) : bitsOf f a i < 4294967296 := by
  refine Nat.lt_pow_two_of_testBit (n := 32) _ ?_
  intro j hj
  rw [bitsOf_bit]
  have : ¬ j < i := by omega
  simp [this]
theorem runB_add (f : Nat → Bool) (x a i : Nat) : runB f x (a + i) = sts i (runB f x a ^^^ bitsOf f a i) := by
  induction i with
  | zero => simp [bitsOf, sts]
  | succ i ih =>
    have e : a + (i + 1) = (a + i) + 1 := by omega
    rw [e, runB, ih, bitsOf, sts_succ]
    have h : (f (a + i)).toNat = sts i (2 ^ i * (f (a + i)).toNat) := (sts_even i _).symm
    rw [h, ← sts_xor, Nat.xor_assoc, ← h]
theorem getD_lt (l : List UInt8) {k : Nat} (h : k < l.length) : l.getD k 0 = l[k] := by simp [List.getD, h]
theorem byte_bits (l : List UInt8) (k : Nat) : bitsOf (bitAt l) (8 * k) 8 = (l.getD k 0).toNat := by
  apply Nat.eq_of_testBit_eq
  intro j
  rw [bitsOf_bit]
  by_cases h : j < 8
  · have e1 : (8 * k + j) / 8 = k := by omega
    have e2 : (8 * k + j) % 8 = j := by omega
    simp [h, bitAt, e1, e2]
  · have hb := (l.getD k 0).toNat_lt
    have : (l.getD k 0).toNat < 2 ^ j := Nat.lt_of_lt_of_le hb (Nat.pow_le_pow_right (by omega) (by omega : 8 ≤ j))
    rw [Nat.testBit_lt_two_pow this]
    simp [h]
theorem runC_take (x : Nat) (l : List UInt8) (k : Nat) (hk : k ≤ l.length) : runC x (l.take k) = runB (bitAt l) x (8 * k) := by
  induction k with
  | zero => rfl
  | succ k ih =>
    have e : 8 * (k + 1) = 8 * k + 8 := by omega
    rw [List.take_succ_eq_append_getElem (by omega), runC_append, ih (by omega), e, runB_add, byte_bits, getD_lt l (by omega)]
    rfl
theorem runC_bits (x : Nat) (l : List UInt8) : runC x l = runB (bitAt l) x (8 * l.length) := by
  have := runC_take x l l.length (Nat.le_refl _)
  rwa [List.take_length] at this
theorem runB_xor (f g : Nat → Bool) (x y n : Nat) : runB (fun j => f j ^^ g j) (x ^^^ y) n = runB f x n ^^^ runB g y n := by
  induction n with
  | zero => rfl
  | succ n ih =>
    simp only [runB]
    rw [ih, ← st_xor]
    congr 1
    apply Nat.eq_of_testBit_eq
    intro i
    simp only [Nat.testBit_xor]
    cases f n <;> cases g n <;> cases (runB f x n).testBit i <;> cases (runB g y n).testBit i <;> simp
theorem runB_congr {f g : Nat → Bool} {n : Nat} (h : ∀ j, j < n → f j = g j) (x : Nat) : runB f x n = runB g x n := by
  induction n with
  | zero => rfl
  | succ n ih => simp only [runB, ih (fun j hj => h j (by omega)), h n (by omega)]
theorem runB_none {f : Nat → Bool} {n : Nat} (h : ∀ j, j < n → f j = false) : runB f 0 n = 0 := by
  induction n with
  | zero => rfl
  | succ n ih =>
    rw [runB, ih (fun j hj => h j (by omega)), h n (by omega)]
    rfl
/-- A burst never comes to 0. -/
theorem burst_some {f : Nat → Bool} {a n : Nat} (h : ∀ j, f j = true → a ≤ j ∧ j < a + 32) {j : Nat} (hj : j < n) (hf : f j = true) : runB f 0 n ≠ 0 := by
  intro e
  have hr := h j hf
  obtain ⟨i, hi, r, hn, hir⟩ : ∃ i, i ≤ 32 ∧ ∃ r, n = (a + i) + r ∧ (r = 0 ∨ i = 32) := by
    by_cases hc : n ≤ a + 32
    · exact ⟨n - a, by omega, 0, by omega, .inl rfl⟩
    · exact ⟨32, by omega, n - (a + 32), by omega, .inr rfl⟩
  have h0 : runB f 0 a = 0 := runB_none (fun k hk => by
    cases hfk : f k with
    | false => rfl
    | true => have := h k hfk; omega)
  have hW := bitsOf_lt f a i hi
  have h1 := runB_add f 0 a i
  rw [h0, Nat.zero_xor] at h1
  have h2 := runB_add f 0 (a + i) r
  have hz : bitsOf f (a + i) r = 0 := by
    apply Nat.eq_of_testBit_eq
    intro k
    rw [bitsOf_bit, Nat.zero_testBit]
    by_cases hk : k < r
    · cases hfk : f (a + i + k) with
      | false => simp
      | true => have := h _ hfk; omega
    · simp [hk]
  rw [← hn, hz, Nat.xor_zero, h1, ← sts_add, e] at h2
  have h3 := sts_zero _ hW h2.symm
  have h4 := bitsOf_bit f a i (j - a)
  rw [h3, Nat.zero_testBit] at h4
  have e1 : a + (j - a) = j := by omega
  have e2 : j - a < i := by omega
  rw [e1, hf] at h4
  simp [e2] at h4

/-! ### Texts that a burst has turned -/
theorem bits_ext {l m : List UInt8} (hl : l.length = m.length) (h : ∀ j, j < 8 * l.length → bitAt l j = bitAt m j) : l = m := by
  apply List.ext_getElem hl
  intro k h1 h2
  apply UInt8.toNat_inj.1
  apply Nat.eq_of_testBit_eq
  intro i
  by_cases hi : i < 8
  · have := h (8 * k + i) (by omega)
    have e1 : (8 * k + i) / 8 = k := by omega
    have e2 : (8 * k + i) % 8 = i := by omega
    simp only [bitAt, e1, e2] at this
    rwa [getD_lt l h1, getD_lt m h2] at this
  · have p : (256 : Nat) ≤ 2 ^ i := (Nat.pow_le_pow_right (by omega) (by omega : 8 ≤ i) : 2 ^ 8 ≤ 2 ^ i)
    rw [Nat.testBit_lt_two_pow (Nat.lt_of_lt_of_le l[k].toNat_lt p), Nat.testBit_lt_two_pow (Nat.lt_of_lt_of_le m[k].toNat_lt p)]
/-- the text l with the mask's bits from bit a on turned, i rounds of them -/
def turnC (l : List UInt8) (a m : Nat) : Nat → List UInt8
  | 0 => l
  | i + 1 => if m.testBit i = true ∧ a + i < 8 * l.length then (turnC l a m i).set ((a + i) / 8) ((turnC l a m i).getD ((a + i) / 8) 0 ^^^ UInt8.ofNat (2 ^ ((a + i) % 8))) else turnC l a m i
theorem turnC_length (l : List UInt8) (a m i : Nat) : (turnC l a m i).length = l.length := by
  induction i with
  | zero => rfl
  | succ i ih => rw [turnC]; split <;> simp [ih]
theorem turnC_bit (l : List UInt8) (a m i j : Nat) (hj : j < 8 * l.length) : bitAt (turnC l a m i) j = (bitAt l j ^^ (decide (a ≤ j ∧ j < a + i) && m.testBit (j - a))) := by
  induction i with
  | zero =>
    have : ¬ (a ≤ j ∧ j < a + 0) := by omega
    rw [turnC, decide_eq_false this]
    simp
  | succ i ih =>
    rw [turnC]
    by_cases hm : m.testBit i = true ∧ a + i < 8 * l.length
    · rw [if_pos hm]
      have hlen := turnC_length l a m i
      have hp : (2 : Nat) ^ ((a + i) % 8) < 256 := Nat.pow_lt_pow_right (by omega) (by omega : (a + i) % 8 < 8)
      by_cases hb : j / 8 = (a + i) / 8
      · have hset : bitAt ((turnC l a m i).set ((a + i) / 8) ((turnC l a m i).getD ((a + i) / 8) 0 ^^^ UInt8.ofNat (2 ^ ((a + i) % 8)))) j = (bitAt (turnC l a m i) j ^^ decide ((a + i) % 8 = j % 8)) := by
          unfold bitAt
          rw [hb]
          have hk : (a + i) / 8 < (turnC l a m i).length := by omega
          have e : ((turnC l a m i).set ((a + i) / 8) ((turnC l a m i).getD ((a + i) / 8) 0 ^^^ UInt8.ofNat (2 ^ ((a + i) % 8)))).getD ((a + i) / 8) 0 = (turnC l a m i).getD ((a + i) / 8) 0 ^^^ UInt8.ofNat (2 ^ ((a + i) % 8)) := by
            rw [getD_lt _ (by simpa using hk)]
            simp
          have e2 : (UInt8.ofNat (2 ^ ((a + i) % 8))).toNat = 2 ^ ((a + i) % 8) := by
            rw [UInt8.toNat_ofNat']
            exact Nat.mod_eq_of_lt hp
          rw [e, UInt8.toNat_xor, Nat.testBit_xor, e2, Nat.testBit_two_pow]
        rw [hset, ih]
        by_cases he : j = a + i
        · subst he
          have h1 : ¬ (a ≤ a + i ∧ a + i < a + i) := by omega
          have h2 : a ≤ a + i ∧ a + i < a + (i + 1) := by omega
          have h3 : a + i - a = i := by omega
          simp [h3, hm.1]
        · have h1 : ¬ ((a + i) % 8 = j % 8) := by omega
          have h2 : (a ≤ j ∧ j < a + i) ↔ (a ≤ j ∧ j < a + (i + 1)) := by omega
          simp [h1, h2]
      · have hset : bitAt ((turnC l a m i).set ((a + i) / 8) ((turnC l a m i).getD ((a + i) / 8) 0 ^^^ UInt8.ofNat (2 ^ ((a + i) % 8)))) j = bitAt (turnC l a m i) j := by
          unfold bitAt
          congr 2
          simp only [List.getD, List.getElem?_set]
          rw [if_neg (fun e => hb e.symm)]
        rw [hset, ih]
        have h2 : (a ≤ j ∧ j < a + i) ↔ (a ≤ j ∧ j < a + (i + 1)) := by
          have : j ≠ a + i := fun e => hb (by rw [e])
          omega
        simp [h2]
    · rw [if_neg hm, ih]
      by_cases he : j = a + i
      · subst he
        have h1 : m.testBit i = false := by
          cases hmi : m.testBit i with
          | false => rfl
          | true => exact absurd ⟨hmi, hj⟩ hm
        have h3 : a + i - a = i := by omega
        simp [h3, h1]
      · have h2 : (a ≤ j ∧ j < a + i) ↔ (a ≤ j ∧ j < a + (i + 1)) := by omega
        simp [h2]
/-- A burst turns the state that a text comes to. -/
theorem runC_burst (x : Nat) (l : List UInt8) (a m : Nat) (h : l ≠ turnC l a m 32) : runC x (turnC l a m 32) ≠ runC x l := by
  let g : Nat → Bool := fun j => decide (a ≤ j ∧ j < a + 32) && m.testBit (j - a)
  have hbit : ∀ j, j < 8 * l.length → bitAt (turnC l a m 32) j = (bitAt l j ^^ g j) := fun j hj => turnC_bit l a m 32 j hj
  obtain ⟨j, hj, hg⟩ : ∃ j, j < 8 * l.length ∧ g j = true := by
    apply Classical.byContradiction
    intro hno
    apply h
    apply bits_ext (turnC_length l a m 32).symm
    intro j hj
    rw [hbit j hj]
    cases hgj : g j with
    | false => simp
    | true => exact absurd ⟨j, hj, hgj⟩ hno
  rw [runC_bits, runC_bits, turnC_length]
  have h1 : runB (bitAt (turnC l a m 32)) x (8 * l.length) = runB (bitAt l) x (8 * l.length) ^^^ runB g 0 (8 * l.length) := by
    rw [← runB_xor, Nat.xor_zero]
    exact runB_congr hbit x
  rw [h1]
  intro e
  have hne : runB g 0 (8 * l.length) ≠ 0 := burst_some (a := a) (fun k hk => by
    have : (decide (a ≤ k ∧ k < a + 32) && m.testBit (k - a)) = true := hk
    rw [Bool.and_eq_true] at this
    exact of_decide_eq_true this.1) hj hg
  apply hne
  have := congrArg (fun z => runB (bitAt l) x (8 * l.length) ^^^ z) e
  simpa [← Nat.xor_assoc] using this
/-- a burst turns the sum -/
theorem extC_burst (s : Nat) (l : List UInt8) (a m : Nat) (h : l ≠ turnC l a m 32) : extC s (turnC l a m 32) ≠ extC s l :=
  fun e => runC_burst _ l a m h (xor_right e)
/-- a burst is told in a text that has its sum behind it -/
theorem extC_told (l : List UInt8) (a m : Nat) (h : l ++ nb 4 (extC 0 l) ≠ turnC (l ++ nb 4 (extC 0 l)) a m 32) :
    extC 0 ((turnC (l ++ nb 4 (extC 0 l)) a m 32).take l.length) ≠ le ((turnC (l ++ nb 4 (extC 0 l)) a m 32).drop l.length) := by
  intro e
  have hne := runC_burst 4294967295 _ a m h
  have hlen := turnC_length (l ++ nb 4 (extC 0 l)) a m 32
  have e0 : (0 ^^^ 4294967295 : Nat) = 4294967295 := by decide
  have h1 : runC 4294967295 (l ++ nb 4 (extC 0 l)) = sts 32 4294967295 := by
    unfold extC
    rw [e0, runC_append, sum_rest (runC_lt (by omega) l)]
  revert e hne hlen
  generalize turnC (l ++ nb 4 (extC 0 l)) a m 32 = d
  intro e hne hlen
  apply hne
  have hd : d = d.take l.length ++ nb 4 (le (d.drop l.length)) := by
    have h4 : (d.drop l.length).length = 4 := by
      rw [List.length_drop, hlen, List.length_append, nb_length]
      omega
    have := nb_le (d.drop l.length)
    rw [h4] at this
    rw [this, List.take_append_drop]
  rw [h1, hd, ← e]
  unfold extC
  rw [e0, runC_append]
  exact sum_rest (runC_lt (by omega) _)
end Go.Proofs.YtbpiiegjbcoapaaDoor
