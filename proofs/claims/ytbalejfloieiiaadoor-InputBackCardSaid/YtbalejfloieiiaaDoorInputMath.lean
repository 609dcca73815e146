/- Mathematics of no program: an input's bytes, what is wrong with them, and where. -/
import Derived.Test.YtbalejfloieiiaaDoorBase
import Derived.Test.YtbalejfloieiiaaDoorWeightMath
namespace Go.Proofs.YtbalejfloieiiaaDoor
open Go.RowKit
set_option linter.unusedSimpArgs false
set_option linter.unusedVariables false
set_option maxRecDepth 100000

/-- the number that so many bytes at a place say -/
def numI (l : List UInt8) (at_ size : Nat) : Nat := le ((l.drop at_).take size)
theorem numI_lt (l : List UInt8) (p s : Nat) : numI l p s < 256 ^ s := by
  unfold numI
  have h1 := le_lt ((l.drop p).take s)
  have h2 : 256 ^ ((l.drop p).take s).length ≤ 256 ^ s := Nat.pow_le_pow_right (by decide) (by rw [List.length_take]; omega)
  omega
theorem nb_numI (l : List UInt8) (p s : Nat) (h : p + s ≤ l.length) : nb s (numI l p s) = (l.drop p).take s := by
  have e : ((l.drop p).take s).length = s := by rw [List.length_take, List.length_drop]; omega
  have := nb_le ((l.drop p).take s)
  rw [e] at this
  exact this
def magicL : List UInt8 := [77, 80, 71, 49]
/-- the first byte that is not that one -/
def firstBad : List UInt8 → List UInt8 → Nat → Option Nat
  | [], _, _ => none
  | _ :: _, [], i => some i
  | c :: m, d :: b, i => if c = d then firstBad m b (i + 1) else some i
theorem firstBad_self (m b : List UInt8) (i : Nat) : firstBad m (m ++ b) i = none := by
  induction m generalizing i with
  | nil => rfl
  | cons c m ih => simp [firstBad, ih]
theorem firstBad_none {m b : List UInt8} {i : Nat} (h : firstBad m b i = none) : b = m ++ b.drop m.length := by
  induction m generalizing b i with
  | nil => rfl
  | cons c m ih =>
    cases b with
    | nil => simp [firstBad] at h
    | cons d b =>
      unfold firstBad at h
      split at h
      · rename_i e
        subst e
        simp only [List.cons_append, List.length_cons, List.drop_succ_cons, List.cons.injEq, true_and]
        exact ih h
      · cases h
/-- a cut ahead of the first bad byte is bad at its end -/
theorem firstBad_cut {m b : List UInt8} {i j : Nat} (h : firstBad m b i = some j) : i ≤ j ∧ j - i < m.length ∧ j - i ≤ b.length ∧ firstBad m (b.take (j - i)) i = some j := by
  induction m generalizing b i with
  | nil => simp [firstBad] at h
  | cons c m ih =>
    cases b with
    | nil =>
      simp only [firstBad, Option.some.injEq] at h
      subst h
      simp [firstBad]
    | cons d b =>
      unfold firstBad at h
      split at h
      · rename_i e
        subst e
        obtain ⟨h1, h2, h3, h4⟩ := ih h
        have e : j - i = (j - (i + 1)) + 1 := by omega
        refine ⟨by omega, by simp; omega, by simp; omega, ?_⟩
        rw [e]
        simp [firstBad, h4]
      · simp only [Option.some.injEq] at h
        subst h
        simp [firstBad]
/-- a shorter beginning of the right bytes is bad at its end -/
theorem firstBad_short (m : List UInt8) (i c : Nat) (h : c < m.length) : firstBad m (m.take c) i = some (i + c) := by
  induction m generalizing i c with
  | nil => simp at h
  | cons d m ih =>
    rcases c with _ | c
    · simp [firstBad]
    · simp only [List.take_succ_cons, firstBad, if_true]
      rw [ih (i + 1) c (by simpa using h)]
      congr 1
      omega
/-- one byte of them is another one -/
theorem firstBad_set (m b : List UInt8) (i k : Nat) (v : UInt8) (hk : k < m.length) (hv : v ≠ m.getD k 0) : firstBad m ((m ++ b).set k v) i = some (i + k) := by
  induction m generalizing i k with
  | nil => simp at hk
  | cons d m ih =>
    rcases k with _ | k
    · simp only [List.cons_append, List.set_cons_zero, firstBad]
      rw [if_neg (fun e => hv (by simpa using e.symm))]
      rfl
    · simp only [List.cons_append, List.set_cons_succ, firstBad, if_true]
      rw [ih (i + 1) k (by simpa using hk) (by simpa using hv)]
      congr 1
      omega

/-! ### Heads -/
structure HRes where
  n : Nat
  m : Nat
  e : Nat
  a : Nat
deriving DecidableEq
def headS (b : List UInt8) : HRes :=
  match firstBad magicL b 0 with
  | some i => ⟨0, 0, 8, i⟩
  | none =>
    if b.length < 12 then ⟨0, 0, 8, b.length⟩
    else if 2147483647 < numI b 4 4 then ⟨0, 0, 9, 4⟩
    else if 16777216 < numI b 8 4 then ⟨0, 0, 9, 8⟩
    else if numI b 4 4 = 0 ∧ 0 < numI b 8 4 then ⟨0, 0, 8, 8⟩
    else ⟨numI b 4 4, numI b 8 4, 0, 0⟩
def headB (n m : Nat) : List UInt8 := magicL ++ (nb 4 n ++ nb 4 m)
theorem headB_length (n m : Nat) : (headB n m).length = 12 := by simp [headB, magicL, nb_length]
def HeadOk (n m : Nat) : Prop := n ≤ 2147483647 ∧ m ≤ 16777216 ∧ (n = 0 → m = 0)
theorem numI_head_n (n m : Nat) (b : List UInt8) (h : n < 4294967296) : numI (headB n m ++ b) 4 4 = n := by
  have e : (headB n m ++ b) = magicL ++ (nb 4 n ++ (nb 4 m ++ b)) := by simp [headB]
  have e2 : ((headB n m ++ b).drop 4).take 4 = nb 4 n := by
    rw [e]
    have : List.drop 4 (magicL ++ (nb 4 n ++ (nb 4 m ++ b))) = nb 4 n ++ (nb 4 m ++ b) := List.drop_left' (by rfl)
    rw [this]
    exact List.take_left' (nb_length 4 n)
  unfold numI
  rw [e2, le_nb]
  exact Nat.mod_eq_of_lt (by omega)
theorem numI_head_m (n m : Nat) (b : List UInt8) (h : m < 4294967296) : numI (headB n m ++ b) 8 4 = m := by
  have e : (headB n m ++ b) = (magicL ++ nb 4 n) ++ (nb 4 m ++ b) := by simp [headB]
  have e2 : ((headB n m ++ b).drop 8).take 4 = nb 4 m := by
    rw [e]
    have : List.drop 8 ((magicL ++ nb 4 n) ++ (nb 4 m ++ b)) = nb 4 m ++ b := List.drop_left' (by rw [List.length_append, nb_length]; rfl)
    rw [this]
    exact List.take_left' (nb_length 4 m)
  unfold numI
  rw [e2, le_nb]
  exact Nat.mod_eq_of_lt (by omega)
theorem headS_ok {n m : Nat} (h : HeadOk n m) (b : List UInt8) : headS (headB n m ++ b) = ⟨n, m, 0, 0⟩ := by
  obtain ⟨h1, h2, h3⟩ := h
  have e : (headB n m ++ b) = magicL ++ (nb 4 n ++ nb 4 m ++ b) := by simp [headB]
  have f := firstBad_self magicL (nb 4 n ++ nb 4 m ++ b) 0
  rw [← e] at f
  unfold headS
  rw [f]
  simp only
  rw [if_neg (by rw [List.length_append, headB_length]; omega), numI_head_n n m b (by omega), numI_head_m n m b (by omega), if_neg (by omega), if_neg (by omega), if_neg (by omega)]
/-- what a head that is right says -/
theorem headS_inv {b : List UInt8} (h : (headS b).e = 0) : HeadOk (headS b).n (headS b).m ∧ b = headB (headS b).n (headS b).m ++ b.drop 12 ∧ 12 ≤ b.length := by
  unfold headS at h ⊢
  cases hf : firstBad magicL b 0 with
  | some i => rw [hf] at h; simp at h
  | none =>
    rw [hf] at h
    simp only at h ⊢
    by_cases h1 : b.length < 12
    · rw [if_pos h1] at h; simp at h
    · rw [if_neg h1] at h ⊢
      by_cases h2 : 2147483647 < numI b 4 4
      · rw [if_pos h2] at h; simp at h
      · rw [if_neg h2] at h ⊢
        by_cases h3 : 16777216 < numI b 8 4
        · rw [if_pos h3] at h; simp at h
        · rw [if_neg h3] at h ⊢
          by_cases h4 : numI b 4 4 = 0 ∧ 0 < numI b 8 4
          · rw [if_pos h4] at h; simp at h
          · rw [if_neg h4]
            refine ⟨⟨by simp; omega, by simp; omega, by simp; omega⟩, ?_, by omega⟩
            simp only
            have hm := firstBad_none hf
            unfold headB
            rw [nb_numI b 4 4 (by omega), nb_numI b 8 4 (by omega)]
            have e1 : b.drop 4 = (b.drop 4).take 4 ++ (b.drop 8).take 4 ++ b.drop 12 := by
              have a1 := (List.take_append_drop 4 (b.drop 4)).symm
              have a2 := (List.take_append_drop 4 (b.drop 8)).symm
              rw [List.drop_drop] at a1 a2
              rw [List.append_assoc, ← a2]
              exact a1
            have e2 : b.drop magicL.length = b.drop 4 := rfl
            rw [e2, e1] at hm
            rw [List.append_assoc]
            exact hm
end Go.Proofs.YtbalejfloieiiaaDoor
