/- Chapter 7 as functions of lists: what a page is, and what its bytes say. -/
import Derived.Test.YtiohijkelagloaaGreatDoorQCrcMath
import Derived.Test.YtiohijkelagloaaGreatDoorQOctet
namespace Go.Proofs.YtiohijkelagloaaGreatDoor
open Go.RowKit
set_option linter.unusedSimpArgs false
set_option linter.unusedVariables false
set_option maxRecDepth 100000

def noughts (k : Nat) : List UInt8 := List.replicate k 0
theorem noughts_length (k : Nat) : (noughts k).length = k := by simp [noughts]
/-- tag, number, size, noughts -/
def headB (t n s : Nat) : List UInt8 := nb 4 t ++ nb 4 n ++ nb 4 s
theorem headB_length (t n s : Nat) : (headB t n s).length = 12 := by simp [headB, nb_length]
/-- the 252 bytes ahead of the sum -/
def bodyB (t n : Nat) (b : List UInt8) : List UInt8 := headB t n b.length ++ (b ++ noughts (240 - b.length))
theorem bodyB_length {b : List UInt8} (t n : Nat) (h : b.length ≤ 240) : (bodyB t n b).length = 252 := by
  simp only [bodyB, List.length_append, headB_length, noughts_length]; omega
def pageB (t n : Nat) (b : List UInt8) : List UInt8 := bodyB t n b ++ nb 4 (extC 0 (bodyB t n b))
theorem pageB_length {b : List UInt8} (t n : Nat) (h : b.length ≤ 240) : (pageB t n b).length = 256 := by
  rw [pageB, List.length_append, bodyB_length t n h, nb_length]
/-- the bytes that a page says it has -/
def saidB (p : List UInt8) : List UInt8 := (p.drop 12).take (numAt p 8 4)
def IsPage (p : List UInt8) (t n : Nat) : Prop := p.length = 256 ∧ numAt p 8 4 ≤ 240 ∧ p = pageB t n (saidB p)

theorem numAt_append (l m : List UInt8) (a s : Nat) (h : a + s ≤ l.length) : numAt (l ++ m) a s = numAt l a s := by
  unfold numAt
  rw [List.drop_append_of_le_length (by omega), List.take_append_of_le_length (by rw [List.length_drop]; omega)]
theorem numAt_behind (l m : List UInt8) (a s : Nat) (h : a = l.length) : numAt (l ++ m) a s = le (m.take s) := by
  unfold numAt
  subst h
  rw [List.drop_left]
theorem mod4 {x : Nat} (h : x < 4294967296) : x % 256 ^ 4 = x := Nat.mod_eq_of_lt (by omega)
theorem size_bodyB (t n : Nat) (b : List UInt8) (h : b.length ≤ 240) : numAt (bodyB t n b) 8 4 = b.length := by
  rw [bodyB, numAt_append _ _ _ _ (by rw [headB_length]; omega), headB, numAt_behind _ _ _ _ (by simp [nb_length]), List.take_of_length_le (by rw [nb_length]; omega), le_nb, mod4 (by omega)]
theorem size_pageB (t n : Nat) (b : List UInt8) (h : b.length ≤ 240) : numAt (pageB t n b) 8 4 = b.length := by
  rw [pageB, numAt_append _ _ _ _ (by rw [bodyB_length t n h]; omega), size_bodyB t n b h]
theorem tag_pageB (t n : Nat) (b : List UInt8) : numAt (pageB t n b) 0 4 = t % 256 ^ 4 := by
  rw [pageB, bodyB, headB, List.append_assoc, List.append_assoc, List.append_assoc, numAt_append _ _ _ _ (by rw [nb_length]; omega)]
  unfold numAt
  rw [List.drop_zero, List.take_of_length_le (by rw [nb_length]; omega), le_nb]
theorem number_pageB (t n : Nat) (b : List UInt8) : numAt (pageB t n b) 4 4 = n % 256 ^ 4 := by
  rw [pageB, bodyB, headB, List.append_assoc, List.append_assoc, numAt_append _ _ _ _ (by simp [nb_length]), numAt_behind _ _ _ _ (by rw [nb_length]), List.take_of_length_le (by rw [nb_length]; omega), le_nb]
theorem saidB_pageB (t n : Nat) (b : List UInt8) (h : b.length ≤ 240) : saidB (pageB t n b) = b := by
  unfold saidB
  rw [size_pageB t n b h, pageB, bodyB, List.append_assoc, List.append_assoc]
  rw [show (12 : Nat) = (headB t n b.length).length from (headB_length _ _ _).symm, List.drop_left, List.take_left]
theorem saidB_length {p : List UInt8} (h1 : p.length = 256) (h2 : numAt p 8 4 ≤ 240) : (saidB p).length = numAt p 8 4 := by
  unfold saidB
  rw [List.length_take, List.length_drop]; omega
theorem isPage_pageB (t n : Nat) (b : List UInt8) (h : b.length ≤ 240) : IsPage (pageB t n b) t n :=
  ⟨pageB_length t n h, by rw [size_pageB t n b h]; exact h, by rw [saidB_pageB t n b h]⟩
theorem isPage_other {t n t' n' : Nat} (ht : t < 4294967296) (hn : n < 4294967296) (ht' : t' < 4294967296) (hn' : n' < 4294967296) (b : List UInt8) (h : b.length ≤ 240) :
    IsPage (pageB t n b) t' n' ↔ t = t' ∧ n = n' := by
  constructor
  · intro hp
    have e := hp.2.2
    rw [saidB_pageB t n b h] at e
    have e1 := congrArg (fun p => numAt p 0 4) e
    have e2 := congrArg (fun p => numAt p 4 4) e
    simp only [tag_pageB, number_pageB, mod4 ht, mod4 hn, mod4 ht', mod4 hn'] at e1 e2
    exact ⟨e1, e2⟩
  · rintro ⟨rfl, rfl⟩
    exact isPage_pageB t n b h
theorem saidB_le {p : List UInt8} {t n : Nat} (h : IsPage p t n) : (saidB p).length ≤ 240 := by rw [saidB_length h.1 h.2.1]; exact h.2.1
/-- the sum stands behind what it sums: so a burst is told -/
theorem isPage_burst {t n t' n' : Nat} {b : List UInt8} (h : b.length ≤ 240) (a m : Nat) (hne : ¬ pageB t n b = turnC (pageB t n b) a m 32) : ¬ IsPage (turnC (pageB t n b) a m 32) t' n' := by
  intro hp
  refine extC_burst 0 (pageB t n b) a m hne ?_
  rw [hp.2.2]
  generalize saidB (turnC (pageB t n b) a m 32) = q
  unfold pageB
  rw [extC_rest, extC_rest]
end Go.Proofs.YtiohijkelagloaaGreatDoor
