/- Items and their order; lists of items in memory. -/
import Derived.Test.YtkijfbnibfbldaaBase
import Derived.Test.YtkijfbnibfbldaaFlat
import Derived.Test.YtkijfbnibfbldaaBox
namespace Go.Proofs.Ytkijfbnibfbldaa
open Go.RowKit
set_option linter.unusedSimpArgs false
set_option linter.unusedVariables false
set_option maxRecDepth 100000

/-- an item: key, number -/
structure It where
  k : Nat
  i : Nat
deriving DecidableEq
structure ItOk (e : It) : Prop where
  k : e.k < 18446744073709551616
  i : e.i < 4294967296
def itC (e : It) : List Value := [.int .u64 (e.k : Int), .int .u32 (e.i : Int)]
theorem itC_length (e : It) : (itC e).length = 2 := rfl
/-- is an item ahead of another one? -/
def lessB (a b : It) : Bool := decide (a.k < b.k) || (decide (a.k = b.k) && decide (a.i < b.i))
theorem lessB_true (a b : It) : lessB a b = true ↔ a.k < b.k ∨ (a.k = b.k ∧ a.i < b.i) := by simp [lessB]
theorem lessB_false (a b : It) : lessB a b = false ↔ b.k < a.k ∨ (b.k = a.k ∧ b.i ≤ a.i) := by
  rw [Bool.eq_false_iff, ne_eq, lessB_true]
  omega
theorem lessB_irr (a : It) : lessB a a = false := by simp [lessB]
theorem lessB_tot {a b : It} (h : lessB a b = false) (h' : lessB b a = false) : a = b := by
  rw [lessB_false] at h h'
  cases a; cases b
  simp only [It.mk.injEq] at *
  omega
theorem lessB_le_trans {a b c : It} (h : lessB b a = false) (h' : lessB c b = false) : lessB c a = false := by
  rw [lessB_false] at *
  omega
/-- x is one of these, and none is ahead of it -/
structure Least (x : It) (l : List It) : Prop where
  mem : x ∈ l
  le : ∀ y ∈ l, lessB y x = false
theorem least_of {l : List It} (h : l ≠ []) : ∃ x, Least x l := by
  induction l with
  | nil => exact absurd rfl h
  | cons a l ih =>
    by_cases hl : l = []
    · subst hl
      exact ⟨a, by simp, fun y hy => by simp at hy; subst hy; exact lessB_irr _⟩
    · obtain ⟨x, hx⟩ := ih hl
      cases hax : lessB x a with
      | true =>
        refine ⟨x, List.mem_cons_of_mem _ hx.mem, fun y hy => ?_⟩
        rcases List.mem_cons.1 hy with rfl | hy
        · rw [lessB_true] at hax
          rw [lessB_false]
          omega
        · exact hx.le y hy
      | false =>
        refine ⟨a, by simp, fun y hy => ?_⟩
        rcases List.mem_cons.1 hy with rfl | hy
        · exact lessB_irr _
        · exact lessB_le_trans hax (hx.le y hy)
theorem Least.eq {x y : It} {l : List It} (h : Least x l) (k : Least y l) : x = y := lessB_tot (k.le x h.mem) (h.le y k.mem)
theorem Least.perm {x : It} {l m : List It} (h : Least x l) (p : l.Perm m) : Least x m := ⟨p.mem_iff.1 h.mem, fun y hy => h.le y (p.mem_iff.2 hy)⟩

/-- an item at an address -/
def ItIn (W : World) (p : Addr) (e : It) : Prop := W.cell? p = some (.int .u64 (e.k : Int)) ∧ W.cell? ⟨p.block, p.off + 1, none⟩ = some (.int .u32 (e.i : Int))
theorem add_pos1 (p : Addr) (k : Nat) (hk : 0 < k) : p.add k = ⟨p.block, p.off + k, none⟩ := by unfold Addr.add; rw [if_neg (by omega)]
theorem its_at {W : World} {B : Nat} {A : Option Addr} {l : List It} (h : At W B A (l.flatMap itC)) {k : Nat} {e : It} (hk : l[k]? = some e) : ∃ ad, A = some ad ∧ ad.block < B ∧ ItIn W (ad.add (k * 2)) e := by
  have hl : k < l.length := (List.getElem?_eq_some_iff.1 hk).1
  have g : ∀ j, j < 2 → (l.flatMap itC)[k * 2 + j]? = (itC e)[j]? := fun j hj => by
    rw [flatMap_get itC 2 itC_length l hj, hk]
    rfl
  rcases h with h | ⟨ad, rfl, hb, hc⟩
  · have := flatMap_length itC 2 itC_length l
    rw [h] at this
    simp at this
    omega
  · refine ⟨ad, rfl, hb, hc _ _ (g 0 (by decide)), ?_⟩
    rw [← add_pos1 _ 1 (by decide), addr_add]; exact hc _ _ (g 1 (by decide))
theorem ItIn.keep {W V : World} {p : Addr} {e : It} (h : ItIn W p e) (k : Keeps W V) : ItIn V p e := ⟨k.cellOf h.1, k.cellOf h.2⟩
def itA (e : It) : Array Value := #[.int .u64 (e.k : Int), .int .u32 (e.i : Int)]
end Go.Proofs.Ytkijfbnibfbldaa
