/- The first walks of layer 14's statements: works; a net and a question as arguments; what is too large. -/
import Derived.Test.YtkijfbnibfbldaaWitN
import Derived.Test.YtkijfbnibfbldaaWitBf
namespace Go.Proofs.Ytkijfbnibfbldaa
open Go.RowKit
set_option linter.unusedSimpArgs false
set_option linter.unusedVariables false
set_option maxRecDepth 100000

/-! ### A search that is reckoned -/
def leastF : Wt → Option (Nat × Nat)
  | [] => none
  | p :: W => match leastF W with
    | none => some p
    | some q => if lessB ⟨q.2, q.1⟩ ⟨p.2, p.1⟩ then some q else some p
theorem leastF_some : ∀ {W : Wt} {v d : Nat}, leastF W = some (v, d) → LeastW v d W := by
  intro W
  induction W with
  | nil => intro v d h; cases h
  | cons p W ih =>
    intro v d h
    unfold leastF at h
    cases e : leastF W with
    | none =>
      rw [e] at h
      simp only [Option.some.injEq] at h
      subst h
      have hW : W = [] := by
        cases W with
        | nil => rfl
        | cons q W =>
          exfalso
          unfold leastF at e
          cases e2 : leastF W with
          | none => rw [e2] at e; cases e
          | some x => rw [e2] at e; simp only at e; split at e <;> cases e
      subst hW
      exact ⟨by simp, fun u c hu => by simp at hu; rw [hu.1, hu.2]; exact lessB_irr _⟩
    | some q =>
      rw [e] at h
      simp only at h
      have hq := ih (v := q.1) (d := q.2) e
      split at h
      · rename_i hl
        injection h with h
        subst h
        refine ⟨List.mem_cons_of_mem _ hq.mem, fun u c hu => ?_⟩
        rcases List.mem_cons.1 hu with hu | hu
        · have e1 : p = (u, c) := hu.symm
          rw [e1] at hl
          rw [lessB_false]
          rw [lessB_true] at hl
          simp only at *
          omega
        · exact hq.le u c hu
      · rename_i hl
        injection h with h
        subst h
        refine ⟨by simp, fun u c hu => ?_⟩
        rcases List.mem_cons.1 hu with hu | hu
        · injection hu with h1 h2; rw [h1, h2]; exact lessB_irr _
        · have h1 := hq.le u c hu
          have h2 : lessB ⟨q.2, q.1⟩ ⟨d, v⟩ = false := by simpa using hl
          exact lessB_le_trans h2 h1
def ansF (o : Outs) (av : Nat → Bool) (to most : Nat) : Nat → List Nat → Wt → Option Answ
  | 0, _, _ => none
  | k + 1, S, W => match leastF W with
    | none => if W.isEmpty then some (S, false, 0) else none
    | some (v, d) => if most < d || S.length == 16 then some (S, false, 0) else if v == to then some (S, true, 0) else if (o v).1 != 0 then some (S ++ [v], false, (o v).1) else ansF o av to most k (S ++ [v]) (folW av (S ++ [v]) d (o v).2 (delM W v))
theorem ansF_ans {o : Outs} {av : Nat → Bool} {to most : Nat} : ∀ (k : Nat) {S : List Nat} {W : Wt} {r : Answ}, ansF o av to most k S W = some r → Ans o av to most S W r := by
  intro k
  induction k with
  | zero => intro S W r h; cases h
  | succ k ih =>
    intro S W r h
    unfold ansF at h
    cases e : leastF W with
    | none =>
      rw [e] at h
      simp only at h
      split at h
      · rename_i hW
        injection h with h
        subst h
        cases W with
        | nil => exact .none S
        | cons => cases hW
      · cases h
    | some p =>
      obtain ⟨v, d⟩ := p
      rw [e] at h
      have hl := leastF_some e
      simp only at h
      split at h
      · rename_i hc
        injection h with h
        subst h
        simp only [Bool.or_eq_true, decide_eq_true_eq, beq_iff_eq] at hc
        exact .far hl hc
      · rename_i hc
        simp only [Bool.or_eq_true, decide_eq_true_eq, beq_iff_eq, not_or] at hc
        split at h
        · rename_i hv
          injection h with h
          subst h
          exact .yes hl (by omega) hc.2 (by simpa using hv)
        · rename_i hv
          split at h
          · rename_i he
            injection h with h
            subst h
            exact .err hl (by omega) hc.2 (by simpa using hv) (by simpa using he)
          · rename_i he
            exact .go hl (by omega) hc.2 (by simpa using hv) (by simpa using he) (ih h)
end Go.Proofs.Ytkijfbnibfbldaa
