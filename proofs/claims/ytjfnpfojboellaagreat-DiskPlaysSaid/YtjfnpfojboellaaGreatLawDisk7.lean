/- A file's bytes among files. -/
import Derived.Test.YtjfnpfojboellaaGreatLawDisk5
namespace Go.Proofs.YtjfnpfojboellaaGreat
open Go.RowKit
set_option linter.unusedSimpArgs false
set_option linter.unusedVariables false
set_option maxRecDepth 100000

def lookF (l : List (List UInt8 × List UInt8)) (nm : List UInt8) : Option (List UInt8) := (l.find? fun p => decide (p.1 = nm)).map Prod.snd
theorem FilesAt.keep {w w' : World} {base : Nat} {v : Value} {l : List (List UInt8 × List UInt8)} (h : FilesAt w base v l) (k : Keeps w w') : FilesAt w' base v l := by
  obtain ⟨vs, h1, h2, h3⟩ := h
  exact ⟨vs, h1, h2.keep k, fun i b x hi hx => (h3 i b x hi hx).keep k⟩
theorem files_cells (l : List (List UInt8 × List UInt8)) (vs : List Value) (h : vs.length = l.length) (i : Nat) (p : List UInt8 × List UInt8) (hp : l[i]? = some p) :
    ∃ x, vs[i]? = some x ∧ ((l.zip vs).flatMap fun p => [strV p.1.1, p.2])[i * 2]? = some (strV p.1) ∧ ((l.zip vs).flatMap fun p => [strV p.1.1, p.2])[i * 2 + 1]? = some x := by
  have hi : i < l.length := (List.getElem?_eq_some_iff.1 hp).1
  have hx : i < vs.length := by omega
  refine ⟨vs[i], List.getElem?_eq_getElem hx, ?_, ?_⟩
  · have := flatMap_get (fun p : (List UInt8 × List UInt8) × Value => [strV p.1.1, p.2]) 2 (fun _ => rfl) (l.zip vs) (i := i) (j := 0) (by decide)
    rw [Nat.add_zero] at this
    rw [this, show (l.zip vs)[i]? = some (p, vs[i]) from List.getElem?_zip_eq_some.2 ⟨hp, List.getElem?_eq_getElem hx⟩]
    rfl
  · have := flatMap_get (fun p : (List UInt8 × List UInt8) × Value => [strV p.1.1, p.2]) 2 (fun _ => rfl) (l.zip vs) (i := i) (j := 1) (by decide)
    rw [this, show (l.zip vs)[i]? = some (p, vs[i]) from List.getElem?_zip_eq_some.2 ⟨hp, List.getElem?_eq_getElem hx⟩]
    rfl
theorem lookF_at {l : List (List UInt8 × List UInt8)} {nm : List UInt8} {i : Nat} {p : List UInt8 × List UInt8} (hp : l[i]? = some p) (hn : p.1 = nm) (hb : ∀ (j : Nat) (q : List UInt8 × List UInt8), j < i → l[j]? = some q → q.1 ≠ nm) : lookF l nm = some p.2 := by
  induction l generalizing i with
  | nil => simp at hp
  | cons a l ih =>
    unfold lookF
    rw [List.find?_cons]
    rcases i with _ | i
    · simp only [List.getElem?_cons_zero, Option.some.injEq] at hp
      subst hp
      simp [hn]
    · have h0 := hb 0 a (by omega) rfl
      simp only [h0, decide_false]
      exact ih (by simpa using hp) (fun j q hj hq => hb (j + 1) q (by omega) (by simpa using hq))
theorem lookF_none {l : List (List UInt8 × List UInt8)} {nm : List UInt8} (hb : ∀ (j : Nat) (q : List UInt8 × List UInt8), l[j]? = some q → q.1 ≠ nm) : lookF l nm = none := by
  unfold lookF
  rw [List.find?_eq_none.2]
  · rfl
  · intro p hp
    obtain ⟨j, hj⟩ := List.getElem?_of_mem hp
    simpa using hb j p hj
/-- what fileOf tells -/
def LookV (w : World) (base : Nat) (r : Option (List UInt8)) (e : Ending) (w' : World) : Prop :=
  Keeps w w' ∧ match r with
  | some b => ∃ A c, e = .returned (.tuple #[.slice A b.length c, .bool true]) ∧ Own w' base 5 1 (.slice A b.length c) b.length (cel b)
  | none => e = .returned (.tuple #[.slice none 0 0, .bool false])
theorem str_eq (a b : List UInt8) : ((str a).toList == (str b).toList) = decide (a = b) := by
  rw [str_toList, str_toList]
  by_cases h : a = b <;> simp [h]
end Go.Proofs.YtjfnpfojboellaaGreat
