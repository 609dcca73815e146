/- Mathematics of no program: a disk of 4096 sectors with one file, named a. -/
import Derived.Test.YtiohijkelagloaaDoorDiskMath
namespace Go.Proofs.YtiohijkelagloaaDoor
set_option linter.unusedSimpArgs false
set_option linter.unusedVariables false
set_option maxRecDepth 100000

theorem layB_end (l b : List UInt8) : layB l l.length b = l ++ b := by
  unfold layB
  rw [List.take_length, List.drop_eq_nil_of_le (by omega)]
  simp
theorem layB_nil (b : List UInt8) : layB [] 0 b = b := by simp [layB]
theorem layB_length (now : List UInt8) (off : Nat) (b : List UInt8) (h : off ≤ now.length) : (layB now off b).length = max now.length (off + b.length) := by
  unfold layB
  simp only [List.length_append, List.length_take, List.length_drop]
  omega
theorem layB_get (now : List UInt8) (off : Nat) (b : List UInt8) (h : off ≤ now.length) (i : Nat) : (layB now off b)[i]? = if off ≤ i ∧ i < off + b.length then b[i - off]? else now[i]? := by
  unfold layB
  by_cases h1 : i < off
  · rw [if_neg (by omega), List.append_assoc, List.getElem?_append_left (by rw [List.length_take]; omega), List.getElem?_take, if_pos h1]
  · by_cases h2 : i < off + b.length
    · rw [if_pos ⟨by omega, h2⟩, List.append_assoc, List.getElem?_append_right (by rw [List.length_take]; omega), List.length_take, Nat.min_eq_left h, List.getElem?_append_left (by omega)]
    · rw [if_neg (by omega), List.getElem?_append_right (by rw [List.length_append, List.length_take]; omega), List.length_append, List.length_take, Nat.min_eq_left h, List.getElem?_drop]
      congr 1
      omega
theorem sect_le {a b : Nat} (h : a ≤ b) : sect a ≤ sect b := by unfold sect; omega
theorem endK_none (n : Nat) (kept : Nat → Bool) (h : ∀ k, kept k = false) (m : Nat) : endK n kept m = 0 := by
  induction m with
  | zero => rfl
  | succ m ih => rw [endK, h m]; simpa using ih
/-- nothing is kept: what lasts is left -/
theorem backB_none (f : Fl) (kept : Nat → Bool) (h : ∀ k, kept k = false) : backB f kept = f.lasts := by
  unfold backB
  rw [endK_none _ _ h, Nat.max_eq_left (Nat.zero_le _)]
  apply List.ext_getElem
  · simp
  · intro i h1 h2
    simp [h, List.getD, h2]
theorem keptF_nil (f : Fl) (base k : Nat) : keptF f base [] k = false := by simp [keptF]
theorem backF_nil (f : Fl) (base : Nat) : backF f base [] = ⟨f.name, f.lasts, f.lasts, fun _ => false⟩ := by
  unfold backF
  rw [backB_none f _ (fun k => keptF_nil f base k)]

def D1 (f : Fl) : Ds := ⟨[f], 4096, 0, false⟩
theorem ok_a : nameOk [97] = true := by decide
theorem gone1 (f : Fl) : goneS (D1 f) = D1 f := by simp [goneS, D1]
theorem get1 {f : Fl} (h : f.name = [97]) : getF [f] [97] = some f := by simp [getF, h]
theorem set1 {f g : Fl} (h : f.name = g.name) : setF [f] g = [g] := by simp [setF, h]
theorem create1 : createS ⟨[], 4096, 0, false⟩ [97] = (D1 ⟨[97], [], [], fun _ => false⟩, 0) := by
  simp [createS, goneS, ok_a, getF, putF, D1]
theorem write1 {f : Fl} (hn : f.name = [97]) {off : Nat} {b : List UInt8} (h : off ≤ f.now.length) (hs : max f.now.length (off + b.length) ≤ 262144) : writeS (D1 f) [97] (off : Int) b = (D1 (writeF f off b), 0) := by
  have h1 : ¬ (off : Int) < 0 := by omega
  have h2 : ¬ (f.now.length < off) := by omega
  have h3 : ¬ (16777216 < off + b.length) := by omega
  have h4 : ¬ (sect f.now.length < sect (max f.now.length (off + b.length)) ∧ 4096 < sect f.now.length + (sect (max f.now.length (off + b.length)) - sect f.now.length)) := by unfold sect; omega
  have e2 : usedL [f] = sect f.now.length := by simp [usedL]
  have e3 : setF [f] (writeF f off b) = [writeF f off b] := set1 rfl
  unfold writeS
  rw [gone1]
  simp only [D1, ok_a, get1 hn, Int.toNat_natCast, h1, or_false, Bool.true_eq_false, if_false, h2, h3, e2, e3]
  simp [h4]
theorem sync1 {f : Fl} (hn : f.name = [97]) : syncS (D1 f) [97] = (D1 (syncF f), 0) := by
  unfold syncS
  rw [gone1]
  simp only [D1, ok_a, get1 hn, Bool.true_eq_false, if_false]
  rw [set1 (by rfl)]
  simp
theorem cut1 {f : Fl} (hn : f.name = [97]) {n : Nat} (h : n ≤ f.now.length) : cutS (D1 f) [97] (n : Int) = (D1 (cutF f n), 0) := by
  have h1 : ¬ (n : Int) < 0 := by omega
  unfold cutS
  rw [gone1]
  have h2 : ¬ f.now.length < n := by omega
  have e3 : setF [f] (cutF f n) = [cutF f n] := set1 rfl
  simp [D1, ok_a, get1 hn, h1, h2, e3]
theorem cut1_no {f : Fl} (hn : f.name = [97]) {n : Int} (h : n < 0 ∨ (f.now.length : Int) < n) : cutS (D1 f) [97] n = (D1 f, 1) := by
  unfold cutS
  rw [gone1]
  by_cases h1 : n < 0
  · simp [D1, ok_a, h1]
  · have h2 : f.now.length < n.toNat := by omega
    simp [D1, ok_a, get1 hn, h1, h2]
theorem read1 {f : Fl} (hn : f.name = [97]) (h : f.now.length ≤ 16777216) : readS (D1 f) [97] 0 16777216 = (f.now, 0) := by
  have e : f.now.take 16777216 = f.now := List.take_of_length_le h
  simp [readS, D1, ok_a, get1 hn, e]
theorem size1 {f : Fl} (hn : f.name = [97]) : sizeS (D1 f) [97] = (f.now.length, 0) := by
  simp [sizeS, D1, ok_a, get1 hn]
theorem arm1 (f : Fl) : armS (D1 f) 1 = (⟨[f], 4096, 1, false⟩, 0) := by simp [armS, D1]
theorem dead1 (f : Fl) (nm : List UInt8) : createS ⟨[f], 4096, 1, false⟩ nm = (⟨[f], 4096, 0, true⟩, 6) := by simp [createS, goneS]
theorem on1 (f : Fl) (keep : List Int) : onS ⟨[f], 4096, 0, true⟩ keep = (D1 (backF f 0 keep), 0) := by simp [onS, backL, D1]
end Go.Proofs.YtiohijkelagloaaDoor
