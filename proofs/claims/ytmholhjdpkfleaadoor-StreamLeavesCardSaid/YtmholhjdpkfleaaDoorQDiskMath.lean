/- Mathematics of no program: a disk of named files, what of them lasts, and what a loss of power leaves. -/
import Derived.Test.YtmholhjdpkfleaaDoorQBase
namespace Go.Proofs.YtmholhjdpkfleaaDoor
set_option linter.unusedSimpArgs false
set_option linter.unusedVariables false
set_option maxRecDepth 100000

/-- a file: its name, what it holds now, what lasts, which sectors are loose -/
structure Fl where
  name : List UInt8
  now : List UInt8
  lasts : List UInt8
  loose : Nat → Bool
/-- a disk: its files by their names, the quota, how far the power is, is it off -/
structure Ds where
  l : List Fl
  q : Nat
  armed : Nat
  off : Bool
def sect (n : Nat) : Nat := (n + 63) / 64
def nameC (c : UInt8) : Bool := decide (97 ≤ c.toNat ∧ c.toNat ≤ 122 ∨ 48 ≤ c.toNat ∧ c.toNat ≤ 57 ∨ c.toNat = 46 ∨ c.toNat = 45)
def nameOk (s : List UInt8) : Bool := decide (1 ≤ s.length ∧ s.length ≤ 24) && s.all nameC
def getF (l : List Fl) (nm : List UInt8) : Option Fl := l.find? fun f => decide (f.name = nm)
def setF (l : List Fl) (f : Fl) : List Fl := l.map fun g => if g.name = f.name then f else g
def delF (l : List Fl) (nm : List UInt8) : List Fl := l.filter fun f => decide (f.name ≠ nm)
def putF : List Fl → Fl → List Fl
  | [], f => [f]
  | g :: l, f => if g.name < f.name then g :: putF l f else f :: g :: l
def usedL (l : List Fl) : Nat := (l.map fun f => sect f.now.length).sum
/-- the loose sectors of a file, rising -/
def looseF (f : Fl) : List Nat := (List.range (sect f.now.length)).filter f.loose
def placesL (l : List Fl) : List (List UInt8 × Nat) := l.flatMap fun f => (looseF f).map fun k => (f.name, k)
/-- bytes lie there from a place on -/
def layB (now : List UInt8) (off : Nat) (b : List UInt8) : List UInt8 := now.take off ++ b ++ now.drop (off + b.length)
def writeF (f : Fl) (off : Nat) (b : List UInt8) : Fl :=
  { f with now := layB f.now off b, loose := fun k => f.loose k || (decide (0 < b.length) && decide (off / 64 ≤ k) && decide (k ≤ (off + b.length - 1) / 64)) }
def cutF (f : Fl) (n : Nat) : Fl := { f with now := f.now.take n, lasts := f.lasts.take n, loose := fun k => f.loose k && decide (k < sect n) }
def syncF (f : Fl) : Fl := { f with lasts := f.now, loose := fun _ => false }
def flipB (b : List UInt8) (i : Nat) (m : UInt8) : List UInt8 := b.set i (b.getD i 0 ^^^ m)
def flipF (f : Fl) (i : Nat) (m : UInt8) : Fl := { f with now := flipB f.now i m, lasts := flipB f.lasts i m }
/-- how far a file reaches behind a loss: what lasts, or where the last kept sector ends -/
def endK (now : Nat) (kept : Nat → Bool) : Nat → Nat
  | 0 => 0
  | k + 1 => if kept k then min (64 * (k + 1)) now else endK now kept k
def backB (f : Fl) (kept : Nat → Bool) : List UInt8 :=
  (List.range (max f.lasts.length (endK f.now.length kept (sect f.now.length)))).map fun i => if kept (i / 64) && decide (i < f.now.length) then f.now.getD i 0 else f.lasts.getD i 0
/-- which sectors of a file stay: so many loose ones stand ahead of its own -/
def keptF (f : Fl) (base : Nat) (keep : List Int) (k : Nat) : Bool := f.loose k && keep.contains ((base + ((List.range k).filter f.loose).length : Nat) : Int)
def backF (f : Fl) (base : Nat) (keep : List Int) : Fl := ⟨f.name, backB f (keptF f base keep), backB f (keptF f base keep), fun _ => false⟩
def backL (keep : List Int) : List Fl → Nat → List Fl
  | [], _ => []
  | f :: l, base => backF f base keep :: backL keep l (base + (looseF f).length)

/-! ### What is done -/
def goneS (s : Ds) : Ds := if 0 < s.armed then { s with armed := s.armed - 1, off := s.off || decide (s.armed = 1) } else s
def createS (s : Ds) (nm : List UInt8) : Ds × Nat :=
  if (goneS s).off then (goneS s, 6) else if nameOk nm = false then (goneS s, 1) else if (getF s.l nm).isSome then (goneS s, 4)
  else ({ goneS s with l := putF s.l ⟨nm, [], [], fun _ => false⟩ }, 0)
def removeS (s : Ds) (nm : List UInt8) : Ds × Nat :=
  if (goneS s).off then (goneS s, 6) else if nameOk nm = false then (goneS s, 1) else if (getF s.l nm).isNone then (goneS s, 3)
  else ({ goneS s with l := delF s.l nm }, 0)
def renameS (s : Ds) (a b : List UInt8) : Ds × Nat :=
  if (goneS s).off then (goneS s, 6) else if nameOk a = false ∨ nameOk b = false then (goneS s, 1) else
  match getF s.l a with
  | none => (goneS s, 3)
  | some f => ({ goneS s with l := putF (delF (delF s.l a) b) { f with name := b } }, 0)
def writeS (s : Ds) (nm : List UInt8) (off : Int) (b : List UInt8) : Ds × Nat :=
  if (goneS s).off then (goneS s, 6) else if nameOk nm = false ∨ off < 0 then (goneS s, 1) else
  match getF s.l nm with
  | none => (goneS s, 3)
  | some f =>
    if f.now.length < off.toNat then (goneS s, 1) else if 16777216 < off.toNat + b.length then (goneS s, 9)
    else if sect f.now.length < sect (max f.now.length (off.toNat + b.length)) ∧ s.q < usedL s.l + (sect (max f.now.length (off.toNat + b.length)) - sect f.now.length) then (goneS s, 5)
    else ({ goneS s with l := setF s.l (writeF f off.toNat b) }, 0)
def cutS (s : Ds) (nm : List UInt8) (n : Int) : Ds × Nat :=
  if (goneS s).off then (goneS s, 6) else if nameOk nm = false ∨ n < 0 then (goneS s, 1) else
  match getF s.l nm with
  | none => (goneS s, 3)
  | some f => if f.now.length < n.toNat then (goneS s, 1) else ({ goneS s with l := setF s.l (cutF f n.toNat) }, 0)
def syncS (s : Ds) (nm : List UInt8) : Ds × Nat :=
  if (goneS s).off then (goneS s, 6) else if nameOk nm = false then (goneS s, 1) else
  match getF s.l nm with
  | none => (goneS s, 3)
  | some f => ({ goneS s with l := setF s.l (syncF f) }, 0)
def readS (s : Ds) (nm : List UInt8) (off n : Int) : List UInt8 × Nat :=
  if s.off then ([], 6) else if nameOk nm = false ∨ off < 0 ∨ n < 0 then ([], 1) else
  match getF s.l nm with
  | none => ([], 3)
  | some f => ((f.now.drop off.toNat).take n.toNat, 0)
def sizeS (s : Ds) (nm : List UInt8) : Nat × Nat :=
  if s.off then (0, 6) else if nameOk nm = false then (0, 1) else
  match getF s.l nm with
  | none => (0, 3)
  | some f => (f.now.length, 0)
def quotaS (s : Ds) (n : Int) : Ds × Nat := if n < 0 ∨ 1048576 < n then (s, 1) else ({ s with q := n.toNat }, 0)
def armS (s : Ds) (n : Int) : Ds × Nat := if n < 0 then (s, 1) else if s.off then (s, 6) else ({ s with armed := n.toNat }, 0)
def onS (s : Ds) (keep : List Int) : Ds × Nat := if s.off = false then (s, 14) else (⟨backL keep s.l 0, s.q, 0, false⟩, 0)
def flipS (s : Ds) (nm : List UInt8) (i : Int) (m : UInt8) : Ds × Nat :=
  if s.off then (s, 6) else if nameOk nm = false ∨ m = 0 ∨ i < 0 then (s, 1) else
  match getF s.l nm with
  | none => (s, 3)
  | some f => if f.now.length ≤ i.toNat then (s, 1) else ({ s with l := setF s.l (flipF f i.toNat m) }, 0)
/-- what is done, and all that may be handed in with it -/
structure Opx where
  kind : Int
  name : List UInt8
  to : List UInt8
  off : Int
  n : Int
  b : List UInt8
  mask : UInt8
  keep : List Int
structure Ans where
  b : List UInt8
  n : Nat
  e : Nat
def doS (s : Ds) (o : Opx) : Ds × Ans :=
  if o.kind = 0 then ((createS s o.name).1, ⟨[], 0, (createS s o.name).2⟩)
  else if o.kind = 1 then ((removeS s o.name).1, ⟨[], 0, (removeS s o.name).2⟩)
  else if o.kind = 2 then ((renameS s o.name o.to).1, ⟨[], 0, (renameS s o.name o.to).2⟩)
  else if o.kind = 3 then ((writeS s o.name o.off o.b).1, ⟨[], 0, (writeS s o.name o.off o.b).2⟩)
  else if o.kind = 4 then ((cutS s o.name o.off).1, ⟨[], 0, (cutS s o.name o.off).2⟩)
  else if o.kind = 5 then ((syncS s o.name).1, ⟨[], 0, (syncS s o.name).2⟩)
  else if o.kind = 6 then (s, ⟨(readS s o.name o.off o.n).1, 0, (readS s o.name o.off o.n).2⟩)
  else if o.kind = 7 then (s, ⟨[], (sizeS s o.name).1, (sizeS s o.name).2⟩)
  else if o.kind = 8 then ((quotaS s o.n).1, ⟨[], 0, (quotaS s o.n).2⟩)
  else if o.kind = 9 then ((armS s o.n).1, ⟨[], 0, (armS s o.n).2⟩)
  else if o.kind = 10 then ((onS s o.keep).1, ⟨[], 0, (onS s o.keep).2⟩)
  else if o.kind = 11 then ((flipS s o.name o.off o.mask).1, ⟨[], 0, (flipS s o.name o.off o.mask).2⟩)
  else (s, ⟨[], 0, 0⟩)

/-! ### What holds of every disk -/
structure FlOk (f : Fl) : Prop where
  name : nameOk f.name = true
  size : f.now.length ≤ 16777216
  lasts : f.lasts.length ≤ f.now.length
  loose : ∀ k, f.loose k = true → k < sect f.now.length
structure DsOk (s : Ds) : Prop where
  rise : s.l.Pairwise fun f g => f.name < g.name
  files : ∀ f ∈ s.l, FlOk f
  q : s.q ≤ 1048576
end Go.Proofs.YtmholhjdpkfleaaDoor
/- Mathematics of no program: a disk of 4096 sectors with one file, named a. -/
namespace Go.Proofs.YtmholhjdpkfleaaDoor
set_option linter.unusedSimpArgs false
set_option linter.unusedVariables false
set_option maxRecDepth 100000

theorem layB_end (l b : List UInt8) : layB l l.length b = l ++ b := by
  unfold layB
  rw [List.take_length, List.drop_eq_nil_of_le (by omega)]
  simp
theorem layB_nil (b : List UInt8) : layB [] 0 b = b := by simp [layB]
theorem layB_length (now : List UInt8) (off : Nat) (b : List UInt8) (h : off ≤ now.length) : (layB now off b).length = max now.length (off + b.length) := by
  unfold layB
  simp only [List.length_append, List.length_take, List.length_drop]
  omega
theorem layB_get (now : List UInt8) (off : Nat) (b : List UInt8) (h : off ≤ now.length) (i : Nat) : (layB now off b)[i]? = if off ≤ i ∧ i < off + b.length then b[i - off]? else now[i]? := by
  unfold layB
  by_cases h1 : i < off
  · rw [if_neg (by omega), List.append_assoc, List.getElem?_append_left (by rw [List.length_take]; omega), List.getElem?_take, if_pos h1]
  · by_cases h2 : i < off + b.length
    · rw [if_pos ⟨by omega, h2⟩, List.append_assoc, List.getElem?_append_right (by rw [List.length_take]; omega), List.length_take, Nat.min_eq_left h, List.getElem?_append_left (by omega)]
    · rw [if_neg (by omega), List.getElem?_append_right (by rw [List.length_append, List.length_take]; omega), List.length_append, List.length_take, Nat.min_eq_left h, List.getElem?_drop]
      congr 1
      omega
theorem sect_le {a b : Nat} (h : a ≤ b) : sect a ≤ sect b := by unfold sect; omega
theorem endK_none (n : Nat) (kept : Nat → Bool) (h : ∀ k, kept k = false) (m : Nat) : endK n kept m = 0 := by
  induction m with
  | zero => rfl
  | succ m ih => rw [endK, h m]; simpa using ih
/-- nothing is kept: what lasts is left -/
theorem backB_none (f : Fl) (kept : Nat → Bool) (h : ∀ k, kept k = false) : backB f kept = f.lasts := by
  unfold backB
  rw [endK_none _ _ h, Nat.max_eq_left (Nat.zero_le _)]
  apply List.ext_getElem
  · simp
  · intro i h1 h2
    simp [h, List.getD, h2]
theorem keptF_nil (f : Fl) (base k : Nat) : keptF f base [] k = false := by simp [keptF]
theorem backF_nil (f : Fl) (base : Nat) : backF f base [] = ⟨f.name, f.lasts, f.lasts, fun _ => false⟩ := by
  unfold backF
  rw [backB_none f _ (fun k => keptF_nil f base k)]

def D1 (f : Fl) : Ds := ⟨[f], 4096, 0, false⟩
theorem ok_a : nameOk [97] = true := by decide
theorem gone1 (f : Fl) : goneS (D1 f) = D1 f := by simp [goneS, D1]
theorem get1 {f : Fl} (h : f.name = [97]) : getF [f] [97] = some f := by simp [getF, h]
theorem set1 {f g : Fl} (h : f.name = g.name) : setF [f] g = [g] := by simp [setF, h]
theorem create1 : createS ⟨[], 4096, 0, false⟩ [97] = (D1 ⟨[97], [], [], fun _ => false⟩, 0) := by
  simp [createS, goneS, ok_a, getF, putF, D1]
theorem write1 {f : Fl} (hn : f.name = [97]) {off : Nat} {b : List UInt8} (h : off ≤ f.now.length) (hs : max f.now.length (off + b.length) ≤ 262144) : writeS (D1 f) [97] (off : Int) b = (D1 (writeF f off b), 0) := by
  have h1 : ¬ (off : Int) < 0 := by omega
  have h2 : ¬ (f.now.length < off) := by omega
  have h3 : ¬ (16777216 < off + b.length) := by omega
  have h4 : ¬ (sect f.now.length < sect (max f.now.length (off + b.length)) ∧ 4096 < sect f.now.length + (sect (max f.now.length (off + b.length)) - sect f.now.length)) := by unfold sect; omega
  have e2 : usedL [f] = sect f.now.length := by simp [usedL]
  have e3 : setF [f] (writeF f off b) = [writeF f off b] := set1 rfl
  unfold writeS
  rw [gone1]
  simp only [D1, ok_a, get1 hn, Int.toNat_natCast, h1, or_false, Bool.true_eq_false, if_false, h2, h3, e2, e3]
  simp [h4]
theorem sync1 {f : Fl} (hn : f.name = [97]) : syncS (D1 f) [97] = (D1 (syncF f), 0) := by
  unfold syncS
  rw [gone1]
  simp only [D1, ok_a, get1 hn, Bool.true_eq_false, if_false]
  rw [set1 (by rfl)]
  simp
theorem cut1 {f : Fl} (hn : f.name = [97]) {n : Nat} (h : n ≤ f.now.length) : cutS (D1 f) [97] (n : Int) = (D1 (cutF f n), 0) := by
  have h1 : ¬ (n : Int) < 0 := by omega
  unfold cutS
  rw [gone1]
  have h2 : ¬ f.now.length < n := by omega
  have e3 : setF [f] (cutF f n) = [cutF f n] := set1 rfl
  simp [D1, ok_a, get1 hn, h1, h2, e3]
theorem cut1_no {f : Fl} (hn : f.name = [97]) {n : Int} (h : n < 0 ∨ (f.now.length : Int) < n) : cutS (D1 f) [97] n = (D1 f, 1) := by
  unfold cutS
  rw [gone1]
  by_cases h1 : n < 0
  · simp [D1, ok_a, h1]
  · have h2 : f.now.length < n.toNat := by omega
    simp [D1, ok_a, get1 hn, h1, h2]
theorem read1 {f : Fl} (hn : f.name = [97]) (h : f.now.length ≤ 16777216) : readS (D1 f) [97] 0 16777216 = (f.now, 0) := by
  have e : f.now.take 16777216 = f.now := List.take_of_length_le h
  simp [readS, D1, ok_a, get1 hn, e]
theorem size1 {f : Fl} (hn : f.name = [97]) : sizeS (D1 f) [97] = (f.now.length, 0) := by
  simp [sizeS, D1, ok_a, get1 hn]
theorem arm1 (f : Fl) : armS (D1 f) 1 = (⟨[f], 4096, 1, false⟩, 0) := by simp [armS, D1]
theorem dead1 (f : Fl) (nm : List UInt8) : createS ⟨[f], 4096, 1, false⟩ nm = (⟨[f], 4096, 0, true⟩, 6) := by simp [createS, goneS]
theorem on1 (f : Fl) (keep : List Int) : onS ⟨[f], 4096, 0, true⟩ keep = (D1 (backF f 0 keep), 0) := by simp [onS, backL, D1]
end Go.Proofs.YtmholhjdpkfleaaDoor
