/- Mathematics of no program: a disk of named files, what of them lasts, and what a loss of power leaves. -/
import Derived.Test.YtiohijkelagloaaDoorBase
namespace Go.Proofs.YtiohijkelagloaaDoor
set_option linter.unusedSimpArgs false
set_option linter.unusedVariables false
set_option maxRecDepth 100000

/-- a file: its name, what it holds now, what lasts, which sectors are loose -/
structure Fl where
  name : List UInt8
  now : List UInt8
  lasts : List UInt8
  loose : Nat → Bool
/-- a disk: its files by their names, the quota, how far the power is, is it off -/
structure Ds where
  l : List Fl
  q : Nat
  armed : Nat
  off : Bool
def sect (n : Nat) : Nat := (n + 63) / 64
def nameC (c : UInt8) : Bool := decide (97 ≤ c.toNat ∧ c.toNat ≤ 122 ∨ 48 ≤ c.toNat ∧ c.toNat ≤ 57 ∨ c.toNat = 46 ∨ c.toNat = 45)
def nameOk (s : List UInt8) : Bool := decide (1 ≤ s.length ∧ s.length ≤ 24) && s.all nameC
def getF (l : List Fl) (nm : List UInt8) : Option Fl := l.find? fun f => decide (f.name = nm)
def setF (l : List Fl) (f : Fl) : List Fl := l.map fun g => if g.name = f.name then f else g
def delF (l : List Fl) (nm : List UInt8) : List Fl := l.filter fun f => decide (f.name ≠ nm)
def putF : List Fl → Fl → List Fl
  | [], f => [f]
  | g :: l, f => if g.name < f.name then g :: putF l f else f :: g :: l
def usedL (l : List Fl) : Nat := (l.map fun f => sect f.now.length).sum
/-- the loose sectors of a file, rising -/
def looseF (f : Fl) : List Nat := (List.range (sect f.now.length)).filter f.loose
def placesL (l : List Fl) : List (List UInt8 × Nat) := l.flatMap fun f => (looseF f).map fun k => (f.name, k)
/-- bytes lie there from a place on -/
def layB (now : List UInt8) (off : Nat) (b : List UInt8) : List UInt8 := now.take off ++ b ++ now.drop (off + b.length)
def writeF (f : Fl) (off : Nat) (b : List UInt8) : Fl :=
  { f with now := layB f.now off b, loose := fun k => f.loose k || (decide (0 < b.length) && decide (off / 64 ≤ k) && decide (k ≤ (off + b.length - 1) / 64)) }
def cutF (f : Fl) (n : Nat) : Fl := { f with now := f.now.take n, lasts := f.lasts.take n, loose := fun k => f.loose k && decide (k < sect n) }
def syncF (f : Fl) : Fl := { f with lasts := f.now, loose := fun _ => false }
def flipB (b : List UInt8) (i : Nat) (m : UInt8) : List UInt8 := b.set i (b.getD i 0 ^^^ m)
def flipF (f : Fl) (i : Nat) (m : UInt8) : Fl := { f with now := flipB f.now i m, lasts := flipB f.lasts i m }
/-- how far a file reaches behind a loss: what lasts, or where the last kept sector ends -/
def endK (now : Nat) (kept : Nat → Bool) : Nat → Nat
  | 0 => 0
  | k + 1 => if kept k then min (64 * (k + 1)) now else endK now kept k
def backB (f : Fl) (kept : Nat → Bool) : List UInt8 :=
  (List.range (max f.lasts.length (endK f.now.length kept (sect f.now.length)))).map fun i => if kept (i / 64) && decide (i < f.now.length) then f.now.getD i 0 else f.lasts.getD i 0
/-- which sectors of a file stay: so many loose ones stand ahead of its own -/
def keptF (f : Fl) (base : Nat) (keep : List Int) (k : Nat) : Bool := f.loose k && keep.contains ((base + ((List.range k).filter f.loose).length : Nat) : Int)
def backF (f : Fl) (base : Nat) (keep : List Int) : Fl := ⟨f.name, backB f (keptF f base keep), backB f (keptF f base keep), fun _ => false⟩
def backL (keep : List Int) : List Fl → Nat → List Fl
  | [], _ => []
  | f :: l, base => backF f base keep :: backL keep l (base + (looseF f).length)

/-! ### What is done -/
def goneS (s : Ds) : Ds := if 0 < s.armed then { s with armed := s.armed - 1, off := s.off || decide (s.armed = 1) } else s
def createS (s : Ds) (nm : List UInt8) : Ds × Nat :=
  if (goneS s).off then (goneS s, 6) else if nameOk nm = false then (goneS s, 1) else if (getF s.l nm).isSome then (goneS s, 4)
  else ({ goneS s with l := putF s.l ⟨nm, [], [], fun _ => false⟩ }, 0)
def removeS (s : Ds) (nm : List UInt8) : Ds × Nat :=
  if (goneS s).off then (goneS s, 6) else if nameOk nm = false then (goneS s, 1) else if (getF s.l nm).isNone then (goneS s, 3)
  else ({ goneS s with l := delF s.l nm }, 0)
def renameS (s : Ds) (a b : List UInt8) : Ds × Nat :=
  if (goneS s).off then (goneS s, 6) else if nameOk a = false ∨ nameOk b = false then (goneS s, 1) else
  match getF s.l a with
  | none => (goneS s, 3)
  | some f => ({ goneS s with l := putF (delF (delF s.l a) b) { f with name := b } }, 0)
def writeS (s : Ds) (nm : List UInt8) (off : Int) (b : List UInt8) : Ds × Nat :=
  if (goneS s).off then (goneS s, 6) else if nameOk nm = false ∨ off < 0 then (goneS s, 1) else
  match getF s.l nm with
  | none => (goneS s, 3)
  | some f =>
    if f.now.length < off.toNat then (goneS s, 1) else if 16777216 < off.toNat + b.length then (goneS s, 9)
    else if sect f.now.length < sect (max f.now.length (off.toNat + b.length)) ∧ s.q < usedL s.l + (sect (max f.now.length (off.toNat + b.length)) - sect f.now.length) then (goneS s, 5)
    else ({ goneS s with l := setF s.l (writeF f off.toNat b) }, 0)
def cutS (s : Ds) (nm : List UInt8) (n : Int) : Ds × Nat :=
  if (goneS s).off then (goneS s, 6) else if nameOk nm = false ∨ n < 0 then (goneS s, 1) else
  match getF s.l nm with
  | none => (goneS s, 3)
  | some f => if f.now.length < n.toNat then (goneS s, 1) else ({ goneS s with l := setF s.l (cutF f n.toNat) }, 0)
def syncS (s : Ds) (nm : List UInt8) : Ds × Nat :=
  if (goneS s).off then (goneS s, 6) else if nameOk nm = false then (goneS s, 1) else
  match getF s.l nm with
  | none => (goneS s, 3)
  | some f => ({ goneS s with l := setF s.l (syncF f) }, 0)
def readS (s : Ds) (nm : List UInt8) (off n : Int) : List UInt8 × Nat :=
  if s.off then ([], 6) else if nameOk nm = false ∨ off < 0 ∨ n < 0 then ([], 1) else
  match getF s.l nm with
  | none => ([], 3)
  | some f => ((f.now.drop off.toNat).take n.toNat, 0)
def sizeS (s : Ds) (nm : List UInt8) : Nat × Nat :=
  if s.off then (0, 6) else if nameOk nm = false then (0, 1) else
  match getF s.l nm with
  | none => (0, 3)
  | some f => (f.now.length, 0)
def quotaS (s : Ds) (n : Int) : Ds × Nat := if n < 0 ∨ 1048576 < n then (s, 1) else ({ s with q := n.toNat }, 0)
def armS (s : Ds) (n : Int) : Ds × Nat := if n < 0 then (s, 1) else if s.off then (s, 6) else ({ s with armed := n.toNat }, 0)
def onS (s : Ds) (keep : List Int) : Ds × Nat := if s.off = false then (s, 14) else (⟨backL keep s.l 0, s.q, 0, false⟩, 0)
def flipS (s : Ds) (nm : List UInt8) (i : Int) (m : UInt8) : Ds × Nat :=
  if s.off then (s, 6) else if nameOk nm = false ∨ m = 0 ∨ i < 0 then (s, 1) else
  match getF s.l nm with
  | none => (s, 3)
  | some f => if f.now.length ≤ i.toNat then (s, 1) else ({ s with l := setF s.l (flipF f i.toNat m) }, 0)
/-- what is done, and all that may be handed in with it -/
structure Opx where
  kind : Int
  name : List UInt8
  to : List UInt8
  off : Int
  n : Int
  b : List UInt8
  mask : UInt8
  keep : List Int
structure Ans where
  b : List UInt8
  n : Nat
  e : Nat
def doS (s : Ds) (o : Opx) : Ds × Ans :=
  if o.kind = 0 then ((createS s o.name).1, ⟨[], 0, (createS s o.name).2⟩)
  else if o.kind = 1 then ((removeS s o.name).1, ⟨[], 0, (removeS s o.name).2⟩)
  else if o.kind = 2 then ((renameS s o.name o.to).1, ⟨[], 0, (renameS s o.name o.to).2⟩)
  else if o.kind = 3 then ((writeS s o.name o.off o.b).1, ⟨[], 0, (writeS s o.name o.off o.b).2⟩)
  else if o.kind = 4 then ((cutS s o.name o.off).1, ⟨[], 0, (cutS s o.name o.off).2⟩)
  else if o.kind = 5 then ((syncS s o.name).1, ⟨[], 0, (syncS s o.name).2⟩)
  else if o.kind = 6 then (s, ⟨(readS s o.name o.off o.n).1, 0, (readS s o.name o.off o.n).2⟩)
  else if o.kind = 7 then (s, ⟨[], (sizeS s o.name).1, (sizeS s o.name).2⟩)
  else if o.kind = 8 then ((quotaS s o.n).1, ⟨[], 0, (quotaS s o.n).2⟩)
  else if o.kind = 9 then ((armS s o.n).1, ⟨[], 0, (armS s o.n).2⟩)
  else if o.kind = 10 then ((onS s o.keep).1, ⟨[], 0, (onS s o.keep).2⟩)
  else if o.kind = 11 then ((flipS s o.name o.off o.mask).1, ⟨[], 0, (flipS s o.name o.off o.mask).2⟩)
  else (s, ⟨[], 0, 0⟩)

/-! ### What holds of every disk -/
structure FlOk (f : Fl) : Prop where
  name : nameOk f.name = true
  size : f.now.length ≤ 16777216
  lasts : f.lasts.length ≤ f.now.length
  loose : ∀ k, f.loose k = true → k < sect f.now.length
structure DsOk (s : Ds) : Prop where
  rise : s.l.Pairwise fun f g => f.name < g.name
  files : ∀ f ∈ s.l, FlOk f
  q : s.q ≤ 1048576
end Go.Proofs.YtiohijkelagloaaDoor
