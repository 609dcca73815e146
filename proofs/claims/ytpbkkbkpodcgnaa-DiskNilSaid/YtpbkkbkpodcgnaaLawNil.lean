/- Something is done with no disk: the walks of 'does' once more, over what is answered of no disk. (Written by mknil.py.) -/
import Derived.Test.YtpbkkbkpodcgnaaLawDisk3
import Derived.Test.YtpbkkbkpodcgnaaDkNil
namespace Go.Proofs.Ytpbkkbkpodcgnaa.Nil
open Go.RowKit
set_option linter.unusedSimpArgs false
set_option linter.unusedVariables false
set_option maxRecDepth 100000

def dpt (b : Nat) : Value := .pointer none
def createS (s : Ds) (nm : List UInt8) : Ds × Nat := (s, 2)
def removeS (s : Ds) (nm : List UInt8) : Ds × Nat := (s, 2)
def renameS (s : Ds) (a b : List UInt8) : Ds × Nat := (s, 2)
def writeS (s : Ds) (nm : List UInt8) (off : Int) (b : List UInt8) : Ds × Nat := (s, 2)
def cutS (s : Ds) (nm : List UInt8) (n : Int) : Ds × Nat := (s, 2)
def syncS (s : Ds) (nm : List UInt8) : Ds × Nat := (s, 2)
def readS (s : Ds) (nm : List UInt8) (off n : Int) : List UInt8 × Nat := ([], 2)
def sizeS (s : Ds) (nm : List UInt8) : Nat × Nat := (0, 2)
def quotaS (s : Ds) (n : Int) : Ds × Nat := (s, 2)
def armS (s : Ds) (n : Int) : Ds × Nat := (s, 2)
def onS (s : Ds) (keep : List Int) : Ds × Nat := (s, 2)
def flipS (s : Ds) (nm : List UInt8) (i : Int) (m : UInt8) : Ds × Nat := (s, 2)
theorem readS_len {s : Ds} (h : DsOk s) (nm : List UInt8) (off n : Int) : (readS s nm off n).1.length ≤ 16777216 := by simp [readS]
def doS (s : Ds) (o : Opx) : Ds × Ans :=
  if o.kind = 0 then ((createS s o.name).1, ⟨[], 0, (createS s o.name).2⟩)
  else if o.kind = 1 then ((removeS s o.name).1, ⟨[], 0, (removeS s o.name).2⟩)
  else if o.kind = 2 then ((renameS s o.name o.to).1, ⟨[], 0, (renameS s o.name o.to).2⟩)
  else if o.kind = 3 then ((writeS s o.name o.off o.b).1, ⟨[], 0, (writeS s o.name o.off o.b).2⟩)
  else if o.kind = 4 then ((cutS s o.name o.off).1, ⟨[], 0, (cutS s o.name o.off).2⟩)
  else if o.kind = 5 then ((syncS s o.name).1, ⟨[], 0, (syncS s o.name).2⟩)
  else if o.kind = 6 then (s, ⟨(readS s o.name o.off o.n).1, 0, (readS s o.name o.off o.n).2⟩)
  else if o.kind = 7 then (s, ⟨[], (sizeS s o.name).1, (sizeS s o.name).2⟩)
  else if o.kind = 8 then ((quotaS s o.n).1, ⟨[], 0, (quotaS s o.n).2⟩)
  else if o.kind = 9 then ((armS s o.n).1, ⟨[], 0, (armS s o.n).2⟩)
  else if o.kind = 10 then ((onS s o.keep).1, ⟨[], 0, (onS s o.keep).2⟩)
  else if o.kind = 11 then ((flipS s o.name o.off o.mask).1, ⟨[], 0, (flipS s o.name o.off o.mask).2⟩)
  else (s, ⟨[], 0, 0⟩)

structure DiskOk where
  Z : World → Prop
  keep : ∀ {w w' : World}, Z w → Keeps w w' → Z w'
  D : World → Nat → (Nat → Prop) → Ds → Prop
  lt : ∀ {w : World} {b : Nat} {F : Nat → Prop} {s : Ds}, D w b F s → ∀ i, F i → i < w.heap.size
  same : ∀ {w w' : World} {b : Nat} {F : Nat → Prop} {s : Ds}, D w b F s → (∀ i, F i → w'.heap[i]? = w.heap[i]?) → w.heap.size ≤ w'.heap.size → D w' b F s
  ok : ∀ {w : World} {b : Nat} {F : Nat → Prop} {s : Ds}, D w b F s → DsOk s
  create : ∀ {w : World} {b : Nat} {F : Nat → Prop} {s : Ds} (nm : List UInt8), Z w → D w b F s → nm.length ≤ maxLen →
    Calls Try.prog 21 #[dpt b, strV nm] w fun e w' => e = .returned (.int .i64 ((createS s nm).2 : Int)) ∧ ∃ F', D w' b F' (createS s nm).1 ∧ Turns w w' F F'
  remove : ∀ {w : World} {b : Nat} {F : Nat → Prop} {s : Ds} (nm : List UInt8), Z w → D w b F s → nm.length ≤ maxLen →
    Calls Try.prog 36 #[dpt b, strV nm] w fun e w' => e = .returned (.int .i64 ((removeS s nm).2 : Int)) ∧ ∃ F', D w' b F' (removeS s nm).1 ∧ Turns w w' F F'
  rename : ∀ {w : World} {b : Nat} {F : Nat → Prop} {s : Ds} (nm to : List UInt8), Z w → D w b F s → nm.length ≤ maxLen → to.length ≤ maxLen →
    Calls Try.prog 35 #[dpt b, strV nm, strV to] w fun e w' => e = .returned (.int .i64 ((renameS s nm to).2 : Int)) ∧ ∃ F', D w' b F' (renameS s nm to).1 ∧ Turns w w' F F'
  write : ∀ {w : World} {b : Nat} {F : Nat → Prop} {s : Ds} (nm : List UInt8) (off : Int) (A : Option Addr) (n c : Nat) (l : List UInt8), Z w → D w b F s → nm.length ≤ maxLen → -9223372036854775808 ≤ off → off ≤ 9223372036854775807 →
    Bs w A l → (∀ ad, A = some ad → ¬ F ad.block) → n = l.length → n ≤ c → n ≤ 70000 →
    Calls Try.prog 23 #[dpt b, strV nm, .int .i64 off, .slice A n c] w fun e w' => e = .returned (.int .i64 ((writeS s nm off l).2 : Int)) ∧ ∃ F', D w' b F' (writeS s nm off l).1 ∧ Turns w w' F F'
  cut : ∀ {w : World} {b : Nat} {F : Nat → Prop} {s : Ds} (nm : List UInt8) (n : Int), Z w → D w b F s → nm.length ≤ maxLen → -9223372036854775808 ≤ n → n ≤ 9223372036854775807 →
    Calls Try.prog 22 #[dpt b, strV nm, .int .i64 n] w fun e w' => e = .returned (.int .i64 ((cutS s nm n).2 : Int)) ∧ ∃ F', D w' b F' (cutS s nm n).1 ∧ Turns w w' F F'
  sync : ∀ {w : World} {b : Nat} {F : Nat → Prop} {s : Ds} (nm : List UInt8), Z w → D w b F s → nm.length ≤ maxLen →
    Calls Try.prog 25 #[dpt b, strV nm] w fun e w' => e = .returned (.int .i64 ((syncS s nm).2 : Int)) ∧ ∃ F', D w' b F' (syncS s nm).1 ∧ Turns w w' F F'
  read : ∀ {w : World} {b : Nat} {F : Nat → Prop} {s : Ds} (nm : List UInt8) (off n : Int), Z w → D w b F s → nm.length ≤ maxLen → -9223372036854775808 ≤ off → off ≤ 9223372036854775807 → -9223372036854775808 ≤ n → n ≤ 9223372036854775807 →
    Calls Try.prog 28 #[dpt b, strV nm, .int .i64 off, .int .i64 n] w fun e w' => ∃ v, e = .returned (.tuple #[v, .int .i64 ((readS s nm off n).2 : Int)]) ∧ Own w' w.heap.size 5 1 v (readS s nm off n).1.length (cel (readS s nm off n).1) ∧ Keeps w w'
  size : ∀ {w : World} {b : Nat} {F : Nat → Prop} {s : Ds} (nm : List UInt8), Z w → D w b F s → nm.length ≤ maxLen →
    Calls Try.prog 31 #[dpt b, strV nm] w fun e w' => e = .returned (.tuple #[.int .i64 ((sizeS s nm).1 : Int), .int .i64 ((sizeS s nm).2 : Int)]) ∧ Keeps w w'
  quota : ∀ {w : World} {b : Nat} {F : Nat → Prop} {s : Ds} (n : Int), Z w → D w b F s → -9223372036854775808 ≤ n → n ≤ 9223372036854775807 →
    Calls Try.prog 37 #[dpt b, .int .i64 n] w fun e w' => e = .returned (.int .i64 ((quotaS s n).2 : Int)) ∧ ∃ F', D w' b F' (quotaS s n).1 ∧ Turns w w' F F'
  arm : ∀ {w : World} {b : Nat} {F : Nat → Prop} {s : Ds} (n : Int), Z w → D w b F s → -9223372036854775808 ≤ n → n ≤ 9223372036854775807 →
    Calls Try.prog 20 #[dpt b, .int .i64 n] w fun e w' => e = .returned (.int .i64 ((armS s n).2 : Int)) ∧ ∃ F', D w' b F' (armS s n).1 ∧ Turns w w' F F'
  on : ∀ {w : World} {b : Nat} {F : Nat → Prop} {s : Ds} (A : Option Addr) (n c : Nat) (l : List Int), Z w → D w b F s → At w w.heap.size A (intC l) → (∀ ad, A = some ad → ¬ F ad.block) → n = l.length → n ≤ c → n ≤ 70000 →
    Calls Try.prog 26 #[dpt b, .slice A n c] w fun e w' => e = .returned (.int .i64 ((onS s l).2 : Int)) ∧ ∃ F', D w' b F' (onS s l).1 ∧ Turns w w' F F'
  flip : ∀ {w : World} {b : Nat} {F : Nat → Prop} {s : Ds} (nm : List UInt8) (i : Int) (m : UInt8), Z w → D w b F s → nm.length ≤ maxLen → -9223372036854775808 ≤ i → i ≤ 9223372036854775807 →
    Calls Try.prog 38 #[dpt b, strV nm, .int .i64 i, .int .u8 (m.toNat : Int)] w fun e w' => e = .returned (.int .i64 ((flipS s nm i m).2 : Int)) ∧ ∃ F', D w' b F' (flipS s nm i m).1 ∧ Turns w w' F F'
/-- a disk that came of this call, made since w0 -/
structure Have (K : DiskOk) (w0 w : World) (b : Nat) (F : Nat → Prop) (s : Ds) : Prop where
  D : K.D w b F s
  low : ∀ i, F i → w0.heap.size ≤ i
  kp : Keeps w0 w
theorem Have.step {K : DiskOk} {w0 w w' : World} {b : Nat} {F F' : Nat → Prop} {s s' : Ds} (h : Have K w0 w b F s) (hD : K.D w' b F' s') (ht : Turns w w' F F') : Have K w0 w' b F' s' :=
  ⟨hD, fun i hi => by
    rcases ht.next i hi with h1 | h1
    · exact h.low i h1
    · exact Nat.le_trans h.kp.size h1, ht.keeps h.kp h.low⟩
theorem Have.keep {K : DiskOk} {w0 w w' : World} {b : Nat} {F : Nat → Prop} {s : Ds} (h : Have K w0 w b F s) (k : Keeps w w') : Have K w0 w' b F s :=
  ⟨K.same h.D (fun i hi => k.block i (K.lt h.D i hi)) k.size, h.low, keeps_trans h.kp k⟩
theorem Have.z {K : DiskOk} {w0 w : World} {b : Nat} {F : Nat → Prop} {s : Ds} (h : Have K w0 w b F s) (hZ : K.Z w0) : K.Z w := K.keep hZ h.kp
/-- what was done, and answered -/
def DoneV (K : DiskOk) (w : World) (b : Nat) (F : Nat → Prop) (s : Ds) (o : Opx) (e : Ending) (w' : World) : Prop :=
  ∃ v F', e = .returned (.tuple #[.agg #[v, .int .i64 ((doS s o).2.n : Int), .int .i64 ((doS s o).2.e : Int)], .bool true]) ∧ Own w' w.heap.size 5 1 v (doS s o).2.b.length (cel (doS s o).2.b) ∧
    K.D w' b F' (doS s o).1 ∧ Turns w w' F F' ∧ (∀ k, v.ownBlock = some k → ¬ F' k)
/-- the end of it, where a number and an error are told -/
theorem done_close {K : DiskOk} {w W w1 w2 : World} {b : Nat} {F F' : Nat → Prop} {s : Ds} {o : Opx} {v : Value} (hb : (doS s o).2.b = [])
    (hD : K.D w1 b F' (doS s o).1) (hT : Turns W w1 F F') (k : Keeps w W) (hF : ∀ i, F i → i < w.heap.size) (ho : Only w1 w2 (fun i => w.heap.size ≤ i ∧ i < W.heap.size))
    (he : Ending.returned v = .returned (.tuple #[.agg #[.slice none 0 0, .int .i64 ((doS s o).2.n : Int), .int .i64 ((doS s o).2.e : Int)], .bool true])) : DoneV K w b F s o (.returned v) w2 := by
  refine ⟨.slice none 0 0, F', he, ?_, K.same hD (fun i hi => ho.block i (K.lt hD i hi) (fun h => ?_)) ho.size, hT.wrap k hF (ho.weak (fun i h => h.1)), fun k hk => by simp [Value.ownBlock] at hk⟩
  · rw [hb]
    exact Own.nil _ _ _ _
  · exact (hT.notIn h.2 (fun e => by have := hF i e; omega)) hi
theorem only_xt (w1 : World) (B S : Nat) (ps : List (Addr × Value)) (h : ∀ p ∈ ps, B ≤ p.1.block ∧ p.1.block < S) : Only w1 (ps.foldl (fun w p => w.setCell p.1 p.2) w1) (fun i => B ≤ i ∧ i < S) := by
  induction ps generalizing w1 with
  | nil => exact Only.refl _ _
  | cons p ps ih =>
    refine ((Only.cell1 w1 p.1 p.2).weak (T := fun i => B ≤ i ∧ i < S) (fun i e => by rw [e]; exact h p (by simp))).trans (ih _ (fun q hq => h q (by simp [hq]))) (fun i hi => .inl hi)

theorem size_turn (K : DiskOk) {w : World} {b : Nat} {F : Nat → Prop} {s : Ds} (nm : List UInt8) (hZ : K.Z w) (hD : K.D w b F s) (hnm : nm.length ≤ maxLen) :
    Calls Try.prog 31 #[dpt b, strV nm] w fun e w2 => e = .returned (.tuple #[.int .i64 ((sizeS s nm).1 : Int), .int .i64 ((sizeS s nm).2 : Int)]) ∧ ∃ F1, K.D w2 b F1 s ∧ Turns w w2 F F1 :=
  (K.size nm hZ hD hnm).mono fun e w2 q => ⟨q.1, F, K.same hD (fun i hi => q.2.block i (K.lt hD i hi)) q.2.size, Turns.of_keeps q.2⟩
theorem keeps_alloc3 (w : World) (x y z : Obj) : Keeps w (((w.alloc x).alloc y).alloc z) := keeps_trans (keeps_trans (keeps_alloc _ _) (keeps_alloc _ _)) (keeps_alloc _ _)
theorem box_second (w : World) (x : Obj) (T : TypeId) (cs : Array Value) (z : Obj) : Box (((w.alloc x).alloc (.cells cs T)).alloc z) (w.heap.size + 1) T cs := by
  have := (Box.new (w.alloc x) T cs).keep (keeps_alloc _ z)
  simpa using this
theorem box_third3 (w : World) (x y : Obj) (T : TypeId) (cs : Array Value) : Box (((w.alloc x).alloc y).alloc (.cells cs T)) (w.heap.size + 1 + 1) T cs := by
  have := Box.new ((w.alloc x).alloc y) T cs
  simpa using this

set_option maxHeartbeats 8000000 in
theorem does_create (K : DiskOk) {w0 w : World} {b : Nat} {F : Nat → Prop} {s : Ds} (hZ : K.Z w0) (h : Have K w0 w b F s) (o : OpS) (ho : OpOk w0 o) (hk : o.x.kind = 0) :
    Calls Try.prog 13 #[dpt b, .agg (opA o)] w (DoneV K w b F s o.x) := by
  have hF := K.lt h.D
  have kW := keeps_alloc3 w (.cells (opA o) 25) (.cells #[.slice none 0 0, .int .i64 0, .int .i64 0] 32) (.cells #[.slice none 0 0, .int .i64 0, .int .i64 0] 32)
  have hs3 : (((w.alloc (.cells (opA o) 25)).alloc (.cells #[.slice none 0 0, .int .i64 0, .int .i64 0] 32)).alloc (.cells #[.slice none 0 0, .int .i64 0, .int .i64 0] 32)).heap.size = w.heap.size + 3 := by simp
  have B1 := box_second w (.cells (opA o) 25) 32 #[.slice none 0 0, .int .i64 0, .int .i64 0] (.cells #[.slice none 0 0, .int .i64 0, .int .i64 0] 32)
  have B2 := box_third3 w (.cells (opA o) 25) (.cells #[.slice none 0 0, .int .i64 0, .int .i64 0] 32) 32 #[.slice none 0 0, .int .i64 0, .int .i64 0]
  have C := Lib.hid (K.create o.x.name (K.keep (h.z hZ) kW) (h.keep kW).D ho.nm )
  have HD : doS s o.x = ((createS s o.x.name).1, ⟨[], 0, (createS s o.x.name).2⟩) := by unfold doS; rw [hk]; rfl
  have HF := Lib.hid hF
  have HS3 := Lib.hid hs3
  unfold opA at *
  unfold dpt strV at *
  rw [hk] at *
  clear hF h hs3 ho
  go_enter Try.func13, Try.ntmps13
  go_wp2_with fail
  refine C.out.mono ?_
  rintro e w1 ⟨rfl, F', hD, hT⟩
  have n1 : ¬ F (w.heap.size + 1) := fun e => by have := HF.out _ e; omega
  have n2 : ¬ F (w.heap.size + 1 + 1) := fun e => by have := HF.out _ e; omega
  have X1 := B1.turned hT n1
  have X2 := B2.turned hT n2
  have c10 := X1.cell 0 rfl
  have c11 := X1.cell 1 rfl
  have c12 := X1.cell 2 rfl
  have f10 := X1.frozen 0
  have f11 := X1.frozen 1
  have f12 := X1.frozen 2
  have c20 := X2.cell 0 rfl
  have c21 := X2.cell 1 rfl
  have c22 := X2.cell 2 rfl
  have f21 := X2.frozen 1
  have f22 := X2.frozen 2
  have HDD := Lib.hid hD
  have HT := Lib.hid hT
  have HDO := Lib.hid HD
  clear hD hT B1 B2 X2 n1 n2 HD
  obtain ⟨E, hE⟩ : ∃ E : Int, (((createS s o.x.name).2 : Nat) : Int) = E := ⟨_, rfl⟩
  rw [hE]
  have HE := Lib.hid hE.symm
  clear hE
  go_wp2_with fail
  have XB : Box (((((w1).setCell ⟨w.heap.size + 1 + 1, 2, none⟩ (.int .i64 E)).setCell ⟨w.heap.size + 1, 0, none⟩ (.slice none 0 0)).setCell ⟨w.heap.size + 1, 1, none⟩ (.int .i64 0)).setCell ⟨w.heap.size + 1, 2, none⟩ (.int .i64 E)) (w.heap.size + 1) 32 #[.slice none 0 0, .int .i64 0, .int .i64 E] := by simpa using ((((X1.far (p := ⟨w.heap.size + 1 + 1, 2, none⟩) (show w.heap.size + 1 ≠ w.heap.size + 1 + 1 by omega) (.int .i64 E)).set 0 (.slice none 0 0)).set 1 (.int .i64 0)).set 2 (.int .i64 E))
  have XO : Only w1 (((((w1).setCell ⟨w.heap.size + 1 + 1, 2, none⟩ (.int .i64 E)).setCell ⟨w.heap.size + 1, 0, none⟩ (.slice none 0 0)).setCell ⟨w.heap.size + 1, 1, none⟩ (.int .i64 0)).setCell ⟨w.heap.size + 1, 2, none⟩ (.int .i64 E)) (fun i => w.heap.size ≤ i ∧ i < w.heap.size + 3) := only_xt w1 (w.heap.size) (w.heap.size + 3) [((⟨w.heap.size + 1 + 1, 2, none⟩ : Addr), (.int .i64 E : Value)), ((⟨w.heap.size + 1, 0, none⟩ : Addr), (.slice none 0 0 : Value)), ((⟨w.heap.size + 1, 1, none⟩ : Addr), (.int .i64 0 : Value)), ((⟨w.heap.size + 1, 2, none⟩ : Addr), (.int .i64 E : Value))] (by simp <;> omega)
  generalize ((((w1).setCell ⟨w.heap.size + 1 + 1, 2, none⟩ (.int .i64 E)).setCell ⟨w.heap.size + 1, 0, none⟩ (.slice none 0 0)).setCell ⟨w.heap.size + 1, 1, none⟩ (.int .i64 0)).setCell ⟨w.heap.size + 1, 2, none⟩ (.int .i64 E) = W4 at *
  have d0 := XB.cell 0 rfl
  have d1 := XB.cell 1 rfl
  have d2 := XB.cell 2 rfl
  refine bodyPost_ret (v := .tuple #[.agg #[.slice none 0 0, .int .i64 0, .int .i64 E], .bool true]) (by simp [results, Try.results13, go_sem, d0, d1, d2]) rfl ?_
  exact done_close (by rw [HDO.out]) (by rw [HDO.out]; exact HDD.out) HT.out kW HF.out (by rw [HS3.out]; exact XO) (by rw [HDO.out]; show Ending.returned _ = Ending.returned (.tuple #[.agg #[.slice none 0 0, .int .i64 0, .int .i64 (((createS s o.x.name).2 : Nat) : Int)], .bool true]); rw [← HE.out])

set_option maxHeartbeats 8000000 in
theorem does_remove (K : DiskOk) {w0 w : World} {b : Nat} {F : Nat → Prop} {s : Ds} (hZ : K.Z w0) (h : Have K w0 w b F s) (o : OpS) (ho : OpOk w0 o) (hk : o.x.kind = 1) :
    Calls Try.prog 13 #[dpt b, .agg (opA o)] w (DoneV K w b F s o.x) := by
  have hF := K.lt h.D
  have kW := keeps_alloc3 w (.cells (opA o) 25) (.cells #[.slice none 0 0, .int .i64 0, .int .i64 0] 32) (.cells #[.slice none 0 0, .int .i64 0, .int .i64 0] 32)
  have hs3 : (((w.alloc (.cells (opA o) 25)).alloc (.cells #[.slice none 0 0, .int .i64 0, .int .i64 0] 32)).alloc (.cells #[.slice none 0 0, .int .i64 0, .int .i64 0] 32)).heap.size = w.heap.size + 3 := by simp
  have B1 := box_second w (.cells (opA o) 25) 32 #[.slice none 0 0, .int .i64 0, .int .i64 0] (.cells #[.slice none 0 0, .int .i64 0, .int .i64 0] 32)
  have B2 := box_third3 w (.cells (opA o) 25) (.cells #[.slice none 0 0, .int .i64 0, .int .i64 0] 32) 32 #[.slice none 0 0, .int .i64 0, .int .i64 0]
  have C := Lib.hid (K.remove o.x.name (K.keep (h.z hZ) kW) (h.keep kW).D ho.nm )
  have HD : doS s o.x = ((removeS s o.x.name).1, ⟨[], 0, (removeS s o.x.name).2⟩) := by unfold doS; rw [hk]; rfl
  have HF := Lib.hid hF
  have HS3 := Lib.hid hs3
  unfold opA at *
  unfold dpt strV at *
  rw [hk] at *
  clear hF h hs3 ho
  go_enter Try.func13, Try.ntmps13
  go_wp2_with fail
  refine C.out.mono ?_
  rintro e w1 ⟨rfl, F', hD, hT⟩
  have n1 : ¬ F (w.heap.size + 1) := fun e => by have := HF.out _ e; omega
  have n2 : ¬ F (w.heap.size + 1 + 1) := fun e => by have := HF.out _ e; omega
  have X1 := B1.turned hT n1
  have X2 := B2.turned hT n2
  have c10 := X1.cell 0 rfl
  have c11 := X1.cell 1 rfl
  have c12 := X1.cell 2 rfl
  have f10 := X1.frozen 0
  have f11 := X1.frozen 1
  have f12 := X1.frozen 2
  have c20 := X2.cell 0 rfl
  have c21 := X2.cell 1 rfl
  have c22 := X2.cell 2 rfl
  have f21 := X2.frozen 1
  have f22 := X2.frozen 2
  have HDD := Lib.hid hD
  have HT := Lib.hid hT
  have HDO := Lib.hid HD
  clear hD hT B1 B2 X2 n1 n2 HD
  obtain ⟨E, hE⟩ : ∃ E : Int, (((removeS s o.x.name).2 : Nat) : Int) = E := ⟨_, rfl⟩
  rw [hE]
  have HE := Lib.hid hE.symm
  clear hE
  go_wp2_with fail
  have XB : Box (((((w1).setCell ⟨w.heap.size + 1 + 1, 2, none⟩ (.int .i64 E)).setCell ⟨w.heap.size + 1, 0, none⟩ (.slice none 0 0)).setCell ⟨w.heap.size + 1, 1, none⟩ (.int .i64 0)).setCell ⟨w.heap.size + 1, 2, none⟩ (.int .i64 E)) (w.heap.size + 1) 32 #[.slice none 0 0, .int .i64 0, .int .i64 E] := by simpa using ((((X1.far (p := ⟨w.heap.size + 1 + 1, 2, none⟩) (show w.heap.size + 1 ≠ w.heap.size + 1 + 1 by omega) (.int .i64 E)).set 0 (.slice none 0 0)).set 1 (.int .i64 0)).set 2 (.int .i64 E))
  have XO : Only w1 (((((w1).setCell ⟨w.heap.size + 1 + 1, 2, none⟩ (.int .i64 E)).setCell ⟨w.heap.size + 1, 0, none⟩ (.slice none 0 0)).setCell ⟨w.heap.size + 1, 1, none⟩ (.int .i64 0)).setCell ⟨w.heap.size + 1, 2, none⟩ (.int .i64 E)) (fun i => w.heap.size ≤ i ∧ i < w.heap.size + 3) := only_xt w1 (w.heap.size) (w.heap.size + 3) [((⟨w.heap.size + 1 + 1, 2, none⟩ : Addr), (.int .i64 E : Value)), ((⟨w.heap.size + 1, 0, none⟩ : Addr), (.slice none 0 0 : Value)), ((⟨w.heap.size + 1, 1, none⟩ : Addr), (.int .i64 0 : Value)), ((⟨w.heap.size + 1, 2, none⟩ : Addr), (.int .i64 E : Value))] (by simp <;> omega)
  generalize ((((w1).setCell ⟨w.heap.size + 1 + 1, 2, none⟩ (.int .i64 E)).setCell ⟨w.heap.size + 1, 0, none⟩ (.slice none 0 0)).setCell ⟨w.heap.size + 1, 1, none⟩ (.int .i64 0)).setCell ⟨w.heap.size + 1, 2, none⟩ (.int .i64 E) = W4 at *
  have d0 := XB.cell 0 rfl
  have d1 := XB.cell 1 rfl
  have d2 := XB.cell 2 rfl
  refine bodyPost_ret (v := .tuple #[.agg #[.slice none 0 0, .int .i64 0, .int .i64 E], .bool true]) (by simp [results, Try.results13, go_sem, d0, d1, d2]) rfl ?_
  exact done_close (by rw [HDO.out]) (by rw [HDO.out]; exact HDD.out) HT.out kW HF.out (by rw [HS3.out]; exact XO) (by rw [HDO.out]; show Ending.returned _ = Ending.returned (.tuple #[.agg #[.slice none 0 0, .int .i64 0, .int .i64 (((removeS s o.x.name).2 : Nat) : Int)], .bool true]); rw [← HE.out])

set_option maxHeartbeats 8000000 in
theorem does_rename (K : DiskOk) {w0 w : World} {b : Nat} {F : Nat → Prop} {s : Ds} (hZ : K.Z w0) (h : Have K w0 w b F s) (o : OpS) (ho : OpOk w0 o) (hk : o.x.kind = 2) :
    Calls Try.prog 13 #[dpt b, .agg (opA o)] w (DoneV K w b F s o.x) := by
  have hF := K.lt h.D
  have kW := keeps_alloc3 w (.cells (opA o) 25) (.cells #[.slice none 0 0, .int .i64 0, .int .i64 0] 32) (.cells #[.slice none 0 0, .int .i64 0, .int .i64 0] 32)
  have hs3 : (((w.alloc (.cells (opA o) 25)).alloc (.cells #[.slice none 0 0, .int .i64 0, .int .i64 0] 32)).alloc (.cells #[.slice none 0 0, .int .i64 0, .int .i64 0] 32)).heap.size = w.heap.size + 3 := by simp
  have B1 := box_second w (.cells (opA o) 25) 32 #[.slice none 0 0, .int .i64 0, .int .i64 0] (.cells #[.slice none 0 0, .int .i64 0, .int .i64 0] 32)
  have B2 := box_third3 w (.cells (opA o) 25) (.cells #[.slice none 0 0, .int .i64 0, .int .i64 0] 32) 32 #[.slice none 0 0, .int .i64 0, .int .i64 0]
  have C := Lib.hid (K.rename o.x.name o.x.to (K.keep (h.z hZ) kW) (h.keep kW).D ho.nm ho.to )
  have HD : doS s o.x = ((renameS s o.x.name o.x.to).1, ⟨[], 0, (renameS s o.x.name o.x.to).2⟩) := by unfold doS; rw [hk]; rfl
  have HF := Lib.hid hF
  have HS3 := Lib.hid hs3
  unfold opA at *
  unfold dpt strV at *
  rw [hk] at *
  clear hF h hs3 ho
  go_enter Try.func13, Try.ntmps13
  go_wp2_with fail
  refine C.out.mono ?_
  rintro e w1 ⟨rfl, F', hD, hT⟩
  have n1 : ¬ F (w.heap.size + 1) := fun e => by have := HF.out _ e; omega
  have n2 : ¬ F (w.heap.size + 1 + 1) := fun e => by have := HF.out _ e; omega
  have X1 := B1.turned hT n1
  have X2 := B2.turned hT n2
  have c10 := X1.cell 0 rfl
  have c11 := X1.cell 1 rfl
  have c12 := X1.cell 2 rfl
  have f10 := X1.frozen 0
  have f11 := X1.frozen 1
  have f12 := X1.frozen 2
  have c20 := X2.cell 0 rfl
  have c21 := X2.cell 1 rfl
  have c22 := X2.cell 2 rfl
  have f21 := X2.frozen 1
  have f22 := X2.frozen 2
  have HDD := Lib.hid hD
  have HT := Lib.hid hT
  have HDO := Lib.hid HD
  clear hD hT B1 B2 X2 n1 n2 HD
  obtain ⟨E, hE⟩ : ∃ E : Int, (((renameS s o.x.name o.x.to).2 : Nat) : Int) = E := ⟨_, rfl⟩
  rw [hE]
  have HE := Lib.hid hE.symm
  clear hE
  go_wp2_with fail
  have XB : Box (((((w1).setCell ⟨w.heap.size + 1 + 1, 2, none⟩ (.int .i64 E)).setCell ⟨w.heap.size + 1, 0, none⟩ (.slice none 0 0)).setCell ⟨w.heap.size + 1, 1, none⟩ (.int .i64 0)).setCell ⟨w.heap.size + 1, 2, none⟩ (.int .i64 E)) (w.heap.size + 1) 32 #[.slice none 0 0, .int .i64 0, .int .i64 E] := by simpa using ((((X1.far (p := ⟨w.heap.size + 1 + 1, 2, none⟩) (show w.heap.size + 1 ≠ w.heap.size + 1 + 1 by omega) (.int .i64 E)).set 0 (.slice none 0 0)).set 1 (.int .i64 0)).set 2 (.int .i64 E))
  have XO : Only w1 (((((w1).setCell ⟨w.heap.size + 1 + 1, 2, none⟩ (.int .i64 E)).setCell ⟨w.heap.size + 1, 0, none⟩ (.slice none 0 0)).setCell ⟨w.heap.size + 1, 1, none⟩ (.int .i64 0)).setCell ⟨w.heap.size + 1, 2, none⟩ (.int .i64 E)) (fun i => w.heap.size ≤ i ∧ i < w.heap.size + 3) := only_xt w1 (w.heap.size) (w.heap.size + 3) [((⟨w.heap.size + 1 + 1, 2, none⟩ : Addr), (.int .i64 E : Value)), ((⟨w.heap.size + 1, 0, none⟩ : Addr), (.slice none 0 0 : Value)), ((⟨w.heap.size + 1, 1, none⟩ : Addr), (.int .i64 0 : Value)), ((⟨w.heap.size + 1, 2, none⟩ : Addr), (.int .i64 E : Value))] (by simp <;> omega)
  generalize ((((w1).setCell ⟨w.heap.size + 1 + 1, 2, none⟩ (.int .i64 E)).setCell ⟨w.heap.size + 1, 0, none⟩ (.slice none 0 0)).setCell ⟨w.heap.size + 1, 1, none⟩ (.int .i64 0)).setCell ⟨w.heap.size + 1, 2, none⟩ (.int .i64 E) = W4 at *
  have d0 := XB.cell 0 rfl
  have d1 := XB.cell 1 rfl
  have d2 := XB.cell 2 rfl
  refine bodyPost_ret (v := .tuple #[.agg #[.slice none 0 0, .int .i64 0, .int .i64 E], .bool true]) (by simp [results, Try.results13, go_sem, d0, d1, d2]) rfl ?_
  exact done_close (by rw [HDO.out]) (by rw [HDO.out]; exact HDD.out) HT.out kW HF.out (by rw [HS3.out]; exact XO) (by rw [HDO.out]; show Ending.returned _ = Ending.returned (.tuple #[.agg #[.slice none 0 0, .int .i64 0, .int .i64 (((renameS s o.x.name o.x.to).2 : Nat) : Int)], .bool true]); rw [← HE.out])

set_option maxHeartbeats 8000000 in
theorem does_cut (K : DiskOk) {w0 w : World} {b : Nat} {F : Nat → Prop} {s : Ds} (hZ : K.Z w0) (h : Have K w0 w b F s) (o : OpS) (ho : OpOk w0 o) (hk : o.x.kind = 4) :
    Calls Try.prog 13 #[dpt b, .agg (opA o)] w (DoneV K w b F s o.x) := by
  have hF := K.lt h.D
  have kW := keeps_alloc3 w (.cells (opA o) 25) (.cells #[.slice none 0 0, .int .i64 0, .int .i64 0] 32) (.cells #[.slice none 0 0, .int .i64 0, .int .i64 0] 32)
  have hs3 : (((w.alloc (.cells (opA o) 25)).alloc (.cells #[.slice none 0 0, .int .i64 0, .int .i64 0] 32)).alloc (.cells #[.slice none 0 0, .int .i64 0, .int .i64 0] 32)).heap.size = w.heap.size + 3 := by simp
  have B1 := box_second w (.cells (opA o) 25) 32 #[.slice none 0 0, .int .i64 0, .int .i64 0] (.cells #[.slice none 0 0, .int .i64 0, .int .i64 0] 32)
  have B2 := box_third3 w (.cells (opA o) 25) (.cells #[.slice none 0 0, .int .i64 0, .int .i64 0] 32) 32 #[.slice none 0 0, .int .i64 0, .int .i64 0]
  have C := Lib.hid (K.cut o.x.name o.x.off (K.keep (h.z hZ) kW) (h.keep kW).D ho.nm ho.off.1 ho.off.2)
  have HD : doS s o.x = ((cutS s o.x.name o.x.off).1, ⟨[], 0, (cutS s o.x.name o.x.off).2⟩) := by unfold doS; rw [hk]; rfl
  have HF := Lib.hid hF
  have HS3 := Lib.hid hs3
  unfold opA at *
  unfold dpt strV at *
  rw [hk] at *
  clear hF h hs3 ho
  go_enter Try.func13, Try.ntmps13
  go_wp2_with fail
  refine C.out.mono ?_
  rintro e w1 ⟨rfl, F', hD, hT⟩
  have n1 : ¬ F (w.heap.size + 1) := fun e => by have := HF.out _ e; omega
  have n2 : ¬ F (w.heap.size + 1 + 1) := fun e => by have := HF.out _ e; omega
  have X1 := B1.turned hT n1
  have X2 := B2.turned hT n2
  have c10 := X1.cell 0 rfl
  have c11 := X1.cell 1 rfl
  have c12 := X1.cell 2 rfl
  have f10 := X1.frozen 0
  have f11 := X1.frozen 1
  have f12 := X1.frozen 2
  have c20 := X2.cell 0 rfl
  have c21 := X2.cell 1 rfl
  have c22 := X2.cell 2 rfl
  have f21 := X2.frozen 1
  have f22 := X2.frozen 2
  have HDD := Lib.hid hD
  have HT := Lib.hid hT
  have HDO := Lib.hid HD
  clear hD hT B1 B2 X2 n1 n2 HD
  obtain ⟨E, hE⟩ : ∃ E : Int, (((cutS s o.x.name o.x.off).2 : Nat) : Int) = E := ⟨_, rfl⟩
  rw [hE]
  have HE := Lib.hid hE.symm
  clear hE
  go_wp2_with fail
  have XB : Box (((((w1).setCell ⟨w.heap.size + 1 + 1, 2, none⟩ (.int .i64 E)).setCell ⟨w.heap.size + 1, 0, none⟩ (.slice none 0 0)).setCell ⟨w.heap.size + 1, 1, none⟩ (.int .i64 0)).setCell ⟨w.heap.size + 1, 2, none⟩ (.int .i64 E)) (w.heap.size + 1) 32 #[.slice none 0 0, .int .i64 0, .int .i64 E] := by simpa using ((((X1.far (p := ⟨w.heap.size + 1 + 1, 2, none⟩) (show w.heap.size + 1 ≠ w.heap.size + 1 + 1 by omega) (.int .i64 E)).set 0 (.slice none 0 0)).set 1 (.int .i64 0)).set 2 (.int .i64 E))
  have XO : Only w1 (((((w1).setCell ⟨w.heap.size + 1 + 1, 2, none⟩ (.int .i64 E)).setCell ⟨w.heap.size + 1, 0, none⟩ (.slice none 0 0)).setCell ⟨w.heap.size + 1, 1, none⟩ (.int .i64 0)).setCell ⟨w.heap.size + 1, 2, none⟩ (.int .i64 E)) (fun i => w.heap.size ≤ i ∧ i < w.heap.size + 3) := only_xt w1 (w.heap.size) (w.heap.size + 3) [((⟨w.heap.size + 1 + 1, 2, none⟩ : Addr), (.int .i64 E : Value)), ((⟨w.heap.size + 1, 0, none⟩ : Addr), (.slice none 0 0 : Value)), ((⟨w.heap.size + 1, 1, none⟩ : Addr), (.int .i64 0 : Value)), ((⟨w.heap.size + 1, 2, none⟩ : Addr), (.int .i64 E : Value))] (by simp <;> omega)
  generalize ((((w1).setCell ⟨w.heap.size + 1 + 1, 2, none⟩ (.int .i64 E)).setCell ⟨w.heap.size + 1, 0, none⟩ (.slice none 0 0)).setCell ⟨w.heap.size + 1, 1, none⟩ (.int .i64 0)).setCell ⟨w.heap.size + 1, 2, none⟩ (.int .i64 E) = W4 at *
  have d0 := XB.cell 0 rfl
  have d1 := XB.cell 1 rfl
  have d2 := XB.cell 2 rfl
  refine bodyPost_ret (v := .tuple #[.agg #[.slice none 0 0, .int .i64 0, .int .i64 E], .bool true]) (by simp [results, Try.results13, go_sem, d0, d1, d2]) rfl ?_
  exact done_close (by rw [HDO.out]) (by rw [HDO.out]; exact HDD.out) HT.out kW HF.out (by rw [HS3.out]; exact XO) (by rw [HDO.out]; show Ending.returned _ = Ending.returned (.tuple #[.agg #[.slice none 0 0, .int .i64 0, .int .i64 (((cutS s o.x.name o.x.off).2 : Nat) : Int)], .bool true]); rw [← HE.out])

set_option maxHeartbeats 8000000 in
theorem does_sync (K : DiskOk) {w0 w : World} {b : Nat} {F : Nat → Prop} {s : Ds} (hZ : K.Z w0) (h : Have K w0 w b F s) (o : OpS) (ho : OpOk w0 o) (hk : o.x.kind = 5) :
    Calls Try.prog 13 #[dpt b, .agg (opA o)] w (DoneV K w b F s o.x) := by
  have hF := K.lt h.D
  have kW := keeps_alloc3 w (.cells (opA o) 25) (.cells #[.slice none 0 0, .int .i64 0, .int .i64 0] 32) (.cells #[.slice none 0 0, .int .i64 0, .int .i64 0] 32)
  have hs3 : (((w.alloc (.cells (opA o) 25)).alloc (.cells #[.slice none 0 0, .int .i64 0, .int .i64 0] 32)).alloc (.cells #[.slice none 0 0, .int .i64 0, .int .i64 0] 32)).heap.size = w.heap.size + 3 := by simp
  have B1 := box_second w (.cells (opA o) 25) 32 #[.slice none 0 0, .int .i64 0, .int .i64 0] (.cells #[.slice none 0 0, .int .i64 0, .int .i64 0] 32)
  have B2 := box_third3 w (.cells (opA o) 25) (.cells #[.slice none 0 0, .int .i64 0, .int .i64 0] 32) 32 #[.slice none 0 0, .int .i64 0, .int .i64 0]
  have C := Lib.hid (K.sync o.x.name (K.keep (h.z hZ) kW) (h.keep kW).D ho.nm )
  have HD : doS s o.x = ((syncS s o.x.name).1, ⟨[], 0, (syncS s o.x.name).2⟩) := by unfold doS; rw [hk]; rfl
  have HF := Lib.hid hF
  have HS3 := Lib.hid hs3
  unfold opA at *
  unfold dpt strV at *
  rw [hk] at *
  clear hF h hs3 ho
  go_enter Try.func13, Try.ntmps13
  go_wp2_with fail
  refine C.out.mono ?_
  rintro e w1 ⟨rfl, F', hD, hT⟩
  have n1 : ¬ F (w.heap.size + 1) := fun e => by have := HF.out _ e; omega
  have n2 : ¬ F (w.heap.size + 1 + 1) := fun e => by have := HF.out _ e; omega
  have X1 := B1.turned hT n1
  have X2 := B2.turned hT n2
  have c10 := X1.cell 0 rfl
  have c11 := X1.cell 1 rfl
  have c12 := X1.cell 2 rfl
  have f10 := X1.frozen 0
  have f11 := X1.frozen 1
  have f12 := X1.frozen 2
  have c20 := X2.cell 0 rfl
  have c21 := X2.cell 1 rfl
  have c22 := X2.cell 2 rfl
  have f21 := X2.frozen 1
  have f22 := X2.frozen 2
  have HDD := Lib.hid hD
  have HT := Lib.hid hT
  have HDO := Lib.hid HD
  clear hD hT B1 B2 X2 n1 n2 HD
  obtain ⟨E, hE⟩ : ∃ E : Int, (((syncS s o.x.name).2 : Nat) : Int) = E := ⟨_, rfl⟩
  rw [hE]
  have HE := Lib.hid hE.symm
  clear hE
  go_wp2_with fail
  have XB : Box (((((w1).setCell ⟨w.heap.size + 1 + 1, 2, none⟩ (.int .i64 E)).setCell ⟨w.heap.size + 1, 0, none⟩ (.slice none 0 0)).setCell ⟨w.heap.size + 1, 1, none⟩ (.int .i64 0)).setCell ⟨w.heap.size + 1, 2, none⟩ (.int .i64 E)) (w.heap.size + 1) 32 #[.slice none 0 0, .int .i64 0, .int .i64 E] := by simpa using ((((X1.far (p := ⟨w.heap.size + 1 + 1, 2, none⟩) (show w.heap.size + 1 ≠ w.heap.size + 1 + 1 by omega) (.int .i64 E)).set 0 (.slice none 0 0)).set 1 (.int .i64 0)).set 2 (.int .i64 E))
  have XO : Only w1 (((((w1).setCell ⟨w.heap.size + 1 + 1, 2, none⟩ (.int .i64 E)).setCell ⟨w.heap.size + 1, 0, none⟩ (.slice none 0 0)).setCell ⟨w.heap.size + 1, 1, none⟩ (.int .i64 0)).setCell ⟨w.heap.size + 1, 2, none⟩ (.int .i64 E)) (fun i => w.heap.size ≤ i ∧ i < w.heap.size + 3) := only_xt w1 (w.heap.size) (w.heap.size + 3) [((⟨w.heap.size + 1 + 1, 2, none⟩ : Addr), (.int .i64 E : Value)), ((⟨w.heap.size + 1, 0, none⟩ : Addr), (.slice none 0 0 : Value)), ((⟨w.heap.size + 1, 1, none⟩ : Addr), (.int .i64 0 : Value)), ((⟨w.heap.size + 1, 2, none⟩ : Addr), (.int .i64 E : Value))] (by simp <;> omega)
  generalize ((((w1).setCell ⟨w.heap.size + 1 + 1, 2, none⟩ (.int .i64 E)).setCell ⟨w.heap.size + 1, 0, none⟩ (.slice none 0 0)).setCell ⟨w.heap.size + 1, 1, none⟩ (.int .i64 0)).setCell ⟨w.heap.size + 1, 2, none⟩ (.int .i64 E) = W4 at *
  have d0 := XB.cell 0 rfl
  have d1 := XB.cell 1 rfl
  have d2 := XB.cell 2 rfl
  refine bodyPost_ret (v := .tuple #[.agg #[.slice none 0 0, .int .i64 0, .int .i64 E], .bool true]) (by simp [results, Try.results13, go_sem, d0, d1, d2]) rfl ?_
  exact done_close (by rw [HDO.out]) (by rw [HDO.out]; exact HDD.out) HT.out kW HF.out (by rw [HS3.out]; exact XO) (by rw [HDO.out]; show Ending.returned _ = Ending.returned (.tuple #[.agg #[.slice none 0 0, .int .i64 0, .int .i64 (((syncS s o.x.name).2 : Nat) : Int)], .bool true]); rw [← HE.out])

set_option maxHeartbeats 8000000 in
theorem does_quota (K : DiskOk) {w0 w : World} {b : Nat} {F : Nat → Prop} {s : Ds} (hZ : K.Z w0) (h : Have K w0 w b F s) (o : OpS) (ho : OpOk w0 o) (hk : o.x.kind = 8) :
    Calls Try.prog 13 #[dpt b, .agg (opA o)] w (DoneV K w b F s o.x) := by
  have hF := K.lt h.D
  have kW := keeps_alloc3 w (.cells (opA o) 25) (.cells #[.slice none 0 0, .int .i64 0, .int .i64 0] 32) (.cells #[.slice none 0 0, .int .i64 0, .int .i64 0] 32)
  have hs3 : (((w.alloc (.cells (opA o) 25)).alloc (.cells #[.slice none 0 0, .int .i64 0, .int .i64 0] 32)).alloc (.cells #[.slice none 0 0, .int .i64 0, .int .i64 0] 32)).heap.size = w.heap.size + 3 := by simp
  have B1 := box_second w (.cells (opA o) 25) 32 #[.slice none 0 0, .int .i64 0, .int .i64 0] (.cells #[.slice none 0 0, .int .i64 0, .int .i64 0] 32)
  have B2 := box_third3 w (.cells (opA o) 25) (.cells #[.slice none 0 0, .int .i64 0, .int .i64 0] 32) 32 #[.slice none 0 0, .int .i64 0, .int .i64 0]
  have C := Lib.hid (K.quota o.x.n (K.keep (h.z hZ) kW) (h.keep kW).D  ho.n.1 ho.n.2)
  have HD : doS s o.x = ((quotaS s o.x.n).1, ⟨[], 0, (quotaS s o.x.n).2⟩) := by unfold doS; rw [hk]; rfl
  have HF := Lib.hid hF
  have HS3 := Lib.hid hs3
  unfold opA at *
  unfold dpt strV at *
  rw [hk] at *
  clear hF h hs3 ho
  go_enter Try.func13, Try.ntmps13
  go_wp2_with fail
  refine C.out.mono ?_
  rintro e w1 ⟨rfl, F', hD, hT⟩
  have n1 : ¬ F (w.heap.size + 1) := fun e => by have := HF.out _ e; omega
  have n2 : ¬ F (w.heap.size + 1 + 1) := fun e => by have := HF.out _ e; omega
  have X1 := B1.turned hT n1
  have X2 := B2.turned hT n2
  have c10 := X1.cell 0 rfl
  have c11 := X1.cell 1 rfl
  have c12 := X1.cell 2 rfl
  have f10 := X1.frozen 0
  have f11 := X1.frozen 1
  have f12 := X1.frozen 2
  have c20 := X2.cell 0 rfl
  have c21 := X2.cell 1 rfl
  have c22 := X2.cell 2 rfl
  have f21 := X2.frozen 1
  have f22 := X2.frozen 2
  have HDD := Lib.hid hD
  have HT := Lib.hid hT
  have HDO := Lib.hid HD
  clear hD hT B1 B2 X2 n1 n2 HD
  obtain ⟨E, hE⟩ : ∃ E : Int, (((quotaS s o.x.n).2 : Nat) : Int) = E := ⟨_, rfl⟩
  rw [hE]
  have HE := Lib.hid hE.symm
  clear hE
  go_wp2_with fail
  have XB : Box (((((w1).setCell ⟨w.heap.size + 1 + 1, 2, none⟩ (.int .i64 E)).setCell ⟨w.heap.size + 1, 0, none⟩ (.slice none 0 0)).setCell ⟨w.heap.size + 1, 1, none⟩ (.int .i64 0)).setCell ⟨w.heap.size + 1, 2, none⟩ (.int .i64 E)) (w.heap.size + 1) 32 #[.slice none 0 0, .int .i64 0, .int .i64 E] := by simpa using ((((X1.far (p := ⟨w.heap.size + 1 + 1, 2, none⟩) (show w.heap.size + 1 ≠ w.heap.size + 1 + 1 by omega) (.int .i64 E)).set 0 (.slice none 0 0)).set 1 (.int .i64 0)).set 2 (.int .i64 E))
  have XO : Only w1 (((((w1).setCell ⟨w.heap.size + 1 + 1, 2, none⟩ (.int .i64 E)).setCell ⟨w.heap.size + 1, 0, none⟩ (.slice none 0 0)).setCell ⟨w.heap.size + 1, 1, none⟩ (.int .i64 0)).setCell ⟨w.heap.size + 1, 2, none⟩ (.int .i64 E)) (fun i => w.heap.size ≤ i ∧ i < w.heap.size + 3) := only_xt w1 (w.heap.size) (w.heap.size + 3) [((⟨w.heap.size + 1 + 1, 2, none⟩ : Addr), (.int .i64 E : Value)), ((⟨w.heap.size + 1, 0, none⟩ : Addr), (.slice none 0 0 : Value)), ((⟨w.heap.size + 1, 1, none⟩ : Addr), (.int .i64 0 : Value)), ((⟨w.heap.size + 1, 2, none⟩ : Addr), (.int .i64 E : Value))] (by simp <;> omega)
  generalize ((((w1).setCell ⟨w.heap.size + 1 + 1, 2, none⟩ (.int .i64 E)).setCell ⟨w.heap.size + 1, 0, none⟩ (.slice none 0 0)).setCell ⟨w.heap.size + 1, 1, none⟩ (.int .i64 0)).setCell ⟨w.heap.size + 1, 2, none⟩ (.int .i64 E) = W4 at *
  have d0 := XB.cell 0 rfl
  have d1 := XB.cell 1 rfl
  have d2 := XB.cell 2 rfl
  refine bodyPost_ret (v := .tuple #[.agg #[.slice none 0 0, .int .i64 0, .int .i64 E], .bool true]) (by simp [results, Try.results13, go_sem, d0, d1, d2]) rfl ?_
  exact done_close (by rw [HDO.out]) (by rw [HDO.out]; exact HDD.out) HT.out kW HF.out (by rw [HS3.out]; exact XO) (by rw [HDO.out]; show Ending.returned _ = Ending.returned (.tuple #[.agg #[.slice none 0 0, .int .i64 0, .int .i64 (((quotaS s o.x.n).2 : Nat) : Int)], .bool true]); rw [← HE.out])

set_option maxHeartbeats 8000000 in
theorem does_arm (K : DiskOk) {w0 w : World} {b : Nat} {F : Nat → Prop} {s : Ds} (hZ : K.Z w0) (h : Have K w0 w b F s) (o : OpS) (ho : OpOk w0 o) (hk : o.x.kind = 9) :
    Calls Try.prog 13 #[dpt b, .agg (opA o)] w (DoneV K w b F s o.x) := by
  have hF := K.lt h.D
  have kW := keeps_alloc3 w (.cells (opA o) 25) (.cells #[.slice none 0 0, .int .i64 0, .int .i64 0] 32) (.cells #[.slice none 0 0, .int .i64 0, .int .i64 0] 32)
  have hs3 : (((w.alloc (.cells (opA o) 25)).alloc (.cells #[.slice none 0 0, .int .i64 0, .int .i64 0] 32)).alloc (.cells #[.slice none 0 0, .int .i64 0, .int .i64 0] 32)).heap.size = w.heap.size + 3 := by simp
  have B1 := box_second w (.cells (opA o) 25) 32 #[.slice none 0 0, .int .i64 0, .int .i64 0] (.cells #[.slice none 0 0, .int .i64 0, .int .i64 0] 32)
  have B2 := box_third3 w (.cells (opA o) 25) (.cells #[.slice none 0 0, .int .i64 0, .int .i64 0] 32) 32 #[.slice none 0 0, .int .i64 0, .int .i64 0]
  have C := Lib.hid (K.arm o.x.n (K.keep (h.z hZ) kW) (h.keep kW).D  ho.n.1 ho.n.2)
  have HD : doS s o.x = ((armS s o.x.n).1, ⟨[], 0, (armS s o.x.n).2⟩) := by unfold doS; rw [hk]; rfl
  have HF := Lib.hid hF
  have HS3 := Lib.hid hs3
  unfold opA at *
  unfold dpt strV at *
  rw [hk] at *
  clear hF h hs3 ho
  go_enter Try.func13, Try.ntmps13
  go_wp2_with fail
  refine C.out.mono ?_
  rintro e w1 ⟨rfl, F', hD, hT⟩
  have n1 : ¬ F (w.heap.size + 1) := fun e => by have := HF.out _ e; omega
  have n2 : ¬ F (w.heap.size + 1 + 1) := fun e => by have := HF.out _ e; omega
  have X1 := B1.turned hT n1
  have X2 := B2.turned hT n2
  have c10 := X1.cell 0 rfl
  have c11 := X1.cell 1 rfl
  have c12 := X1.cell 2 rfl
  have f10 := X1.frozen 0
  have f11 := X1.frozen 1
  have f12 := X1.frozen 2
  have c20 := X2.cell 0 rfl
  have c21 := X2.cell 1 rfl
  have c22 := X2.cell 2 rfl
  have f21 := X2.frozen 1
  have f22 := X2.frozen 2
  have HDD := Lib.hid hD
  have HT := Lib.hid hT
  have HDO := Lib.hid HD
  clear hD hT B1 B2 X2 n1 n2 HD
  obtain ⟨E, hE⟩ : ∃ E : Int, (((armS s o.x.n).2 : Nat) : Int) = E := ⟨_, rfl⟩
  rw [hE]
  have HE := Lib.hid hE.symm
  clear hE
  go_wp2_with fail
  have XB : Box (((((w1).setCell ⟨w.heap.size + 1 + 1, 2, none⟩ (.int .i64 E)).setCell ⟨w.heap.size + 1, 0, none⟩ (.slice none 0 0)).setCell ⟨w.heap.size + 1, 1, none⟩ (.int .i64 0)).setCell ⟨w.heap.size + 1, 2, none⟩ (.int .i64 E)) (w.heap.size + 1) 32 #[.slice none 0 0, .int .i64 0, .int .i64 E] := by simpa using ((((X1.far (p := ⟨w.heap.size + 1 + 1, 2, none⟩) (show w.heap.size + 1 ≠ w.heap.size + 1 + 1 by omega) (.int .i64 E)).set 0 (.slice none 0 0)).set 1 (.int .i64 0)).set 2 (.int .i64 E))
  have XO : Only w1 (((((w1).setCell ⟨w.heap.size + 1 + 1, 2, none⟩ (.int .i64 E)).setCell ⟨w.heap.size + 1, 0, none⟩ (.slice none 0 0)).setCell ⟨w.heap.size + 1, 1, none⟩ (.int .i64 0)).setCell ⟨w.heap.size + 1, 2, none⟩ (.int .i64 E)) (fun i => w.heap.size ≤ i ∧ i < w.heap.size + 3) := only_xt w1 (w.heap.size) (w.heap.size + 3) [((⟨w.heap.size + 1 + 1, 2, none⟩ : Addr), (.int .i64 E : Value)), ((⟨w.heap.size + 1, 0, none⟩ : Addr), (.slice none 0 0 : Value)), ((⟨w.heap.size + 1, 1, none⟩ : Addr), (.int .i64 0 : Value)), ((⟨w.heap.size + 1, 2, none⟩ : Addr), (.int .i64 E : Value))] (by simp <;> omega)
  generalize ((((w1).setCell ⟨w.heap.size + 1 + 1, 2, none⟩ (.int .i64 E)).setCell ⟨w.heap.size + 1, 0, none⟩ (.slice none 0 0)).setCell ⟨w.heap.size + 1, 1, none⟩ (.int .i64 0)).setCell ⟨w.heap.size + 1, 2, none⟩ (.int .i64 E) = W4 at *
  have d0 := XB.cell 0 rfl
  have d1 := XB.cell 1 rfl
  have d2 := XB.cell 2 rfl
  refine bodyPost_ret (v := .tuple #[.agg #[.slice none 0 0, .int .i64 0, .int .i64 E], .bool true]) (by simp [results, Try.results13, go_sem, d0, d1, d2]) rfl ?_
  exact done_close (by rw [HDO.out]) (by rw [HDO.out]; exact HDD.out) HT.out kW HF.out (by rw [HS3.out]; exact XO) (by rw [HDO.out]; show Ending.returned _ = Ending.returned (.tuple #[.agg #[.slice none 0 0, .int .i64 0, .int .i64 (((armS s o.x.n).2 : Nat) : Int)], .bool true]); rw [← HE.out])

set_option maxHeartbeats 8000000 in
theorem does_flip (K : DiskOk) {w0 w : World} {b : Nat} {F : Nat → Prop} {s : Ds} (hZ : K.Z w0) (h : Have K w0 w b F s) (o : OpS) (ho : OpOk w0 o) (hk : o.x.kind = 11) :
    Calls Try.prog 13 #[dpt b, .agg (opA o)] w (DoneV K w b F s o.x) := by
  have hF := K.lt h.D
  have kW := keeps_alloc3 w (.cells (opA o) 25) (.cells #[.slice none 0 0, .int .i64 0, .int .i64 0] 32) (.cells #[.slice none 0 0, .int .i64 0, .int .i64 0] 32)
  have hs3 : (((w.alloc (.cells (opA o) 25)).alloc (.cells #[.slice none 0 0, .int .i64 0, .int .i64 0] 32)).alloc (.cells #[.slice none 0 0, .int .i64 0, .int .i64 0] 32)).heap.size = w.heap.size + 3 := by simp
  have B1 := box_second w (.cells (opA o) 25) 32 #[.slice none 0 0, .int .i64 0, .int .i64 0] (.cells #[.slice none 0 0, .int .i64 0, .int .i64 0] 32)
  have B2 := box_third3 w (.cells (opA o) 25) (.cells #[.slice none 0 0, .int .i64 0, .int .i64 0] 32) 32 #[.slice none 0 0, .int .i64 0, .int .i64 0]
  have C := Lib.hid (K.flip o.x.name o.x.off o.x.mask (K.keep (h.z hZ) kW) (h.keep kW).D ho.nm ho.off.1 ho.off.2)
  have HD : doS s o.x = ((flipS s o.x.name o.x.off o.x.mask).1, ⟨[], 0, (flipS s o.x.name o.x.off o.x.mask).2⟩) := by unfold doS; rw [hk]; rfl
  have HF := Lib.hid hF
  have HS3 := Lib.hid hs3
  unfold opA at *
  unfold dpt strV at *
  rw [hk] at *
  clear hF h hs3 ho
  go_enter Try.func13, Try.ntmps13
  go_wp2_with fail
  refine C.out.mono ?_
  rintro e w1 ⟨rfl, F', hD, hT⟩
  have n1 : ¬ F (w.heap.size + 1) := fun e => by have := HF.out _ e; omega
  have n2 : ¬ F (w.heap.size + 1 + 1) := fun e => by have := HF.out _ e; omega
  have X1 := B1.turned hT n1
  have X2 := B2.turned hT n2
  have c10 := X1.cell 0 rfl
  have c11 := X1.cell 1 rfl
  have c12 := X1.cell 2 rfl
  have f10 := X1.frozen 0
  have f11 := X1.frozen 1
  have f12 := X1.frozen 2
  have c20 := X2.cell 0 rfl
  have c21 := X2.cell 1 rfl
  have c22 := X2.cell 2 rfl
  have f21 := X2.frozen 1
  have f22 := X2.frozen 2
  have HDD := Lib.hid hD
  have HT := Lib.hid hT
  have HDO := Lib.hid HD
  clear hD hT B1 B2 X2 n1 n2 HD
  obtain ⟨E, hE⟩ : ∃ E : Int, (((flipS s o.x.name o.x.off o.x.mask).2 : Nat) : Int) = E := ⟨_, rfl⟩
  rw [hE]
  have HE := Lib.hid hE.symm
  clear hE
  go_wp2_with fail
  have XB : Box (((((w1).setCell ⟨w.heap.size + 1 + 1, 2, none⟩ (.int .i64 E)).setCell ⟨w.heap.size + 1, 0, none⟩ (.slice none 0 0)).setCell ⟨w.heap.size + 1, 1, none⟩ (.int .i64 0)).setCell ⟨w.heap.size + 1, 2, none⟩ (.int .i64 E)) (w.heap.size + 1) 32 #[.slice none 0 0, .int .i64 0, .int .i64 E] := by simpa using ((((X1.far (p := ⟨w.heap.size + 1 + 1, 2, none⟩) (show w.heap.size + 1 ≠ w.heap.size + 1 + 1 by omega) (.int .i64 E)).set 0 (.slice none 0 0)).set 1 (.int .i64 0)).set 2 (.int .i64 E))
  have XO : Only w1 (((((w1).setCell ⟨w.heap.size + 1 + 1, 2, none⟩ (.int .i64 E)).setCell ⟨w.heap.size + 1, 0, none⟩ (.slice none 0 0)).setCell ⟨w.heap.size + 1, 1, none⟩ (.int .i64 0)).setCell ⟨w.heap.size + 1, 2, none⟩ (.int .i64 E)) (fun i => w.heap.size ≤ i ∧ i < w.heap.size + 3) := only_xt w1 (w.heap.size) (w.heap.size + 3) [((⟨w.heap.size + 1 + 1, 2, none⟩ : Addr), (.int .i64 E : Value)), ((⟨w.heap.size + 1, 0, none⟩ : Addr), (.slice none 0 0 : Value)), ((⟨w.heap.size + 1, 1, none⟩ : Addr), (.int .i64 0 : Value)), ((⟨w.heap.size + 1, 2, none⟩ : Addr), (.int .i64 E : Value))] (by simp <;> omega)
  generalize ((((w1).setCell ⟨w.heap.size + 1 + 1, 2, none⟩ (.int .i64 E)).setCell ⟨w.heap.size + 1, 0, none⟩ (.slice none 0 0)).setCell ⟨w.heap.size + 1, 1, none⟩ (.int .i64 0)).setCell ⟨w.heap.size + 1, 2, none⟩ (.int .i64 E) = W4 at *
  have d0 := XB.cell 0 rfl
  have d1 := XB.cell 1 rfl
  have d2 := XB.cell 2 rfl
  refine bodyPost_ret (v := .tuple #[.agg #[.slice none 0 0, .int .i64 0, .int .i64 E], .bool true]) (by simp [results, Try.results13, go_sem, d0, d1, d2]) rfl ?_
  exact done_close (by rw [HDO.out]) (by rw [HDO.out]; exact HDD.out) HT.out kW HF.out (by rw [HS3.out]; exact XO) (by rw [HDO.out]; show Ending.returned _ = Ending.returned (.tuple #[.agg #[.slice none 0 0, .int .i64 0, .int .i64 (((flipS s o.x.name o.x.off o.x.mask).2 : Nat) : Int)], .bool true]); rw [← HE.out])

set_option maxHeartbeats 8000000 in
theorem does_size (K : DiskOk) {w0 w : World} {b : Nat} {F : Nat → Prop} {s : Ds} (hZ : K.Z w0) (h : Have K w0 w b F s) (o : OpS) (ho : OpOk w0 o) (hk : o.x.kind = 7) :
    Calls Try.prog 13 #[dpt b, .agg (opA o)] w (DoneV K w b F s o.x) := by
  have hF := K.lt h.D
  have kW := keeps_alloc3 w (.cells (opA o) 25) (.cells #[.slice none 0 0, .int .i64 0, .int .i64 0] 32) (.cells #[.slice none 0 0, .int .i64 0, .int .i64 0] 32)
  have hs3 : (((w.alloc (.cells (opA o) 25)).alloc (.cells #[.slice none 0 0, .int .i64 0, .int .i64 0] 32)).alloc (.cells #[.slice none 0 0, .int .i64 0, .int .i64 0] 32)).heap.size = w.heap.size + 3 := by simp
  have B1 := box_second w (.cells (opA o) 25) 32 #[.slice none 0 0, .int .i64 0, .int .i64 0] (.cells #[.slice none 0 0, .int .i64 0, .int .i64 0] 32)
  have B2 := box_third3 w (.cells (opA o) 25) (.cells #[.slice none 0 0, .int .i64 0, .int .i64 0] 32) 32 #[.slice none 0 0, .int .i64 0, .int .i64 0]
  have C := Lib.hid (size_turn K o.x.name (K.keep (h.z hZ) kW) (h.keep kW).D ho.nm)
  have HD : doS s o.x = (s, ⟨[], (sizeS s o.x.name).1, (sizeS s o.x.name).2⟩) := by unfold doS; rw [hk]; rfl
  have HF := Lib.hid hF
  have HS3 := Lib.hid hs3
  unfold opA at *
  unfold dpt strV at *
  rw [hk] at *
  clear hF h hs3 ho
  go_enter Try.func13, Try.ntmps13
  go_wp2_with fail
  refine C.out.mono ?_
  rintro e w1 ⟨rfl, F', hD, hT⟩
  have n1 : ¬ F (w.heap.size + 1) := fun e => by have := HF.out _ e; omega
  have n2 : ¬ F (w.heap.size + 1 + 1) := fun e => by have := HF.out _ e; omega
  have X1 := B1.turned hT n1
  have X2 := B2.turned hT n2
  have c10 := X1.cell 0 rfl
  have c11 := X1.cell 1 rfl
  have c12 := X1.cell 2 rfl
  have f10 := X1.frozen 0
  have f11 := X1.frozen 1
  have f12 := X1.frozen 2
  have c20 := X2.cell 0 rfl
  have c21 := X2.cell 1 rfl
  have c22 := X2.cell 2 rfl
  have f21 := X2.frozen 1
  have f22 := X2.frozen 2
  have HDD := Lib.hid hD
  have HT := Lib.hid hT
  have HDO := Lib.hid HD
  clear hD hT B1 B2 X2 n1 n2 HD
  obtain ⟨E, hE⟩ : ∃ E : Int, (((sizeS s o.x.name).2 : Nat) : Int) = E := ⟨_, rfl⟩
  rw [hE]
  have HE := Lib.hid hE.symm
  clear hE
  obtain ⟨E1, hE1⟩ : ∃ E1 : Int, (((sizeS s o.x.name).1 : Nat) : Int) = E1 := ⟨_, rfl⟩
  rw [hE1]
  have HE1 := Lib.hid hE1.symm
  clear hE1
  go_wp2_with fail
  have XB : Box ((((((w1).setCell ⟨w.heap.size + 1 + 1, 1, none⟩ (.int .i64 E1)).setCell ⟨w.heap.size + 1 + 1, 2, none⟩ (.int .i64 E)).setCell ⟨w.heap.size + 1, 0, none⟩ (.slice none 0 0)).setCell ⟨w.heap.size + 1, 1, none⟩ (.int .i64 E1)).setCell ⟨w.heap.size + 1, 2, none⟩ (.int .i64 E)) (w.heap.size + 1) 32 #[.slice none 0 0, .int .i64 E1, .int .i64 E] := by simpa using (((((X1.far (p := ⟨w.heap.size + 1 + 1, 1, none⟩) (show w.heap.size + 1 ≠ w.heap.size + 1 + 1 by omega) (.int .i64 E1)).far (p := ⟨w.heap.size + 1 + 1, 2, none⟩) (show w.heap.size + 1 ≠ w.heap.size + 1 + 1 by omega) (.int .i64 E)).set 0 (.slice none 0 0)).set 1 (.int .i64 E1)).set 2 (.int .i64 E))
  have XO : Only w1 ((((((w1).setCell ⟨w.heap.size + 1 + 1, 1, none⟩ (.int .i64 E1)).setCell ⟨w.heap.size + 1 + 1, 2, none⟩ (.int .i64 E)).setCell ⟨w.heap.size + 1, 0, none⟩ (.slice none 0 0)).setCell ⟨w.heap.size + 1, 1, none⟩ (.int .i64 E1)).setCell ⟨w.heap.size + 1, 2, none⟩ (.int .i64 E)) (fun i => w.heap.size ≤ i ∧ i < w.heap.size + 3) := only_xt w1 (w.heap.size) (w.heap.size + 3) [((⟨w.heap.size + 1 + 1, 1, none⟩ : Addr), (.int .i64 E1 : Value)), ((⟨w.heap.size + 1 + 1, 2, none⟩ : Addr), (.int .i64 E : Value)), ((⟨w.heap.size + 1, 0, none⟩ : Addr), (.slice none 0 0 : Value)), ((⟨w.heap.size + 1, 1, none⟩ : Addr), (.int .i64 E1 : Value)), ((⟨w.heap.size + 1, 2, none⟩ : Addr), (.int .i64 E : Value))] (by simp <;> omega)
  generalize (((((w1).setCell ⟨w.heap.size + 1 + 1, 1, none⟩ (.int .i64 E1)).setCell ⟨w.heap.size + 1 + 1, 2, none⟩ (.int .i64 E)).setCell ⟨w.heap.size + 1, 0, none⟩ (.slice none 0 0)).setCell ⟨w.heap.size + 1, 1, none⟩ (.int .i64 E1)).setCell ⟨w.heap.size + 1, 2, none⟩ (.int .i64 E) = W4 at *
  have d0 := XB.cell 0 rfl
  have d1 := XB.cell 1 rfl
  have d2 := XB.cell 2 rfl
  refine bodyPost_ret (v := .tuple #[.agg #[.slice none 0 0, .int .i64 E1, .int .i64 E], .bool true]) (by simp [results, Try.results13, go_sem, d0, d1, d2]) rfl ?_
  exact done_close (by rw [HDO.out]) (by rw [HDO.out]; exact HDD.out) HT.out kW HF.out (by rw [HS3.out]; exact XO) (by rw [HDO.out]; show Ending.returned _ = Ending.returned (.tuple #[.agg #[.slice none 0 0, .int .i64 (((sizeS s o.x.name).1 : Nat) : Int), .int .i64 (((sizeS s o.x.name).2 : Nat) : Int)], .bool true]); rw [← HE.out, ← HE1.out])
theorem info_int : (Try.prog.info? 3).map (fun i => (i.zero, i.size, i.bytes)) = some (some (.int .i64 0), 1, 8) := by kernel_rfl
theorem intC_length (l : List Int) : (intC l).length = l.length := by simp [intC]
theorem intC_one (l : List Int) : ∀ u ∈ intC l, u.oneCell' = true := by
  intro u hu
  obtain ⟨_, _, rfl⟩ := List.mem_map.1 hu
  rfl
/-- what was handed in lies below all that the call has made -/
theorem At.low {w0 w : World} {A : Option Addr} {xs : List Value} (h : At w0 w0.heap.size A xs) (k : Keeps w0 w) : At w w.heap.size A xs := (At.keep h k).more k.size
theorem At.notIn {w0 : World} {A : Option Addr} {xs : List Value} {F : Nat → Prop} (h : At w0 w0.heap.size A xs) (hF : ∀ i, F i → w0.heap.size ≤ i) : xs ≠ [] → ∀ ad, A = some ad → ¬ F ad.block := by
  intro hx ad hA hf
  rcases h with h | ⟨ad', e, hb, -⟩
  · exact hx h
  · obtain rfl := Option.some.inj (hA.symm.trans e)
    have := hF _ hf
    omega
/-- the end of it, whatever was answered -/
theorem done_close2 {K : DiskOk} {w W w1 w2 : World} {b : Nat} {F F' : Nat → Prop} {s : Ds} {o : Opx} {v x : Value}
    (hD : K.D w1 b F' (doS s o).1) (hT : Turns W w1 F F') (k : Keeps w W) (hF : ∀ i, F i → i < w.heap.size) (ho : Only w1 w2 (fun i => w.heap.size ≤ i ∧ ¬ F' i)) (hO : Own w2 w.heap.size 5 1 x (doS s o).2.b.length (cel (doS s o).2.b))
    (hx : ∀ k, x.ownBlock = some k → ¬ F' k)
    (he : Ending.returned v = .returned (.tuple #[.agg #[x, .int .i64 ((doS s o).2.n : Int), .int .i64 ((doS s o).2.e : Int)], .bool true])) : DoneV K w b F s o (.returned v) w2 :=
  ⟨x, F', he, hO, K.same hD (fun i hi => ho.block i (K.lt hD i hi) (fun h => h.2 hi)) ho.size, hT.wrap k hF (ho.weak (fun i h => h.1)), hx⟩

set_option maxHeartbeats 8000000 in
theorem does_on (K : DiskOk) {w0 w : World} {b : Nat} {F : Nat → Prop} {s : Ds} (hZ : K.Z w0) (h : Have K w0 w b F s) (o : OpS) (ho : OpOk w0 o) (hm : o.len2 ≤ 70000) (hk : o.x.kind = 10) :
    Calls Try.prog 13 #[dpt b, .agg (opA o)] w (DoneV K w b F s o.x) := by
  obtain ⟨i0, hi, hz0, hz1, hz2⟩ := info_parts info_int
  have hF := K.lt h.D
  have kW := keeps_alloc3 w (.cells (opA o) 25) (.cells #[.slice none 0 0, .int .i64 0, .int .i64 0] 32) (.cells #[.slice none 0 0, .int .i64 0, .int .i64 0] 32)
  have hs3 : (((w.alloc (.cells (opA o) 25)).alloc (.cells #[.slice none 0 0, .int .i64 0, .int .i64 0] 32)).alloc (.cells #[.slice none 0 0, .int .i64 0, .int .i64 0] 32)).heap.size = w.heap.size + 3 := by simp
  have B1 := box_second w (.cells (opA o) 25) 32 #[.slice none 0 0, .int .i64 0, .int .i64 0] (.cells #[.slice none 0 0, .int .i64 0, .int .i64 0] 32)
  have B2 := box_third3 w (.cells (opA o) 25) (.cells #[.slice none 0 0, .int .i64 0, .int .i64 0] 32) 32 #[.slice none 0 0, .int .i64 0, .int .i64 0]
  have HD : doS s o.x = ((onS s o.x.keep).1, ⟨[], 0, (onS s o.x.keep).2⟩) := by unfold doS; rw [hk]; rfl
  have HF := Lib.hid hF
  have KP := Lib.hid (ho.keep.low (keeps_trans h.kp kW))
  have HL := Lib.hid ho.len2
  have HV := Lib.hid h
  have HZ := Lib.hid hZ
  unfold opA at *
  unfold dpt strV at *
  rw [hk] at *
  generalize hWW : (((w.alloc (.cells #[.int .i64 10, .string (str o.x.name), .string (str o.x.to), .int .i64 o.x.off, .int .i64 o.x.n, .slice o.A o.len o.c, .int .u8 (o.x.mask.toNat : Int), .slice o.A2 o.len2 o.c2] 25)).alloc (.cells #[.slice none 0 0, .int .i64 0, .int .i64 0] 32)).alloc (.cells #[.slice none 0 0, .int .i64 0, .int .i64 0] 32)) = WW at *
  have ke := keeps_alloc WW (.cells #[] 3)
  have O0 := Lib.hid (show Own (WW.alloc (.cells #[] 3)) WW.heap.size 3 1 (.slice (some ⟨WW.heap.size, 0, none⟩) 0 0) 0 [] from ⟨rfl, .inr ⟨WW.heap.size, 0, #[], (0, 0), rfl, Nat.le_refl _, heap_alloc_new WW _, .inl rfl, Nat.le_refl _, by simp [maxLen], rfl, rfl⟩⟩)
  have KP2 := Lib.hid (KP.out.low ke)
  have hwh : WW.heap.size = w.heap.size + 1 + 1 + 1 := by rw [← hWW]; simp
  rw [hwh] at O0
  subst hWW
  clear hwh
  clear hF h ho hZ
  go_enter Try.func13, Try.ntmps13
  go_wp2_with (at_builtin; refine wpList_app _ rfl _ _ 23 rfl (w.heap.size + 1 + 1 + 1) 3 i0 (.int .i64 0) 1 8 Try.underlying23 hi hz0 hz1 hz2 rfl (by decide) _ 0 [] rfl O0.out _ o.A2 o.len2 o.c2 (intC o.x.keep) rfl (by rw [intC_length, HL.out, Nat.mul_one]) KP2.out (intC_one _) (by unfold maxLen; omega) (by omega) (by simp) ?_; intro v5 w5 hown5 hg5 hb5)
  have hg5' : ((((w.alloc (.cells #[.int .i64 10, .string (str o.x.name), .string (str o.x.to), .int .i64 o.x.off, .int .i64 o.x.n, .slice o.A o.len o.c, .int .u8 (o.x.mask.toNat : Int), .slice o.A2 o.len2 o.c2] 25)).alloc (.cells #[.slice none 0 0, .int .i64 0, .int .i64 0] 32)).alloc (.cells #[.slice none 0 0, .int .i64 0, .int .i64 0] 32)).alloc (.cells #[] 3)).grownBy w5 (some (w.heap.size + 1 + 1 + 1)) := hg5
  have k5 := Below.grown ke hg5' ke.size (fun g hg => by cases hg; simp)
  have o5 : Own w5 (w.heap.size + 1 + 1 + 1) 3 1 v5 o.len2 (intC o.x.keep) := by simpa using hown5
  obtain ⟨A5, c5, rfl, hc5, -, -, hb6⟩ := o5.form
  have kW5 := keeps_trans kW k5
  have C := Lib.hid (K.on A5 o.len2 c5 o.x.keep (K.keep (HV.out.z HZ.out) kW5) (HV.out.keep kW5).D o5.at_ (fun ad ha hf => by have h1 := (hb6 ad ha).2.1; have h2 := HF.out _ hf; omega) HL.out hc5 hm)
  have KW5 := Lib.hid kW5
  have Y1 := B1.keep k5
  have Y2 := B2.keep k5
  have hsz5 := Lib.hid (show w.heap.size + 3 ≤ w5.heap.size by have := k5.size; rw [hs3] at this; exact this)
  clear hg5 hg5' hb5 hown5 o5 hb6 B1 B2 hs3 kW5
  refine C.out.mono ?_
  rintro e w1 ⟨rfl, F', hD, hT⟩
  have n1 : ¬ F (w.heap.size + 1) := fun e => by have := HF.out _ e; omega
  have n2 : ¬ F (w.heap.size + 1 + 1) := fun e => by have := HF.out _ e; omega
  have X1 := Y1.turned hT n1
  have X2 := Y2.turned hT n2
  have c10 := X1.cell 0 rfl
  have c11 := X1.cell 1 rfl
  have c12 := X1.cell 2 rfl
  have f10 := X1.frozen 0
  have f11 := X1.frozen 1
  have f12 := X1.frozen 2
  have c20 := X2.cell 0 rfl
  have c21 := X2.cell 1 rfl
  have c22 := X2.cell 2 rfl
  have f21 := X2.frozen 1
  have f22 := X2.frozen 2
  have HDD := Lib.hid hD
  have HT := Lib.hid hT
  have HDO := Lib.hid HD
  clear hD hT Y1 Y2 X2 n1 n2 HD k5
  obtain ⟨E, hE⟩ : ∃ E : Int, (((onS s o.x.keep).2 : Nat) : Int) = E := ⟨_, rfl⟩
  rw [hE]
  have HE := Lib.hid hE.symm
  clear hE
  go_wp2_with fail
  have XB : Box (((((w1).setCell ⟨w.heap.size + 1 + 1, 2, none⟩ (.int .i64 E)).setCell ⟨w.heap.size + 1, 0, none⟩ (.slice none 0 0)).setCell ⟨w.heap.size + 1, 1, none⟩ (.int .i64 0)).setCell ⟨w.heap.size + 1, 2, none⟩ (.int .i64 E)) (w.heap.size + 1) 32 #[.slice none 0 0, .int .i64 0, .int .i64 E] := by simpa using ((((X1.far (p := ⟨w.heap.size + 1 + 1, 2, none⟩) (show w.heap.size + 1 ≠ w.heap.size + 1 + 1 by omega) (.int .i64 E)).set 0 (.slice none 0 0)).set 1 (.int .i64 0)).set 2 (.int .i64 E))
  have XO : Only w1 (((((w1).setCell ⟨w.heap.size + 1 + 1, 2, none⟩ (.int .i64 E)).setCell ⟨w.heap.size + 1, 0, none⟩ (.slice none 0 0)).setCell ⟨w.heap.size + 1, 1, none⟩ (.int .i64 0)).setCell ⟨w.heap.size + 1, 2, none⟩ (.int .i64 E)) (fun i => w.heap.size ≤ i ∧ i < w.heap.size + 3) := only_xt w1 (w.heap.size) (w.heap.size + 3) [((⟨w.heap.size + 1 + 1, 2, none⟩ : Addr), (.int .i64 E : Value)), ((⟨w.heap.size + 1, 0, none⟩ : Addr), (.slice none 0 0 : Value)), ((⟨w.heap.size + 1, 1, none⟩ : Addr), (.int .i64 0 : Value)), ((⟨w.heap.size + 1, 2, none⟩ : Addr), (.int .i64 E : Value))] (by simp <;> omega)
  generalize ((((w1).setCell ⟨w.heap.size + 1 + 1, 2, none⟩ (.int .i64 E)).setCell ⟨w.heap.size + 1, 0, none⟩ (.slice none 0 0)).setCell ⟨w.heap.size + 1, 1, none⟩ (.int .i64 0)).setCell ⟨w.heap.size + 1, 2, none⟩ (.int .i64 E) = W4 at *
  have d0 := XB.cell 0 rfl
  have d1 := XB.cell 1 rfl
  have d2 := XB.cell 2 rfl
  refine bodyPost_ret (v := .tuple #[.agg #[.slice none 0 0, .int .i64 0, .int .i64 E], .bool true]) (by simp [results, Try.results13, go_sem, d0, d1, d2]) rfl ?_
  exact done_close (by rw [HDO.out]) (by rw [HDO.out]; exact HDD.out) HT.out KW5.out HF.out (XO.weak (fun i hi => ⟨hi.1, by have := hsz5.out; omega⟩)) (by rw [HDO.out]; show Ending.returned _ = Ending.returned (.tuple #[.agg #[.slice none 0 0, .int .i64 0, .int .i64 (((onS s o.x.keep).2 : Nat) : Int)], .bool true]); rw [← HE.out])

theorem Own.only_ {w w' : World} {S : Nat → Prop} {base : Nat} {e : TypeId} {size : Nat} {v : Value} {n : Nat} {xs : List Value} (h : Own w base e size v n xs) (ho : Only w w' S) (hS : ∀ k, v.ownBlock = some k → ¬ S k) : Own w' base e size v n xs :=
  h.same fun k hk => ho.block k (h.lt k hk).2 (hS k hk)
theorem Box.only_ {w w' : World} {S : Nat → Prop} {b : Nat} {T : TypeId} {cs : Array Value} (h : Box w b T cs) (ho : Only w w' S) (hS : ¬ S b) : Box w' b T cs := (ho.block b h.lt hS).trans h
/-- a row is written over, one place after the other -/
structure Over (w3 wr : World) (base : Nat) (v : Value) (n : Nat) : Prop where
  own : ∃ xs, Own wr base 5 1 v n xs
  only : Only w3 wr (fun c => v.ownBlock = some c)
theorem Over.start {w : World} {base : Nat} {v : Value} {n : Nat} {xs : List Value} (h : Own w base 5 1 v n xs) : Over w w base v n := ⟨⟨xs, h⟩, Only.refl _ _⟩
theorem Over.cell {w3 wr : World} {base : Nat} {A : Option Addr} {n c j : Nat} (h : Over w3 wr base (.slice A n c) n) (hj : j < n) : ∃ g u, A = some ⟨g, 0, none⟩ ∧ wr.cell? ⟨g, j, none⟩ = some u ∧ wr.frozen? ⟨g, j, none⟩ = false := by
  obtain ⟨xs, hx⟩ := h.own
  have hl : xs.length = n := by have := hx.1; omega
  obtain ⟨g, hA, hc, hf, -⟩ := hx.cell (j := j) (by omega)
  exact ⟨g, xs[j]'(by omega), hA, by rw [hc, List.getElem?_eq_getElem (by omega)], hf⟩
theorem Over.put {w3 wr : World} {base g n c j : Nat} (h : Over w3 wr base (.slice (some ⟨g, 0, none⟩) n c) n) (hj : j < n) (u : Value) : Over w3 (wr.setCell ⟨g, j, none⟩ u) base (.slice (some ⟨g, 0, none⟩) n c) n := by
  obtain ⟨xs, hx⟩ := h.own
  have hl : xs.length = n := by have := hx.1; omega
  exact ⟨⟨_, hx.store (j := j) (by omega) u⟩, h.only.trans ((Only.cell1 wr ⟨g, j, none⟩ u).weak (T := fun c' => (Value.slice (some ⟨g, 0, none⟩) n c).ownBlock = some c') (fun i e => by simp [Value.ownBlock, e])) (fun i hi => .inl hi)⟩
set_option maxHeartbeats 8000000 in
theorem does_read (K : DiskOk) {w0 w : World} {b : Nat} {F : Nat → Prop} {s : Ds} (hZ : K.Z w0) (h : Have K w0 w b F s) (o : OpS) (ho : OpOk w0 o) (hlen : (readS s o.x.name o.x.off o.x.n).1.length ≤ 20000000) (hk : o.x.kind = 6) :
    Calls Try.prog 13 #[dpt b, .agg (opA o)] w (DoneV K w b F s o.x) := by
  have hF := K.lt h.D
  have kW := keeps_alloc3 w (.cells (opA o) 25) (.cells #[.slice none 0 0, .int .i64 0, .int .i64 0] 32) (.cells #[.slice none 0 0, .int .i64 0, .int .i64 0] 32)
  have hs3 : (((w.alloc (.cells (opA o) 25)).alloc (.cells #[.slice none 0 0, .int .i64 0, .int .i64 0] 32)).alloc (.cells #[.slice none 0 0, .int .i64 0, .int .i64 0] 32)).heap.size = w.heap.size + 3 := by simp
  have B1 := box_second w (.cells (opA o) 25) 32 #[.slice none 0 0, .int .i64 0, .int .i64 0] (.cells #[.slice none 0 0, .int .i64 0, .int .i64 0] 32)
  have B2 := box_third3 w (.cells (opA o) 25) (.cells #[.slice none 0 0, .int .i64 0, .int .i64 0] 32) 32 #[.slice none 0 0, .int .i64 0, .int .i64 0]
  have HD : doS s o.x = (s, ⟨(readS s o.x.name o.x.off o.x.n).1, 0, (readS s o.x.name o.x.off o.x.n).2⟩) := by unfold doS; rw [hk]; rfl
  have C := Lib.hid (K.read o.x.name o.x.off o.x.n (K.keep (h.z hZ) kW) (h.keep kW).D ho.nm ho.off.1 ho.off.2 ho.n.1 ho.n.2)
  have HF := Lib.hid hF
  have HV := Lib.hid h
  have HS3 := Lib.hid hs3
  have HDO := Lib.hid HD
  generalize (readS s o.x.name o.x.off o.x.n).1 = L at *
  generalize (readS s o.x.name o.x.off o.x.n).2 = E at *
  unfold opA at *
  unfold dpt strV at *
  rw [hk] at *
  clear hF h ho hZ HD
  go_enter Try.func13, Try.ntmps13
  go_wp2_with fail
  refine C.out.mono ?_
  rintro e w1 ⟨v1, rfl, o1, k1⟩
  rw [hs3] at o1
  obtain ⟨A1, c1, rfl, hc1, hm1, -, -⟩ := o1.form
  have TW := Lib.hid (twin6_any A1 L.length c1 L w1 o1.at_ rfl hlen)
  have O1 := Lib.hid o1
  have Y1 := B1.keep k1
  have Y2 := B2.keep k1
  clear B1 B2 o1
  go_wp2_with fail
  refine TW.out.mono ?_
  rintro e w2 ⟨v2, rfl, o2, k2⟩
  have X1 := Y1.keep k2
  have X2 := Y2.keep k2
  have c20 := X2.cell 0 rfl
  have c21 := X2.cell 1 rfl
  have c22 := X2.cell 2 rfl
  have f20 := X2.frozen 0
  have f22 := X2.frozen 2
  have O2 := Lib.hid o2
  have O12 := Lib.hid (O1.out.keep k2)
  obtain ⟨A2, c2, rfl, -⟩ := o2.form
  clear Y1 Y2 o2
  have W1 := Lib.hid (show w.heap.size + 3 ≤ w1.heap.size by have := k1.size; rw [hs3] at this; exact this)
  have KA := Lib.hid (keeps_trans k1 k2)
  clear hs3
  go_wp2_with fail
  have Z2 : Box ((w2.setCell ⟨w.heap.size + 1 + 1, 0, none⟩ (.slice A2 L.length c2)).setCell ⟨w.heap.size + 1 + 1, 2, none⟩ (.int .i64 E)) (w.heap.size + 1 + 1) 32 #[.slice A2 L.length c2, .int .i64 0, .int .i64 E] := by simpa using (X2.set 0 (.slice A2 L.length c2)).set 2 (.int .i64 E)
  have XO0 : Only w2 ((w2.setCell ⟨w.heap.size + 1 + 1, 0, none⟩ (.slice A2 L.length c2)).setCell ⟨w.heap.size + 1 + 1, 2, none⟩ (.int .i64 E)) (fun i => w.heap.size + 1 + 1 ≤ i ∧ i < w.heap.size + 1 + 1 + 1) := only_xt w2 (w.heap.size + 1 + 1) (w.heap.size + 1 + 1 + 1) [((⟨w.heap.size + 1 + 1, 0, none⟩ : Addr), (.slice A2 L.length c2 : Value)), ((⟨w.heap.size + 1 + 1, 2, none⟩ : Addr), (.int .i64 E : Value))] (by simp)
  have Z1 := X1.only_ XO0 (by omega)
  generalize (w2.setCell ⟨w.heap.size + 1 + 1, 0, none⟩ (.slice A2 L.length c2)).setCell ⟨w.heap.size + 1 + 1, 2, none⟩ (.int .i64 E) = w3 at *
  have P12 := Lib.hid (O12.out.only_ XO0 (fun k hk hs => by have := (O12.out.lt k hk).1; omega))
  have P2 := Lib.hid (O2.out.only_ XO0 (fun k hk hs => by have := (O2.out.lt k hk).1; have := W1.out; omega))
  have V1 := Lib.hid (fun k hk => (O1.out.lt k hk))
  have V2 := Lib.hid (fun k hk => (O2.out.lt k hk).1)
  have ZZ1 := Lib.hid Z1
  have ZZ2 := Lib.hid Z2
  have XX0 := Lib.hid XO0
  clear c20 c21 c22 f20 f22 X1 X2 Z1 Z2 XO0 O12 O2 O1
  go_loopw [12] (fun i wr => ∃ j : Nat, j ≤ L.length ∧ i = .int .i64 j ∧ Over w3 wr (w.heap.size + 3) (.slice A1 L.length c1) L.length) (fun i _ => L.length - (intOf i).toNat)
  case atStart => exact ⟨0, Nat.zero_le _, rfl, Over.start P12.out⟩
  case round =>
    obtain ⟨j, hj, rfl, hov⟩ := hrel
    by_cases hlt : j < L.length
    · obtain ⟨g, u, rfl, hc, hf⟩ := hov.cell hlt
      have hjn : (j : Int) < (L.length : Int) := by omega
      have OV := Lib.hid (hov.put hlt (.int .u8 238))
      clear hov
      go_wp2_with fail
      go_roundw
      case rel => exact ⟨j + 1, by omega, by go_num, OV.out⟩
      case measure => simp [intOf]; omega
    · obtain rfl : j = L.length := by omega
      have HON := Lib.hid hov.only
      have R1 := ZZ1.out.only_ hov.only (fun e => by have := (V1.out _ e).1; omega)
      have R2 := ZZ2.out.only_ hov.only (fun e => by have := (V1.out _ e).1; omega)
      have c10 := R1.cell 0 rfl
      have c11 := R1.cell 1 rfl
      have c12 := R1.cell 2 rfl
      have f10 := R1.frozen 0
      have f11 := R1.frozen 1
      have f12 := R1.frozen 2
      have c20 := R2.cell 0 rfl
      have c21 := R2.cell 1 rfl
      have c22 := R2.cell 2 rfl
      have RR1 := Lib.hid R1
      clear hov hlt hj R1 R2
      go_wp2_with fail
      have XB : Box (((wr.setCell ⟨w.heap.size + 1, 0, none⟩ (.slice A2 L.length c2)).setCell ⟨w.heap.size + 1, 1, none⟩ (.int .i64 0)).setCell ⟨w.heap.size + 1, 2, none⟩ (.int .i64 E)) (w.heap.size + 1) 32 #[.slice A2 L.length c2, .int .i64 0, .int .i64 E] := by simpa using ((RR1.out.set 0 (.slice A2 L.length c2)).set 1 (.int .i64 0)).set 2 (.int .i64 E)
      have XO : Only wr (((wr.setCell ⟨w.heap.size + 1, 0, none⟩ (.slice A2 L.length c2)).setCell ⟨w.heap.size + 1, 1, none⟩ (.int .i64 0)).setCell ⟨w.heap.size + 1, 2, none⟩ (.int .i64 E)) (fun i => w.heap.size + 1 ≤ i ∧ i < w.heap.size + 1 + 1) := only_xt wr (w.heap.size + 1) (w.heap.size + 1 + 1) [((⟨w.heap.size + 1, 0, none⟩ : Addr), (.slice A2 L.length c2 : Value)), ((⟨w.heap.size + 1, 1, none⟩ : Addr), (.int .i64 0 : Value)), ((⟨w.heap.size + 1, 2, none⟩ : Addr), (.int .i64 E : Value))] (by simp)
      generalize ((wr.setCell ⟨w.heap.size + 1, 0, none⟩ (.slice A2 L.length c2)).setCell ⟨w.heap.size + 1, 1, none⟩ (.int .i64 0)).setCell ⟨w.heap.size + 1, 2, none⟩ (.int .i64 E) = W4 at *
      have d0 := XB.cell 0 rfl
      have d1 := XB.cell 1 rfl
      have d2 := XB.cell 2 rfl
      refine bodyPost_ret (v := .tuple #[.agg #[.slice A2 L.length c2, .int .i64 0, .int .i64 E], .bool true]) (by simp [results, Try.results13, go_sem, d0, d1, d2]) rfl ?_
      have T1 := ((Only.of_keeps KA.out).weak (T := fun i => w.heap.size ≤ i ∧ ¬ F i) (fun _ e => e.elim)).trans XX0.out (fun i hi => .inl ⟨by omega, fun e => by have := HF.out _ e; omega⟩)
      have T2 := T1.trans HON.out (fun i hi => .inl ⟨by have := (V1.out i hi).1; omega, fun e => by have := HF.out _ e; have := (V1.out i hi).1; omega⟩)
      have T3 := T2.trans XO (fun i hi => .inl ⟨by omega, fun e => by have := HF.out _ e; omega⟩)
      have PP := (P2.out.only_ HON.out (fun q hq hs => by have h1 := V2.out q hq; have h2 := (V1.out q hs).2; omega)).only_ XO (fun q hq hs => by have h1 := V2.out q hq; have h2 := W1.out; omega)
      refine done_close2 (F' := F) (by rw [HDO.out]; exact (HV.out.keep kW).D) (Turns.refl _ _) kW HF.out T3 (by rw [HDO.out]; exact PP.base_le (by have := W1.out; omega)) (fun q hq e => by have h1 := V2.out q hq; have h2 := HF.out _ e; have h3 := W1.out; omega) (by rw [HDO.out]; rfl)

theorem box_first3 (w : World) (cs : Array Value) (T : TypeId) (y z : Obj) : Box (((w.alloc (.cells cs T)).alloc y).alloc z) w.heap.size T cs := ((Box.new w T cs).keep (keeps_alloc _ y)).keep (keeps_alloc _ z)
set_option maxHeartbeats 8000000 in
theorem does_write (K : DiskOk) {w0 w : World} {b : Nat} {F : Nat → Prop} {s : Ds} (hZ : K.Z w0) (h : Have K w0 w b F s) (o : OpS) (ho : OpOk w0 o) (hm : o.len ≤ 70000) (hk : o.x.kind = 3) :
    Calls Try.prog 13 #[dpt b, .agg (opA o)] w (DoneV K w b F s o.x) := by
  have hF := K.lt h.D
  have kW := keeps_alloc3 w (.cells (opA o) 25) (.cells #[.slice none 0 0, .int .i64 0, .int .i64 0] 32) (.cells #[.slice none 0 0, .int .i64 0, .int .i64 0] 32)
  have hs3 : (((w.alloc (.cells (opA o) 25)).alloc (.cells #[.slice none 0 0, .int .i64 0, .int .i64 0] 32)).alloc (.cells #[.slice none 0 0, .int .i64 0, .int .i64 0] 32)).heap.size = w.heap.size + 3 := by simp
  have B1 := box_second w (.cells (opA o) 25) 32 #[.slice none 0 0, .int .i64 0, .int .i64 0] (.cells #[.slice none 0 0, .int .i64 0, .int .i64 0] 32)
  have B2 := box_third3 w (.cells (opA o) 25) (.cells #[.slice none 0 0, .int .i64 0, .int .i64 0] 32) 32 #[.slice none 0 0, .int .i64 0, .int .i64 0]
  have B0 := (box_first3 w (opA o) 25 (.cells #[.slice none 0 0, .int .i64 0, .int .i64 0] 32) (.cells #[.slice none 0 0, .int .i64 0, .int .i64 0] 32))
  have HD : doS s o.x = ((writeS s o.x.name o.x.off o.x.b).1, ⟨[], 0, (writeS s o.x.name o.x.off o.x.b).2⟩) := by unfold doS; rw [hk]; rfl
  have TW := Lib.hid (twin6_any o.A o.len o.c o.x.b _ (ho.b.low (keeps_trans h.kp kW)) ho.len (by omega))
  have HF := Lib.hid hF
  have HV := Lib.hid h
  have HO := Lib.hid ho
  have HZ := Lib.hid hZ
  have HDO := Lib.hid HD
  obtain ⟨E, hE⟩ : ∃ E : Nat, (writeS s o.x.name o.x.off o.x.b).2 = E := ⟨_, rfl⟩
  have HE := Lib.hid hE
  unfold opA at *
  unfold dpt strV at *
  rw [hk] at *
  have hbl : o.x.b.length ≤ 70000 := by have := ho.len; omega
  clear hF h ho hZ HD hE
  go_enter Try.func13, Try.ntmps13
  go_wp2_with fail
  refine TW.out.mono ?_
  rintro e w1 ⟨v1, rfl, o1, k1⟩
  rw [hs3] at o1
  obtain ⟨A1, c1, rfl, hc1, hm1, -, hb1⟩ := o1.form
  have kW1 := keeps_trans kW k1
  have WR := Lib.hid (K.write o.x.name o.x.off A1 o.x.b.length c1 o.x.b (K.keep (HV.out.z HZ.out) kW1) (HV.out.keep kW1).D HO.out.nm HO.out.off.1 HO.out.off.2 o1.at_ (fun ad ha hf => by have h1 := (hb1 ad ha).2.1; have h2 := HF.out _ hf; omega) rfl hc1 (by have := HO.out.len; omega))
  rw [HE.out] at WR
  unfold dpt strV at WR
  have KW1 := Lib.hid kW1
  have O1 := Lib.hid o1
  have Y0 := B0.keep k1
  have Y1 := B1.keep k1
  have Y2 := B2.keep k1
  have W1 := Lib.hid (show w.heap.size + 3 ≤ w1.heap.size by have := k1.size; rw [hs3] at this; exact this)
  have b0 := Y0.cell 0 rfl
  have b1 := Y0.cell 1 rfl
  have b3 := Y0.cell 3 rfl
  have b5 := Y0.cell 5 rfl
  clear B0 B1 B2 o1 hb1 hs3 kW1
  go_wp2_with fail
  refine WR.out.mono ?_
  rintro e w2 ⟨rfl, F', hD, hT⟩
  have n0 : ¬ F (w.heap.size) := fun e => by have := HF.out _ e; omega
  have n1 : ¬ F (w.heap.size + 1) := fun e => by have := HF.out _ e; omega
  have n2 : ¬ F (w.heap.size + 1 + 1) := fun e => by have := HF.out _ e; omega
  have X0 := Y0.turned hT n0
  have X1 := Y1.turned hT n1
  have X2 := Y2.turned hT n2
  have e5 := X0.cell 5 rfl
  have c22 := X2.cell 2 rfl
  have f22 := X2.frozen 2
  have O2 := Lib.hid (O1.out.turns hT (fun q hq hf => by have h1 := (O1.out.lt q hq).1; have h2 := HF.out _ hf; omega))
  have HDD := Lib.hid hD
  have HT := Lib.hid hT
  have N12 := Lib.hid (show ¬ F' (w.heap.size + 1) ∧ ¬ F' (w.heap.size + 1 + 1) from ⟨hT.notIn (by have := W1.out; omega) n1, hT.notIn (by have := W1.out; omega) n2⟩)
  have NV := Lib.hid (fun q hq => hT.notIn (O1.out.lt q hq).2 (fun hf => by have h1 := (O1.out.lt q hq).1; have h2 := HF.out _ hf; omega))
  have K02 := Lib.hid (hT.keeps (keeps_trans HV.out.kp KW1.out) HV.out.low)
  clear hD hT n0 n1 n2 Y0 Y1 Y2 b0 b1 b3 b5
  -- the words that are told, and the two rows compared
  have Z2 : Box (w2.setCell ⟨w.heap.size + 1 + 1, 2, none⟩ (.int .i64 E)) (w.heap.size + 1 + 1) 32 #[.slice none 0 0, .int .i64 0, .int .i64 E] := by simpa using X2.set 2 (.int .i64 E)
  have XO0 : Only w2 (w2.setCell ⟨w.heap.size + 1 + 1, 2, none⟩ (.int .i64 E)) (fun i => w.heap.size + 1 + 1 ≤ i ∧ i < w.heap.size + 1 + 1 + 1) := only_xt w2 (w.heap.size + 1 + 1) (w.heap.size + 1 + 1 + 1) [((⟨w.heap.size + 1 + 1, 2, none⟩ : Addr), (.int .i64 E : Value))] (by simp)
  have Z0 := X0.only_ XO0 (by omega)
  have Z1 := X1.only_ XO0 (by omega)
  have O3 := O2.out.only_ XO0 (fun q hq hs => by have := (O1.out.lt q hq).1; omega)
  have K03 : Keeps w0 (w2.setCell ⟨w.heap.size + 1 + 1, 2, none⟩ (.int .i64 E)) := Below.trans K02.out (XO0.below (fun q hq => by have := HV.out.kp.size; omega) K02.out.size)
  have SM := Lib.hid (same6_any A1 o.x.b.length c1 o.x.b o.A o.len o.c o.x.b (w2.setCell ⟨w.heap.size + 1 + 1, 2, none⟩ (.int .i64 E)) O3.at_ rfl (HO.out.b.low K03) HO.out.len (by have := HO.out.len; omega))
  have z5 := Z0.cell 5 rfl
  rw [decide_eq_true rfl] at SM
  have ZZ1 := Lib.hid Z1
  have ZZ2 := Lib.hid Z2
  have XX0 := Lib.hid XO0
  have P3 := Lib.hid O3
  clear X0 X1 X2 Z0 Z1 Z2 XO0 O3 O2 K03
  go_wp2_with fail
  refine SM.out.mono ?_
  rintro e w4 ⟨rfl, k4⟩
  have V1 := Lib.hid (fun q hq => O1.out.lt q hq)
  have P4 := Lib.hid (P3.out.keep k4)
  have Q1 := Lib.hid (ZZ1.out.keep k4)
  have Q2 := Lib.hid (ZZ2.out.keep k4)
  have K4 := Lib.hid k4
  clear e5 c22 f22 z5 SM P3 ZZ1 ZZ2 O1 k4
  go_wp2_with fail
  go_loopw [9] (fun i wr => ∃ j : Nat, j ≤ o.x.b.length ∧ i = .int .i64 j ∧ Over w4 wr (w.heap.size + 3) (.slice A1 o.x.b.length c1) o.x.b.length) (fun i _ => o.x.b.length - (intOf i).toNat)
  case atStart => exact ⟨0, Nat.zero_le _, rfl, Over.start P4.out⟩
  case round =>
    obtain ⟨j, hj, rfl, hov⟩ := hrel
    by_cases hlt : j < o.x.b.length
    · obtain ⟨g, u, rfl, hc, hf⟩ := hov.cell hlt
      have hjn : (j : Int) < (o.x.b.length : Int) := by omega
      have OV := Lib.hid (hov.put hlt (.int .u8 237))
      clear hov
      go_wp2_with fail
      go_roundw
      case rel => exact ⟨j + 1, by omega, by go_num, OV.out⟩
      case measure => simp [intOf]; omega
    · obtain rfl : j = o.x.b.length := by omega
      have HON := Lib.hid hov.only
      have R1 := Q1.out.only_ hov.only (fun e => by have := (V1.out _ e).1; omega)
      have R2 := Q2.out.only_ hov.only (fun e => by have := (V1.out _ e).1; omega)
      have c10 := R1.cell 0 rfl
      have c11 := R1.cell 1 rfl
      have c12 := R1.cell 2 rfl
      have f10 := R1.frozen 0
      have f11 := R1.frozen 1
      have f12 := R1.frozen 2
      have c20 := R2.cell 0 rfl
      have c21 := R2.cell 1 rfl
      have c22 := R2.cell 2 rfl
      have RR1 := Lib.hid R1
      clear hov hlt hj R1 R2
      go_wp2_with fail
      have XB : Box (((wr.setCell ⟨w.heap.size + 1, 0, none⟩ (.slice none 0 0)).setCell ⟨w.heap.size + 1, 1, none⟩ (.int .i64 0)).setCell ⟨w.heap.size + 1, 2, none⟩ (.int .i64 E)) (w.heap.size + 1) 32 #[.slice none 0 0, .int .i64 0, .int .i64 E] := by simpa using ((RR1.out.set 0 (.slice none 0 0)).set 1 (.int .i64 0)).set 2 (.int .i64 E)
      have XO : Only wr (((wr.setCell ⟨w.heap.size + 1, 0, none⟩ (.slice none 0 0)).setCell ⟨w.heap.size + 1, 1, none⟩ (.int .i64 0)).setCell ⟨w.heap.size + 1, 2, none⟩ (.int .i64 E)) (fun i => w.heap.size + 1 ≤ i ∧ i < w.heap.size + 1 + 1) := only_xt wr (w.heap.size + 1) (w.heap.size + 1 + 1) [((⟨w.heap.size + 1, 0, none⟩ : Addr), (.slice none 0 0 : Value)), ((⟨w.heap.size + 1, 1, none⟩ : Addr), (.int .i64 0 : Value)), ((⟨w.heap.size + 1, 2, none⟩ : Addr), (.int .i64 E : Value))] (by simp)
      generalize ((wr.setCell ⟨w.heap.size + 1, 0, none⟩ (.slice none 0 0)).setCell ⟨w.heap.size + 1, 1, none⟩ (.int .i64 0)).setCell ⟨w.heap.size + 1, 2, none⟩ (.int .i64 E) = W4 at *
      have d0 := XB.cell 0 rfl
      have d1 := XB.cell 1 rfl
      have d2 := XB.cell 2 rfl
      refine bodyPost_ret (v := .tuple #[.agg #[.slice none 0 0, .int .i64 0, .int .i64 E], .bool true]) (by simp [results, Try.results13, go_sem, d0, d1, d2]) rfl ?_
      have T0 := XX0.out.weak (T := fun i => w.heap.size ≤ i ∧ ¬ F' i) (fun i hi => ⟨by omega, by have := N12.out.2; have e : i = w.heap.size + 1 + 1 := (by omega); rw [e]; exact this⟩)
      have T1 := T0.keep K4.out
      have T2 := T1.trans HON.out (fun i hi => .inl ⟨by have := (V1.out i hi).1; omega, NV.out i hi⟩)
      have T3 := T2.trans XO (fun i hi => .inl ⟨by omega, by have := N12.out.1; have e : i = w.heap.size + 1 := (by omega); rw [e]; exact this⟩)
      exact done_close2 (F' := F') (by rw [HDO.out]; exact HDD.out) HT.out KW1.out HF.out T3 (by rw [HDO.out]; exact Own.nil _ _ _ _) (fun q hq => by simp [Value.ownBlock] at hq) (by rw [HDO.out]; simp only [HE.out]; rfl)

set_option maxHeartbeats 8000000 in
theorem does_none (K : DiskOk) {w0 w : World} {b : Nat} {F : Nat → Prop} {s : Ds} (h : Have K w0 w b F s) (o : OpS) (hk : o.x.kind < 0 ∨ 11 < o.x.kind) :
    Calls Try.prog 13 #[dpt b, .agg (opA o)] w (DoneV K w b F s o.x) := by
  have hF := K.lt h.D
  have kW := keeps_alloc3 w (.cells (opA o) 25) (.cells #[.slice none 0 0, .int .i64 0, .int .i64 0] 32) (.cells #[.slice none 0 0, .int .i64 0, .int .i64 0] 32)
  have B1 := box_second w (.cells (opA o) 25) 32 #[.slice none 0 0, .int .i64 0, .int .i64 0] (.cells #[.slice none 0 0, .int .i64 0, .int .i64 0] 32)
  have HD : doS s o.x = (s, ⟨[], 0, 0⟩) := by
    unfold doS
    rw [if_neg (by omega), if_neg (by omega), if_neg (by omega), if_neg (by omega), if_neg (by omega), if_neg (by omega), if_neg (by omega), if_neg (by omega), if_neg (by omega), if_neg (by omega), if_neg (by omega), if_neg (by omega)]
  have HF := Lib.hid hF
  have HV := Lib.hid h
  have HDO := Lib.hid HD
  have q0 : (o.x.kind == 0) = false := by rw [beq_eq_false_iff_ne]; omega
  have q1 : (o.x.kind == 1) = false := by rw [beq_eq_false_iff_ne]; omega
  have q2 : (o.x.kind == 2) = false := by rw [beq_eq_false_iff_ne]; omega
  have q3 : (o.x.kind == 3) = false := by rw [beq_eq_false_iff_ne]; omega
  have q4 : (o.x.kind == 4) = false := by rw [beq_eq_false_iff_ne]; omega
  have q5 : (o.x.kind == 5) = false := by rw [beq_eq_false_iff_ne]; omega
  have q6 : (o.x.kind == 6) = false := by rw [beq_eq_false_iff_ne]; omega
  have q7 : (o.x.kind == 7) = false := by rw [beq_eq_false_iff_ne]; omega
  have q8 : (o.x.kind == 8) = false := by rw [beq_eq_false_iff_ne]; omega
  have q9 : (o.x.kind == 9) = false := by rw [beq_eq_false_iff_ne]; omega
  have q10 : (o.x.kind == 10) = false := by rw [beq_eq_false_iff_ne]; omega
  have q11 : (o.x.kind == 11) = false := by rw [beq_eq_false_iff_ne]; omega
  unfold opA at *
  unfold dpt strV at *
  clear hF h HD hk
  go_enter Try.func13, Try.ntmps13
  go_wp2_with fail
  refine bodyPost_ret (v := .tuple #[.agg #[.slice none 0 0, .int .i64 0, .int .i64 0], .bool true]) (by simp [results, Try.results13, go_sem]) rfl ?_
  exact ⟨.slice none 0 0, F, by rw [HDO.out]; rfl, by rw [HDO.out]; exact Own.nil _ _ _ _, by rw [HDO.out]; exact (HV.out.keep kW).D, Turns.of_keeps kW, fun q hq => by simp [Value.ownBlock] at hq⟩
/-- whatever is done -/
theorem does_any (K : DiskOk) {w0 w : World} {b : Nat} {F : Nat → Prop} {s : Ds} (hZ : K.Z w0) (h : Have K w0 w b F s) (o : OpS) (ho : OpOk w0 o) (hm : o.len ≤ 70000) (hm2 : o.len2 ≤ 70000) :
    Calls Try.prog 13 #[dpt b, .agg (opA o)] w (DoneV K w b F s o.x) := by
  by_cases hr : o.x.kind < 0 ∨ 11 < o.x.kind
  · exact does_none K h o hr
  · rcases (show o.x.kind = 0 ∨ o.x.kind = 1 ∨ o.x.kind = 2 ∨ o.x.kind = 3 ∨ o.x.kind = 4 ∨ o.x.kind = 5 ∨ o.x.kind = 6 ∨ o.x.kind = 7 ∨ o.x.kind = 8 ∨ o.x.kind = 9 ∨ o.x.kind = 10 ∨ o.x.kind = 11 by omega) with e | e | e | e | e | e | e | e | e | e | e | e
    · exact does_create K hZ h o ho e
    · exact does_remove K hZ h o ho e
    · exact does_rename K hZ h o ho e
    · exact does_write K hZ h o ho hm e
    · exact does_cut K hZ h o ho e
    · exact does_sync K hZ h o ho e
    · exact does_read K hZ h o ho (by have := readS_len (K.ok h.D) o.x.name o.x.off o.x.n; omega) e
    · exact does_size K hZ h o ho e
    · exact does_quota K hZ h o ho e
    · exact does_arm K hZ h o ho e
    · exact does_on K hZ h o ho hm2 e
    · exact does_flip K hZ h o ho e

theorem op_nil {w : World} {F : Nat → Prop} {s : Ds} {b : Nat} {f : FuncId} {args : Array Value} (hD : (∀ i, ¬ F i) ∧ DsOk s) (h : Calls Try.prog f args w fun e w' => e = .returned (.int .i64 2) ∧ Keeps w w') :
    Calls Try.prog f args w fun e w' => e = .returned (.int .i64 ((2 : Nat) : Int)) ∧ ∃ F', ((∀ i, ¬ F' i) ∧ DsOk s) ∧ Turns w w' F F' :=
  h.mono fun e w' q => ⟨q.1, F, hD, Turns.of_keeps q.2⟩
def nilOk : DiskOk where
  Z := fun _ => True
  keep := fun h _ => h
  D := fun _ _ F s => (∀ i, ¬ F i) ∧ DsOk s
  lt := fun h i hi => (h.1 i hi).elim
  same := fun h _ _ => h
  ok := fun h => h.2
  create := fun nm _ hD _ => op_nil (b := 0) hD (nil_Create _ _)
  remove := fun nm _ hD _ => op_nil (b := 0) hD (nil_Remove _ _)
  rename := fun nm to _ hD _ _ => op_nil (b := 0) hD (nil_Rename _ _ _)
  write := fun nm off A n c l _ hD _ _ _ _ _ _ _ _ => op_nil (b := 0) hD (nil_Write _ _ _ _ _ _)
  cut := fun nm n _ hD _ _ _ => op_nil (b := 0) hD (nil_Cut _ _ _)
  sync := fun nm _ hD _ => op_nil (b := 0) hD (nil_Sync _ _)
  read := fun nm off n _ _ _ _ _ _ _ => (nil_Read _ _ _ _).mono fun e w' q => ⟨.slice none 0 0, q.1, Own.nil _ _ _ _, q.2⟩
  size := fun nm _ _ _ => nil_Size _ _
  quota := fun n _ hD _ _ => op_nil (b := 0) hD (nil_Quota _ _)
  arm := fun n _ hD _ _ => op_nil (b := 0) hD (nil_Arm _ _)
  on := fun A n c l _ hD _ _ _ _ _ => op_nil (b := 0) hD (nil_On _ _ _ _)
  flip := fun nm i m _ hD _ _ _ => op_nil (b := 0) hD (nil_Flip _ _ _ _)
theorem doS_nil (s : Ds) (o : Opx) : (doS s o).2.b = [] ∧ (doS s o).2.n = 0 ∧ ((0 ≤ o.kind ∧ o.kind ≤ 11) → (doS s o).2.e = 2) := by
  unfold doS createS removeS renameS writeS cutS syncS readS sizeS quotaS armS onS flipS
  by_cases h0 : o.kind = 0
  · rw [if_pos h0]; exact ⟨rfl, rfl, fun _ => rfl⟩
  rw [if_neg h0]
  by_cases h1 : o.kind = 1
  · rw [if_pos h1]; exact ⟨rfl, rfl, fun _ => rfl⟩
  rw [if_neg h1]
  by_cases h2 : o.kind = 2
  · rw [if_pos h2]; exact ⟨rfl, rfl, fun _ => rfl⟩
  rw [if_neg h2]
  by_cases h3 : o.kind = 3
  · rw [if_pos h3]; exact ⟨rfl, rfl, fun _ => rfl⟩
  rw [if_neg h3]
  by_cases h4 : o.kind = 4
  · rw [if_pos h4]; exact ⟨rfl, rfl, fun _ => rfl⟩
  rw [if_neg h4]
  by_cases h5 : o.kind = 5
  · rw [if_pos h5]; exact ⟨rfl, rfl, fun _ => rfl⟩
  rw [if_neg h5]
  by_cases h6 : o.kind = 6
  · rw [if_pos h6]; exact ⟨rfl, rfl, fun _ => rfl⟩
  rw [if_neg h6]
  by_cases h7 : o.kind = 7
  · rw [if_pos h7]; exact ⟨rfl, rfl, fun _ => rfl⟩
  rw [if_neg h7]
  by_cases h8 : o.kind = 8
  · rw [if_pos h8]; exact ⟨rfl, rfl, fun _ => rfl⟩
  rw [if_neg h8]
  by_cases h9 : o.kind = 9
  · rw [if_pos h9]; exact ⟨rfl, rfl, fun _ => rfl⟩
  rw [if_neg h9]
  by_cases h10 : o.kind = 10
  · rw [if_pos h10]; exact ⟨rfl, rfl, fun _ => rfl⟩
  rw [if_neg h10]
  by_cases h11 : o.kind = 11
  · rw [if_pos h11]; exact ⟨rfl, rfl, fun _ => rfl⟩
  rw [if_neg h11]
  exact ⟨rfl, rfl, fun h => by exfalso; omega⟩
/-- what 'does' answers of no disk -/
theorem does_nil {w : World} (o : OpS) (ho : OpOk w o) (hm : o.len ≤ 70000) (hm2 : o.len2 ≤ 70000) :
    Calls Try.prog 13 #[.pointer none, .agg (opA o)] w fun e w' => ∃ A c E, e = .returned (.tuple #[.agg #[.slice A 0 c, .int .i64 0, .int .i64 (E : Int)], .bool true]) ∧ Keeps w w' ∧ ((0 ≤ o.x.kind ∧ o.x.kind ≤ 11) → E = 2) := by
  have hD : nilOk.D w 0 (fun _ => False) ⟨[], 0, 0, false⟩ := ⟨fun _ h => h, ⟨List.Pairwise.nil, by simp, by decide⟩⟩
  refine (does_any nilOk (w0 := w) trivial ⟨hD, fun i h => h.elim, keeps_refl _⟩ o ho hm hm2).mono ?_
  rintro e w' ⟨v, F', rfl, ho', hD', ht, -⟩
  have h := doS_nil ⟨[], 0, 0, false⟩ o.x
  rw [h.1] at ho'
  obtain ⟨A, c, rfl, -⟩ := ho'.form
  refine ⟨A, c, ((doS ⟨[], 0, 0, false⟩ o.x).2.e : Int), ?_, ht.keeps (keeps_refl _) (fun b h => h.elim), fun hk => by rw [h.2.2 hk]; rfl⟩
  rw [h.2.1]
  rfl
end Go.Proofs.Ytpbkkbkpodcgnaa.Nil
