/- What 'meant' does with the reference's disk. (Written by mkmeant.py.) -/
import Derived.Test.YtjfnpfojboellaaGreatLawDisk3
namespace Go.Proofs.YtjfnpfojboellaaGreat.Ref
open Go.RowKit
set_option linter.unusedSimpArgs false
set_option linter.unusedVariables false
set_option maxRecDepth 100000

theorem at_low {w0 : World} {B : Nat} {A : Option Addr} {xs : List Value} (h : At w0 B A xs) (hx : xs ≠ []) {ad : Addr} (ha : A = some ad) : ad.block < B := by
  rcases h with h | ⟨ad', h1, h2, -⟩
  · exact (hx h).elim
  · obtain rfl := Option.some.inj (ha.symm.trans h1)
    exact h2
structure DiskOk where
  Z : World → Prop
  keep : ∀ {w w' : World}, Z w → Keeps w w' → Z w'
  D : World → Nat → (Nat → Prop) → Ds → Prop
  lt : ∀ {w : World} {b : Nat} {F : Nat → Prop} {s : Ds}, D w b F s → ∀ i, F i → i < w.heap.size
  same : ∀ {w w' : World} {b : Nat} {F : Nat → Prop} {s : Ds}, D w b F s → (∀ i, F i → w'.heap[i]? = w.heap[i]?) → w.heap.size ≤ w'.heap.size → D w' b F s
  ok : ∀ {w : World} {b : Nat} {F : Nat → Prop} {s : Ds}, D w b F s → DsOk s
  new : ∀ (q : Int) (w : World), Z w → -9223372036854775808 ≤ q → q ≤ 9223372036854775807 →
    Calls Tryz.prog 7 #[.int .i64 q] w fun e w' =>
      (0 ≤ q ∧ q ≤ 1048576 ∧ ∃ b F, e = .returned (.tuple #[dpt b, .int .i64 0]) ∧ D w' b F ⟨[], q.toNat, 0, false⟩ ∧ (∀ i, F i → w.heap.size ≤ i) ∧ Keeps w w') ∨
      ((q < 0 ∨ 1048576 < q) ∧ e = .returned (.tuple #[.pointer none, .int .i64 1]) ∧ Keeps w w')
  create : ∀ {w : World} {b : Nat} {F : Nat → Prop} {s : Ds} (nm : List UInt8), Z w → D w b F s → s.l.length ≤ 70000 → nm.length ≤ maxLen →
    Calls Tryz.prog 30 #[dpt b, strV nm] w fun e w' => e = .returned (.int .i64 ((createS s nm).2 : Int)) ∧ ∃ F', D w' b F' (createS s nm).1 ∧ Turns w w' F F'
  remove : ∀ {w : World} {b : Nat} {F : Nat → Prop} {s : Ds} (nm : List UInt8), Z w → D w b F s → s.l.length ≤ 70000 → nm.length ≤ maxLen →
    Calls Tryz.prog 31 #[dpt b, strV nm] w fun e w' => e = .returned (.int .i64 ((removeS s nm).2 : Int)) ∧ ∃ F', D w' b F' (removeS s nm).1 ∧ Turns w w' F F'
  rename : ∀ {w : World} {b : Nat} {F : Nat → Prop} {s : Ds} (nm to : List UInt8), Z w → D w b F s → s.l.length ≤ 70000 → nm.length ≤ maxLen → to.length ≤ maxLen →
    Calls Tryz.prog 32 #[dpt b, strV nm, strV to] w fun e w' => e = .returned (.int .i64 ((renameS s nm to).2 : Int)) ∧ ∃ F', D w' b F' (renameS s nm to).1 ∧ Turns w w' F F'
  write : ∀ {w : World} {b : Nat} {F : Nat → Prop} {s : Ds} (nm : List UInt8) (off : Int) (A : Option Addr) (n c : Nat) (l : List UInt8), Z w → D w b F s → s.l.length ≤ 70000 → nm.length ≤ maxLen → -9223372036854775808 ≤ off → off ≤ 9223372036854775807 →
    Bs w A l → (∀ ad, A = some ad → l ≠ [] → ¬ F ad.block) → n = l.length → n ≤ c → n ≤ 70000 →
    Calls Tryz.prog 33 #[dpt b, strV nm, .int .i64 off, .slice A n c] w fun e w' => e = .returned (.int .i64 ((writeS s nm off l).2 : Int)) ∧ ∃ F', D w' b F' (writeS s nm off l).1 ∧ Turns w w' F F'
  cut : ∀ {w : World} {b : Nat} {F : Nat → Prop} {s : Ds} (nm : List UInt8) (n : Int), Z w → D w b F s → s.l.length ≤ 70000 → nm.length ≤ maxLen → -9223372036854775808 ≤ n → n ≤ 9223372036854775807 →
    Calls Tryz.prog 34 #[dpt b, strV nm, .int .i64 n] w fun e w' => e = .returned (.int .i64 ((cutS s nm n).2 : Int)) ∧ ∃ F', D w' b F' (cutS s nm n).1 ∧ Turns w w' F F'
  sync : ∀ {w : World} {b : Nat} {F : Nat → Prop} {s : Ds} (nm : List UInt8), Z w → D w b F s → s.l.length ≤ 70000 → nm.length ≤ maxLen →
    Calls Tryz.prog 35 #[dpt b, strV nm] w fun e w' => e = .returned (.int .i64 ((syncS s nm).2 : Int)) ∧ ∃ F', D w' b F' (syncS s nm).1 ∧ Turns w w' F F'
  read : ∀ {w : World} {b : Nat} {F : Nat → Prop} {s : Ds} (nm : List UInt8) (off n : Int), Z w → D w b F s → s.l.length ≤ 70000 → nm.length ≤ maxLen → -9223372036854775808 ≤ off → off ≤ 9223372036854775807 → -9223372036854775808 ≤ n → n ≤ 9223372036854775807 →
    Calls Tryz.prog 36 #[dpt b, strV nm, .int .i64 off, .int .i64 n] w fun e w' => ∃ v, e = .returned (.tuple #[v, .int .i64 ((readS s nm off n).2 : Int)]) ∧ Own w' w.heap.size 5 1 v (readS s nm off n).1.length (cel (readS s nm off n).1) ∧ Keeps w w'
  size : ∀ {w : World} {b : Nat} {F : Nat → Prop} {s : Ds} (nm : List UInt8), Z w → D w b F s → s.l.length ≤ 70000 → nm.length ≤ maxLen →
    Calls Tryz.prog 37 #[dpt b, strV nm] w fun e w' => e = .returned (.tuple #[.int .i64 ((sizeS s nm).1 : Int), .int .i64 ((sizeS s nm).2 : Int)]) ∧ Keeps w w'
  names : ∀ {w : World} {b : Nat} {F : Nat → Prop} {s : Ds}, Z w → D w b F s → s.l.length ≤ 70000 →
    Calls Tryz.prog 43 #[dpt b] w fun e w' => ∃ v, e = .returned v ∧ Own w' w.heap.size 9 1 v s.l.length (s.l.map fun f => strV f.name) ∧ Keeps w w'
  used : ∀ {w : World} {b : Nat} {F : Nat → Prop} {s : Ds}, Z w → D w b F s → s.l.length ≤ 70000 →
    Calls Tryz.prog 46 #[dpt b] w fun e w' => e = .returned (.int .i64 (usedL s.l : Int)) ∧ Keeps w w'
  quota : ∀ {w : World} {b : Nat} {F : Nat → Prop} {s : Ds} (n : Int), Z w → D w b F s → s.l.length ≤ 70000 → -9223372036854775808 ≤ n → n ≤ 9223372036854775807 →
    Calls Tryz.prog 38 #[dpt b, .int .i64 n] w fun e w' => e = .returned (.int .i64 ((quotaS s n).2 : Int)) ∧ ∃ F', D w' b F' (quotaS s n).1 ∧ Turns w w' F F'
  arm : ∀ {w : World} {b : Nat} {F : Nat → Prop} {s : Ds} (n : Int), Z w → D w b F s → s.l.length ≤ 70000 → -9223372036854775808 ≤ n → n ≤ 9223372036854775807 →
    Calls Tryz.prog 39 #[dpt b, .int .i64 n] w fun e w' => e = .returned (.int .i64 ((armS s n).2 : Int)) ∧ ∃ F', D w' b F' (armS s n).1 ∧ Turns w w' F F'
  dead : ∀ {w : World} {b : Nat} {F : Nat → Prop} {s : Ds}, Z w → D w b F s →
    Calls Tryz.prog 48 #[dpt b] w fun e w' => e = .returned (.bool s.off) ∧ Keeps w w'
  loose : ∀ {w : World} {b : Nat} {F : Nat → Prop} {s : Ds}, Z w → D w b F s → s.l.length ≤ 70000 →
    Calls Tryz.prog 45 #[dpt b] w fun e w' => ∃ v, e = .returned v ∧ Own w' w.heap.size 73 2 v (placesL s.l).length ((placesL s.l).flatMap placeC) ∧ Keeps w w'
  on : ∀ {w : World} {b : Nat} {F : Nat → Prop} {s : Ds} (A : Option Addr) (n c : Nat) (l : List Int), Z w → D w b F s → s.l.length ≤ 70000 → At w w.heap.size A (intC l) → (∀ ad, A = some ad → l ≠ [] → ¬ F ad.block) → n = l.length → n ≤ c → n ≤ 70000 →
    Calls Tryz.prog 40 #[dpt b, .slice A n c] w fun e w' => e = .returned (.int .i64 ((onS s l).2 : Int)) ∧ ∃ F', D w' b F' (onS s l).1 ∧ Turns w w' F F'
  flip : ∀ {w : World} {b : Nat} {F : Nat → Prop} {s : Ds} (nm : List UInt8) (i : Int) (m : UInt8), Z w → D w b F s → s.l.length ≤ 70000 → nm.length ≤ maxLen → -9223372036854775808 ≤ i → i ≤ 9223372036854775807 →
    Calls Tryz.prog 41 #[dpt b, strV nm, .int .i64 i, .int .u8 (m.toNat : Int)] w fun e w' => e = .returned (.int .i64 ((flipS s nm i m).2 : Int)) ∧ ∃ F', D w' b F' (flipS s nm i m).1 ∧ Turns w w' F F'
  files : ∀ {w : World} {b : Nat} {F : Nat → Prop} {s : Ds}, Z w → D w b F s → s.l.length ≤ 70000 →
    Calls Tryz.prog 14 #[dpt b] w fun e w' => ∃ v, e = .returned v ∧ FilesAt w' w.heap.size v (s.l.map fun f => (f.name, f.now)) ∧ Keeps w w'

/-- a disk that came of this call, made since w0 -/
structure Have (K : DiskOk) (w0 w : World) (b : Nat) (F : Nat → Prop) (s : Ds) : Prop where
  D : K.D w b F s
  low : ∀ i, F i → w0.heap.size ≤ i
  kp : Keeps w0 w
theorem Have.step {K : DiskOk} {w0 w w' : World} {b : Nat} {F F' : Nat → Prop} {s s' : Ds} (h : Have K w0 w b F s) (hD : K.D w' b F' s') (ht : Turns w w' F F') : Have K w0 w' b F' s' :=
  ⟨hD, fun i hi => by
    rcases ht.next i hi with h1 | h1
    · exact h.low i h1
    · exact Nat.le_trans h.kp.size h1, ht.keeps h.kp h.low⟩
theorem Have.keep {K : DiskOk} {w0 w w' : World} {b : Nat} {F : Nat → Prop} {s : Ds} (h : Have K w0 w b F s) (k : Keeps w w') : Have K w0 w' b F s :=
  ⟨K.same h.D (fun i hi => k.block i (K.lt h.D i hi)) k.size, h.low, keeps_trans h.kp k⟩
theorem Have.z {K : DiskOk} {w0 w : World} {b : Nat} {F : Nat → Prop} {s : Ds} (h : Have K w0 w b F s) (hZ : K.Z w0) : K.Z w := K.keep hZ h.kp
/-- what was done, and answered -/
def DoneV (K : DiskOk) (w : World) (b : Nat) (F : Nat → Prop) (s : Ds) (o : Opx) (e : Ending) (w' : World) : Prop :=
  ∃ v F', e = .returned (.agg #[v, .int .i64 ((doS s o).2.n : Int), .int .i64 ((doS s o).2.e : Int)]) ∧ Own w' w.heap.size 5 1 v (doS s o).2.b.length (cel (doS s o).2.b) ∧
    K.D w' b F' (doS s o).1 ∧ Turns w w' F F' ∧ (∀ k, v.ownBlock = some k → ¬ F' k)
/-- the end of it, where a number and an error are told -/
theorem done_close {K : DiskOk} {w W w1 w2 : World} {b : Nat} {F F' : Nat → Prop} {s : Ds} {o : Opx} {v : Value} (hb : (doS s o).2.b = [])
    (hD : K.D w1 b F' (doS s o).1) (hT : Turns W w1 F F') (k : Keeps w W) (hF : ∀ i, F i → i < w.heap.size) (ho : Only w1 w2 (fun i => w.heap.size ≤ i ∧ i < W.heap.size))
    (he : Ending.returned v = .returned (.agg #[.slice none 0 0, .int .i64 ((doS s o).2.n : Int), .int .i64 ((doS s o).2.e : Int)])) : DoneV K w b F s o (.returned v) w2 := by
  refine ⟨.slice none 0 0, F', he, ?_, K.same hD (fun i hi => ho.block i (K.lt hD i hi) (fun h => ?_)) ho.size, hT.wrap k hF (ho.weak (fun i h => h.1)), fun k hk => by simp [Value.ownBlock] at hk⟩
  · rw [hb]
    exact Own.nil _ _ _ _
  · exact (hT.notIn h.2 (fun e => by have := hF i e; omega)) hi
theorem only_xt (w1 : World) (B S : Nat) (ps : List (Addr × Value)) (h : ∀ p ∈ ps, B ≤ p.1.block ∧ p.1.block < S) : Only w1 (ps.foldl (fun w p => w.setCell p.1 p.2) w1) (fun i => B ≤ i ∧ i < S) := by
  induction ps generalizing w1 with
  | nil => exact Only.refl _ _
  | cons p ps ih =>
    refine ((Only.cell1 w1 p.1 p.2).weak (T := fun i => B ≤ i ∧ i < S) (fun i e => by rw [e]; exact h p (by simp))).trans (ih _ (fun q hq => h q (by simp [hq]))) (fun i hi => .inl hi)

theorem size_turn (K : DiskOk) {w : World} {b : Nat} {F : Nat → Prop} {s : Ds} (nm : List UInt8) (hZ : K.Z w) (hD : K.D w b F s) (hs7 : s.l.length ≤ 70000) (hnm : nm.length ≤ maxLen) :
    Calls Tryz.prog 37 #[dpt b, strV nm] w fun e w2 => e = .returned (.tuple #[.int .i64 ((sizeS s nm).1 : Int), .int .i64 ((sizeS s nm).2 : Int)]) ∧ ∃ F1, K.D w2 b F1 s ∧ Turns w w2 F F1 :=
  (K.size nm hZ hD hs7 hnm).mono fun e w2 q => ⟨q.1, F, K.same hD (fun i hi => q.2.block i (K.lt hD i hi)) q.2.size, Turns.of_keeps q.2⟩
theorem keeps_alloc3 (w : World) (x y z : Obj) : Keeps w (((w.alloc x).alloc y).alloc z) := keeps_trans (keeps_trans (keeps_alloc _ _) (keeps_alloc _ _)) (keeps_alloc _ _)
theorem box_second (w : World) (x : Obj) (T : TypeId) (cs : Array Value) (z : Obj) : Box (((w.alloc x).alloc (.cells cs T)).alloc z) (w.heap.size + 1) T cs := by
  have := (Box.new (w.alloc x) T cs).keep (keeps_alloc _ z)
  simpa using this
theorem box_third3 (w : World) (x y : Obj) (T : TypeId) (cs : Array Value) : Box (((w.alloc x).alloc y).alloc (.cells cs T)) (w.heap.size + 1 + 1) T cs := by
  have := Box.new ((w.alloc x).alloc y) T cs
  simpa using this

set_option maxHeartbeats 8000000 in
theorem meant_create (K : DiskOk) {w0 w : World} {b : Nat} {F : Nat → Prop} {s : Ds} (hZ : K.Z w0) (h : Have K w0 w b F s) (hs7 : s.l.length ≤ 70000) (o : OpS) (ho : OpOk w0 o) (hk : o.x.kind = 0) :
    Calls Tryz.prog 9 #[dpt b, .agg (opA o)] w (DoneV K w b F s o.x) := by
  have hF := K.lt h.D
  have kW := keeps_alloc3 w (.cells (opA o) 39) (.cells #[.slice none 0 0, .int .i64 0, .int .i64 0] 34) (.cells #[.slice none 0 0, .int .i64 0, .int .i64 0] 34)
  have hs3 : (((w.alloc (.cells (opA o) 39)).alloc (.cells #[.slice none 0 0, .int .i64 0, .int .i64 0] 34)).alloc (.cells #[.slice none 0 0, .int .i64 0, .int .i64 0] 34)).heap.size = w.heap.size + 3 := by simp
  have B1 := box_second w (.cells (opA o) 39) 34 #[.slice none 0 0, .int .i64 0, .int .i64 0] (.cells #[.slice none 0 0, .int .i64 0, .int .i64 0] 34)
  have B2 := box_third3 w (.cells (opA o) 39) (.cells #[.slice none 0 0, .int .i64 0, .int .i64 0] 34) 34 #[.slice none 0 0, .int .i64 0, .int .i64 0]
  have C := Lib.hid (K.create o.x.name (K.keep (h.z hZ) kW) (h.keep kW).D hs7 ho.nm )
  have HD : doS s o.x = ((createS s o.x.name).1, ⟨[], 0, (createS s o.x.name).2⟩) := by unfold doS; rw [hk]; rfl
  have HF := Lib.hid hF
  have HS3 := Lib.hid hs3
  unfold opA at *
  unfold dpt strV at *
  rw [hk] at *
  clear hF h hs3 ho
  go_enter Tryz.func9, Tryz.ntmps9
  go_wp2_with fail
  refine C.out.mono ?_
  rintro e w1 ⟨rfl, F', hD, hT⟩
  have n1 : ¬ F (w.heap.size + 1) := fun e => by have := HF.out _ e; omega
  have n2 : ¬ F (w.heap.size + 1 + 1) := fun e => by have := HF.out _ e; omega
  have X1 := B1.turned hT n1
  have X2 := B2.turned hT n2
  have c10 := X1.cell 0 rfl
  have c11 := X1.cell 1 rfl
  have c12 := X1.cell 2 rfl
  have f10 := X1.frozen 0
  have f11 := X1.frozen 1
  have f12 := X1.frozen 2
  have c20 := X2.cell 0 rfl
  have c21 := X2.cell 1 rfl
  have c22 := X2.cell 2 rfl
  have f21 := X2.frozen 1
  have f22 := X2.frozen 2
  have HDD := Lib.hid hD
  have HT := Lib.hid hT
  have HDO := Lib.hid HD
  clear hD hT B1 B2 X2 n1 n2 HD
  obtain ⟨E, hE⟩ : ∃ E : Int, (((createS s o.x.name).2 : Nat) : Int) = E := ⟨_, rfl⟩
  rw [hE]
  have HE := Lib.hid hE.symm
  clear hE
  go_wp2_with fail
  have XB : Box (((((w1).setCell ⟨w.heap.size + 1 + 1, 2, none⟩ (.int .i64 E)).setCell ⟨w.heap.size + 1, 0, none⟩ (.slice none 0 0)).setCell ⟨w.heap.size + 1, 1, none⟩ (.int .i64 0)).setCell ⟨w.heap.size + 1, 2, none⟩ (.int .i64 E)) (w.heap.size + 1) 34 #[.slice none 0 0, .int .i64 0, .int .i64 E] := by simpa using ((((X1.far (p := ⟨w.heap.size + 1 + 1, 2, none⟩) (show w.heap.size + 1 ≠ w.heap.size + 1 + 1 by omega) (.int .i64 E)).set 0 (.slice none 0 0)).set 1 (.int .i64 0)).set 2 (.int .i64 E))
  have XO : Only w1 (((((w1).setCell ⟨w.heap.size + 1 + 1, 2, none⟩ (.int .i64 E)).setCell ⟨w.heap.size + 1, 0, none⟩ (.slice none 0 0)).setCell ⟨w.heap.size + 1, 1, none⟩ (.int .i64 0)).setCell ⟨w.heap.size + 1, 2, none⟩ (.int .i64 E)) (fun i => w.heap.size ≤ i ∧ i < w.heap.size + 3) := only_xt w1 (w.heap.size) (w.heap.size + 3) [((⟨w.heap.size + 1 + 1, 2, none⟩ : Addr), (.int .i64 E : Value)), ((⟨w.heap.size + 1, 0, none⟩ : Addr), (.slice none 0 0 : Value)), ((⟨w.heap.size + 1, 1, none⟩ : Addr), (.int .i64 0 : Value)), ((⟨w.heap.size + 1, 2, none⟩ : Addr), (.int .i64 E : Value))] (by simp <;> omega)
  generalize ((((w1).setCell ⟨w.heap.size + 1 + 1, 2, none⟩ (.int .i64 E)).setCell ⟨w.heap.size + 1, 0, none⟩ (.slice none 0 0)).setCell ⟨w.heap.size + 1, 1, none⟩ (.int .i64 0)).setCell ⟨w.heap.size + 1, 2, none⟩ (.int .i64 E) = W4 at *
  have d0 := XB.cell 0 rfl
  have d1 := XB.cell 1 rfl
  have d2 := XB.cell 2 rfl
  refine bodyPost_ret (v := .agg #[.slice none 0 0, .int .i64 0, .int .i64 E]) (by simp [results, Tryz.results9, go_sem, d0, d1, d2]) rfl ?_
  exact done_close (by rw [HDO.out]) (by rw [HDO.out]; exact HDD.out) HT.out kW HF.out (by rw [HS3.out]; exact XO) (by rw [HDO.out]; show Ending.returned _ = Ending.returned (.agg #[.slice none 0 0, .int .i64 0, .int .i64 (((createS s o.x.name).2 : Nat) : Int)]); rw [← HE.out])

set_option maxHeartbeats 8000000 in
theorem meant_remove (K : DiskOk) {w0 w : World} {b : Nat} {F : Nat → Prop} {s : Ds} (hZ : K.Z w0) (h : Have K w0 w b F s) (hs7 : s.l.length ≤ 70000) (o : OpS) (ho : OpOk w0 o) (hk : o.x.kind = 1) :
    Calls Tryz.prog 9 #[dpt b, .agg (opA o)] w (DoneV K w b F s o.x) := by
  have hF := K.lt h.D
  have kW := keeps_alloc3 w (.cells (opA o) 39) (.cells #[.slice none 0 0, .int .i64 0, .int .i64 0] 34) (.cells #[.slice none 0 0, .int .i64 0, .int .i64 0] 34)
  have hs3 : (((w.alloc (.cells (opA o) 39)).alloc (.cells #[.slice none 0 0, .int .i64 0, .int .i64 0] 34)).alloc (.cells #[.slice none 0 0, .int .i64 0, .int .i64 0] 34)).heap.size = w.heap.size + 3 := by simp
  have B1 := box_second w (.cells (opA o) 39) 34 #[.slice none 0 0, .int .i64 0, .int .i64 0] (.cells #[.slice none 0 0, .int .i64 0, .int .i64 0] 34)
  have B2 := box_third3 w (.cells (opA o) 39) (.cells #[.slice none 0 0, .int .i64 0, .int .i64 0] 34) 34 #[.slice none 0 0, .int .i64 0, .int .i64 0]
  have C := Lib.hid (K.remove o.x.name (K.keep (h.z hZ) kW) (h.keep kW).D hs7 ho.nm )
  have HD : doS s o.x = ((removeS s o.x.name).1, ⟨[], 0, (removeS s o.x.name).2⟩) := by unfold doS; rw [hk]; rfl
  have HF := Lib.hid hF
  have HS3 := Lib.hid hs3
  unfold opA at *
  unfold dpt strV at *
  rw [hk] at *
  clear hF h hs3 ho
  go_enter Tryz.func9, Tryz.ntmps9
  go_wp2_with fail
  refine C.out.mono ?_
  rintro e w1 ⟨rfl, F', hD, hT⟩
  have n1 : ¬ F (w.heap.size + 1) := fun e => by have := HF.out _ e; omega
  have n2 : ¬ F (w.heap.size + 1 + 1) := fun e => by have := HF.out _ e; omega
  have X1 := B1.turned hT n1
  have X2 := B2.turned hT n2
  have c10 := X1.cell 0 rfl
  have c11 := X1.cell 1 rfl
  have c12 := X1.cell 2 rfl
  have f10 := X1.frozen 0
  have f11 := X1.frozen 1
  have f12 := X1.frozen 2
  have c20 := X2.cell 0 rfl
  have c21 := X2.cell 1 rfl
  have c22 := X2.cell 2 rfl
  have f21 := X2.frozen 1
  have f22 := X2.frozen 2
  have HDD := Lib.hid hD
  have HT := Lib.hid hT
  have HDO := Lib.hid HD
  clear hD hT B1 B2 X2 n1 n2 HD
  obtain ⟨E, hE⟩ : ∃ E : Int, (((removeS s o.x.name).2 : Nat) : Int) = E := ⟨_, rfl⟩
  rw [hE]
  have HE := Lib.hid hE.symm
  clear hE
  go_wp2_with fail
  have XB : Box (((((w1).setCell ⟨w.heap.size + 1 + 1, 2, none⟩ (.int .i64 E)).setCell ⟨w.heap.size + 1, 0, none⟩ (.slice none 0 0)).setCell ⟨w.heap.size + 1, 1, none⟩ (.int .i64 0)).setCell ⟨w.heap.size + 1, 2, none⟩ (.int .i64 E)) (w.heap.size + 1) 34 #[.slice none 0 0, .int .i64 0, .int .i64 E] := by simpa using ((((X1.far (p := ⟨w.heap.size + 1 + 1, 2, none⟩) (show w.heap.size + 1 ≠ w.heap.size + 1 + 1 by omega) (.int .i64 E)).set 0 (.slice none 0 0)).set 1 (.int .i64 0)).set 2 (.int .i64 E))
  have XO : Only w1 (((((w1).setCell ⟨w.heap.size + 1 + 1, 2, none⟩ (.int .i64 E)).setCell ⟨w.heap.size + 1, 0, none⟩ (.slice none 0 0)).setCell ⟨w.heap.size + 1, 1, none⟩ (.int .i64 0)).setCell ⟨w.heap.size + 1, 2, none⟩ (.int .i64 E)) (fun i => w.heap.size ≤ i ∧ i < w.heap.size + 3) := only_xt w1 (w.heap.size) (w.heap.size + 3) [((⟨w.heap.size + 1 + 1, 2, none⟩ : Addr), (.int .i64 E : Value)), ((⟨w.heap.size + 1, 0, none⟩ : Addr), (.slice none 0 0 : Value)), ((⟨w.heap.size + 1, 1, none⟩ : Addr), (.int .i64 0 : Value)), ((⟨w.heap.size + 1, 2, none⟩ : Addr), (.int .i64 E : Value))] (by simp <;> omega)
  generalize ((((w1).setCell ⟨w.heap.size + 1 + 1, 2, none⟩ (.int .i64 E)).setCell ⟨w.heap.size + 1, 0, none⟩ (.slice none 0 0)).setCell ⟨w.heap.size + 1, 1, none⟩ (.int .i64 0)).setCell ⟨w.heap.size + 1, 2, none⟩ (.int .i64 E) = W4 at *
  have d0 := XB.cell 0 rfl
  have d1 := XB.cell 1 rfl
  have d2 := XB.cell 2 rfl
  refine bodyPost_ret (v := .agg #[.slice none 0 0, .int .i64 0, .int .i64 E]) (by simp [results, Tryz.results9, go_sem, d0, d1, d2]) rfl ?_
  exact done_close (by rw [HDO.out]) (by rw [HDO.out]; exact HDD.out) HT.out kW HF.out (by rw [HS3.out]; exact XO) (by rw [HDO.out]; show Ending.returned _ = Ending.returned (.agg #[.slice none 0 0, .int .i64 0, .int .i64 (((removeS s o.x.name).2 : Nat) : Int)]); rw [← HE.out])

set_option maxHeartbeats 8000000 in
theorem meant_rename (K : DiskOk) {w0 w : World} {b : Nat} {F : Nat → Prop} {s : Ds} (hZ : K.Z w0) (h : Have K w0 w b F s) (hs7 : s.l.length ≤ 70000) (o : OpS) (ho : OpOk w0 o) (hk : o.x.kind = 2) :
    Calls Tryz.prog 9 #[dpt b, .agg (opA o)] w (DoneV K w b F s o.x) := by
  have hF := K.lt h.D
  have kW := keeps_alloc3 w (.cells (opA o) 39) (.cells #[.slice none 0 0, .int .i64 0, .int .i64 0] 34) (.cells #[.slice none 0 0, .int .i64 0, .int .i64 0] 34)
  have hs3 : (((w.alloc (.cells (opA o) 39)).alloc (.cells #[.slice none 0 0, .int .i64 0, .int .i64 0] 34)).alloc (.cells #[.slice none 0 0, .int .i64 0, .int .i64 0] 34)).heap.size = w.heap.size + 3 := by simp
  have B1 := box_second w (.cells (opA o) 39) 34 #[.slice none 0 0, .int .i64 0, .int .i64 0] (.cells #[.slice none 0 0, .int .i64 0, .int .i64 0] 34)
  have B2 := box_third3 w (.cells (opA o) 39) (.cells #[.slice none 0 0, .int .i64 0, .int .i64 0] 34) 34 #[.slice none 0 0, .int .i64 0, .int .i64 0]
  have C := Lib.hid (K.rename o.x.name o.x.to (K.keep (h.z hZ) kW) (h.keep kW).D hs7 ho.nm ho.to )
  have HD : doS s o.x = ((renameS s o.x.name o.x.to).1, ⟨[], 0, (renameS s o.x.name o.x.to).2⟩) := by unfold doS; rw [hk]; rfl
  have HF := Lib.hid hF
  have HS3 := Lib.hid hs3
  unfold opA at *
  unfold dpt strV at *
  rw [hk] at *
  clear hF h hs3 ho
  go_enter Tryz.func9, Tryz.ntmps9
  go_wp2_with fail
  refine C.out.mono ?_
  rintro e w1 ⟨rfl, F', hD, hT⟩
  have n1 : ¬ F (w.heap.size + 1) := fun e => by have := HF.out _ e; omega
  have n2 : ¬ F (w.heap.size + 1 + 1) := fun e => by have := HF.out _ e; omega
  have X1 := B1.turned hT n1
  have X2 := B2.turned hT n2
  have c10 := X1.cell 0 rfl
  have c11 := X1.cell 1 rfl
  have c12 := X1.cell 2 rfl
  have f10 := X1.frozen 0
  have f11 := X1.frozen 1
  have f12 := X1.frozen 2
  have c20 := X2.cell 0 rfl
  have c21 := X2.cell 1 rfl
  have c22 := X2.cell 2 rfl
  have f21 := X2.frozen 1
  have f22 := X2.frozen 2
  have HDD := Lib.hid hD
  have HT := Lib.hid hT
  have HDO := Lib.hid HD
  clear hD hT B1 B2 X2 n1 n2 HD
  obtain ⟨E, hE⟩ : ∃ E : Int, (((renameS s o.x.name o.x.to).2 : Nat) : Int) = E := ⟨_, rfl⟩
  rw [hE]
  have HE := Lib.hid hE.symm
  clear hE
  go_wp2_with fail
  have XB : Box (((((w1).setCell ⟨w.heap.size + 1 + 1, 2, none⟩ (.int .i64 E)).setCell ⟨w.heap.size + 1, 0, none⟩ (.slice none 0 0)).setCell ⟨w.heap.size + 1, 1, none⟩ (.int .i64 0)).setCell ⟨w.heap.size + 1, 2, none⟩ (.int .i64 E)) (w.heap.size + 1) 34 #[.slice none 0 0, .int .i64 0, .int .i64 E] := by simpa using ((((X1.far (p := ⟨w.heap.size + 1 + 1, 2, none⟩) (show w.heap.size + 1 ≠ w.heap.size + 1 + 1 by omega) (.int .i64 E)).set 0 (.slice none 0 0)).set 1 (.int .i64 0)).set 2 (.int .i64 E))
  have XO : Only w1 (((((w1).setCell ⟨w.heap.size + 1 + 1, 2, none⟩ (.int .i64 E)).setCell ⟨w.heap.size + 1, 0, none⟩ (.slice none 0 0)).setCell ⟨w.heap.size + 1, 1, none⟩ (.int .i64 0)).setCell ⟨w.heap.size + 1, 2, none⟩ (.int .i64 E)) (fun i => w.heap.size ≤ i ∧ i < w.heap.size + 3) := only_xt w1 (w.heap.size) (w.heap.size + 3) [((⟨w.heap.size + 1 + 1, 2, none⟩ : Addr), (.int .i64 E : Value)), ((⟨w.heap.size + 1, 0, none⟩ : Addr), (.slice none 0 0 : Value)), ((⟨w.heap.size + 1, 1, none⟩ : Addr), (.int .i64 0 : Value)), ((⟨w.heap.size + 1, 2, none⟩ : Addr), (.int .i64 E : Value))] (by simp <;> omega)
  generalize ((((w1).setCell ⟨w.heap.size + 1 + 1, 2, none⟩ (.int .i64 E)).setCell ⟨w.heap.size + 1, 0, none⟩ (.slice none 0 0)).setCell ⟨w.heap.size + 1, 1, none⟩ (.int .i64 0)).setCell ⟨w.heap.size + 1, 2, none⟩ (.int .i64 E) = W4 at *
  have d0 := XB.cell 0 rfl
  have d1 := XB.cell 1 rfl
  have d2 := XB.cell 2 rfl
  refine bodyPost_ret (v := .agg #[.slice none 0 0, .int .i64 0, .int .i64 E]) (by simp [results, Tryz.results9, go_sem, d0, d1, d2]) rfl ?_
  exact done_close (by rw [HDO.out]) (by rw [HDO.out]; exact HDD.out) HT.out kW HF.out (by rw [HS3.out]; exact XO) (by rw [HDO.out]; show Ending.returned _ = Ending.returned (.agg #[.slice none 0 0, .int .i64 0, .int .i64 (((renameS s o.x.name o.x.to).2 : Nat) : Int)]); rw [← HE.out])

set_option maxHeartbeats 8000000 in
theorem meant_cut (K : DiskOk) {w0 w : World} {b : Nat} {F : Nat → Prop} {s : Ds} (hZ : K.Z w0) (h : Have K w0 w b F s) (hs7 : s.l.length ≤ 70000) (o : OpS) (ho : OpOk w0 o) (hk : o.x.kind = 4) :
    Calls Tryz.prog 9 #[dpt b, .agg (opA o)] w (DoneV K w b F s o.x) := by
  have hF := K.lt h.D
  have kW := keeps_alloc3 w (.cells (opA o) 39) (.cells #[.slice none 0 0, .int .i64 0, .int .i64 0] 34) (.cells #[.slice none 0 0, .int .i64 0, .int .i64 0] 34)
  have hs3 : (((w.alloc (.cells (opA o) 39)).alloc (.cells #[.slice none 0 0, .int .i64 0, .int .i64 0] 34)).alloc (.cells #[.slice none 0 0, .int .i64 0, .int .i64 0] 34)).heap.size = w.heap.size + 3 := by simp
  have B1 := box_second w (.cells (opA o) 39) 34 #[.slice none 0 0, .int .i64 0, .int .i64 0] (.cells #[.slice none 0 0, .int .i64 0, .int .i64 0] 34)
  have B2 := box_third3 w (.cells (opA o) 39) (.cells #[.slice none 0 0, .int .i64 0, .int .i64 0] 34) 34 #[.slice none 0 0, .int .i64 0, .int .i64 0]
  have C := Lib.hid (K.cut o.x.name o.x.off (K.keep (h.z hZ) kW) (h.keep kW).D hs7 ho.nm ho.off.1 ho.off.2)
  have HD : doS s o.x = ((cutS s o.x.name o.x.off).1, ⟨[], 0, (cutS s o.x.name o.x.off).2⟩) := by unfold doS; rw [hk]; rfl
  have HF := Lib.hid hF
  have HS3 := Lib.hid hs3
  unfold opA at *
  unfold dpt strV at *
  rw [hk] at *
  clear hF h hs3 ho
  go_enter Tryz.func9, Tryz.ntmps9
  go_wp2_with fail
  refine C.out.mono ?_
  rintro e w1 ⟨rfl, F', hD, hT⟩
  have n1 : ¬ F (w.heap.size + 1) := fun e => by have := HF.out _ e; omega
  have n2 : ¬ F (w.heap.size + 1 + 1) := fun e => by have := HF.out _ e; omega
  have X1 := B1.turned hT n1
  have X2 := B2.turned hT n2
  have c10 := X1.cell 0 rfl
  have c11 := X1.cell 1 rfl
  have c12 := X1.cell 2 rfl
  have f10 := X1.frozen 0
  have f11 := X1.frozen 1
  have f12 := X1.frozen 2
  have c20 := X2.cell 0 rfl
  have c21 := X2.cell 1 rfl
  have c22 := X2.cell 2 rfl
  have f21 := X2.frozen 1
  have f22 := X2.frozen 2
  have HDD := Lib.hid hD
  have HT := Lib.hid hT
  have HDO := Lib.hid HD
  clear hD hT B1 B2 X2 n1 n2 HD
  obtain ⟨E, hE⟩ : ∃ E : Int, (((cutS s o.x.name o.x.off).2 : Nat) : Int) = E := ⟨_, rfl⟩
  rw [hE]
  have HE := Lib.hid hE.symm
  clear hE
  go_wp2_with fail
  have XB : Box (((((w1).setCell ⟨w.heap.size + 1 + 1, 2, none⟩ (.int .i64 E)).setCell ⟨w.heap.size + 1, 0, none⟩ (.slice none 0 0)).setCell ⟨w.heap.size + 1, 1, none⟩ (.int .i64 0)).setCell ⟨w.heap.size + 1, 2, none⟩ (.int .i64 E)) (w.heap.size + 1) 34 #[.slice none 0 0, .int .i64 0, .int .i64 E] := by simpa using ((((X1.far (p := ⟨w.heap.size + 1 + 1, 2, none⟩) (show w.heap.size + 1 ≠ w.heap.size + 1 + 1 by omega) (.int .i64 E)).set 0 (.slice none 0 0)).set 1 (.int .i64 0)).set 2 (.int .i64 E))
  have XO : Only w1 (((((w1).setCell ⟨w.heap.size + 1 + 1, 2, none⟩ (.int .i64 E)).setCell ⟨w.heap.size + 1, 0, none⟩ (.slice none 0 0)).setCell ⟨w.heap.size + 1, 1, none⟩ (.int .i64 0)).setCell ⟨w.heap.size + 1, 2, none⟩ (.int .i64 E)) (fun i => w.heap.size ≤ i ∧ i < w.heap.size + 3) := only_xt w1 (w.heap.size) (w.heap.size + 3) [((⟨w.heap.size + 1 + 1, 2, none⟩ : Addr), (.int .i64 E : Value)), ((⟨w.heap.size + 1, 0, none⟩ : Addr), (.slice none 0 0 : Value)), ((⟨w.heap.size + 1, 1, none⟩ : Addr), (.int .i64 0 : Value)), ((⟨w.heap.size + 1, 2, none⟩ : Addr), (.int .i64 E : Value))] (by simp <;> omega)
  generalize ((((w1).setCell ⟨w.heap.size + 1 + 1, 2, none⟩ (.int .i64 E)).setCell ⟨w.heap.size + 1, 0, none⟩ (.slice none 0 0)).setCell ⟨w.heap.size + 1, 1, none⟩ (.int .i64 0)).setCell ⟨w.heap.size + 1, 2, none⟩ (.int .i64 E) = W4 at *
  have d0 := XB.cell 0 rfl
  have d1 := XB.cell 1 rfl
  have d2 := XB.cell 2 rfl
  refine bodyPost_ret (v := .agg #[.slice none 0 0, .int .i64 0, .int .i64 E]) (by simp [results, Tryz.results9, go_sem, d0, d1, d2]) rfl ?_
  exact done_close (by rw [HDO.out]) (by rw [HDO.out]; exact HDD.out) HT.out kW HF.out (by rw [HS3.out]; exact XO) (by rw [HDO.out]; show Ending.returned _ = Ending.returned (.agg #[.slice none 0 0, .int .i64 0, .int .i64 (((cutS s o.x.name o.x.off).2 : Nat) : Int)]); rw [← HE.out])

set_option maxHeartbeats 8000000 in
theorem meant_sync (K : DiskOk) {w0 w : World} {b : Nat} {F : Nat → Prop} {s : Ds} (hZ : K.Z w0) (h : Have K w0 w b F s) (hs7 : s.l.length ≤ 70000) (o : OpS) (ho : OpOk w0 o) (hk : o.x.kind = 5) :
    Calls Tryz.prog 9 #[dpt b, .agg (opA o)] w (DoneV K w b F s o.x) := by
  have hF := K.lt h.D
  have kW := keeps_alloc3 w (.cells (opA o) 39) (.cells #[.slice none 0 0, .int .i64 0, .int .i64 0] 34) (.cells #[.slice none 0 0, .int .i64 0, .int .i64 0] 34)
  have hs3 : (((w.alloc (.cells (opA o) 39)).alloc (.cells #[.slice none 0 0, .int .i64 0, .int .i64 0] 34)).alloc (.cells #[.slice none 0 0, .int .i64 0, .int .i64 0] 34)).heap.size = w.heap.size + 3 := by simp
  have B1 := box_second w (.cells (opA o) 39) 34 #[.slice none 0 0, .int .i64 0, .int .i64 0] (.cells #[.slice none 0 0, .int .i64 0, .int .i64 0] 34)
  have B2 := box_third3 w (.cells (opA o) 39) (.cells #[.slice none 0 0, .int .i64 0, .int .i64 0] 34) 34 #[.slice none 0 0, .int .i64 0, .int .i64 0]
  have C := Lib.hid (K.sync o.x.name (K.keep (h.z hZ) kW) (h.keep kW).D hs7 ho.nm )
  have HD : doS s o.x = ((syncS s o.x.name).1, ⟨[], 0, (syncS s o.x.name).2⟩) := by unfold doS; rw [hk]; rfl
  have HF := Lib.hid hF
  have HS3 := Lib.hid hs3
  unfold opA at *
  unfold dpt strV at *
  rw [hk] at *
  clear hF h hs3 ho
  go_enter Tryz.func9, Tryz.ntmps9
  go_wp2_with fail
  refine C.out.mono ?_
  rintro e w1 ⟨rfl, F', hD, hT⟩
  have n1 : ¬ F (w.heap.size + 1) := fun e => by have := HF.out _ e; omega
  have n2 : ¬ F (w.heap.size + 1 + 1) := fun e => by have := HF.out _ e; omega
  have X1 := B1.turned hT n1
  have X2 := B2.turned hT n2
  have c10 := X1.cell 0 rfl
  have c11 := X1.cell 1 rfl
  have c12 := X1.cell 2 rfl
  have f10 := X1.frozen 0
  have f11 := X1.frozen 1
  have f12 := X1.frozen 2
  have c20 := X2.cell 0 rfl
  have c21 := X2.cell 1 rfl
  have c22 := X2.cell 2 rfl
  have f21 := X2.frozen 1
  have f22 := X2.frozen 2
  have HDD := Lib.hid hD
  have HT := Lib.hid hT
  have HDO := Lib.hid HD
  clear hD hT B1 B2 X2 n1 n2 HD
  obtain ⟨E, hE⟩ : ∃ E : Int, (((syncS s o.x.name).2 : Nat) : Int) = E := ⟨_, rfl⟩
  rw [hE]
  have HE := Lib.hid hE.symm
  clear hE
  go_wp2_with fail
  have XB : Box (((((w1).setCell ⟨w.heap.size + 1 + 1, 2, none⟩ (.int .i64 E)).setCell ⟨w.heap.size + 1, 0, none⟩ (.slice none 0 0)).setCell ⟨w.heap.size + 1, 1, none⟩ (.int .i64 0)).setCell ⟨w.heap.size + 1, 2, none⟩ (.int .i64 E)) (w.heap.size + 1) 34 #[.slice none 0 0, .int .i64 0, .int .i64 E] := by simpa using ((((X1.far (p := ⟨w.heap.size + 1 + 1, 2, none⟩) (show w.heap.size + 1 ≠ w.heap.size + 1 + 1 by omega) (.int .i64 E)).set 0 (.slice none 0 0)).set 1 (.int .i64 0)).set 2 (.int .i64 E))
  have XO : Only w1 (((((w1).setCell ⟨w.heap.size + 1 + 1, 2, none⟩ (.int .i64 E)).setCell ⟨w.heap.size + 1, 0, none⟩ (.slice none 0 0)).setCell ⟨w.heap.size + 1, 1, none⟩ (.int .i64 0)).setCell ⟨w.heap.size + 1, 2, none⟩ (.int .i64 E)) (fun i => w.heap.size ≤ i ∧ i < w.heap.size + 3) := only_xt w1 (w.heap.size) (w.heap.size + 3) [((⟨w.heap.size + 1 + 1, 2, none⟩ : Addr), (.int .i64 E : Value)), ((⟨w.heap.size + 1, 0, none⟩ : Addr), (.slice none 0 0 : Value)), ((⟨w.heap.size + 1, 1, none⟩ : Addr), (.int .i64 0 : Value)), ((⟨w.heap.size + 1, 2, none⟩ : Addr), (.int .i64 E : Value))] (by simp <;> omega)
  generalize ((((w1).setCell ⟨w.heap.size + 1 + 1, 2, none⟩ (.int .i64 E)).setCell ⟨w.heap.size + 1, 0, none⟩ (.slice none 0 0)).setCell ⟨w.heap.size + 1, 1, none⟩ (.int .i64 0)).setCell ⟨w.heap.size + 1, 2, none⟩ (.int .i64 E) = W4 at *
  have d0 := XB.cell 0 rfl
  have d1 := XB.cell 1 rfl
  have d2 := XB.cell 2 rfl
  refine bodyPost_ret (v := .agg #[.slice none 0 0, .int .i64 0, .int .i64 E]) (by simp [results, Tryz.results9, go_sem, d0, d1, d2]) rfl ?_
  exact done_close (by rw [HDO.out]) (by rw [HDO.out]; exact HDD.out) HT.out kW HF.out (by rw [HS3.out]; exact XO) (by rw [HDO.out]; show Ending.returned _ = Ending.returned (.agg #[.slice none 0 0, .int .i64 0, .int .i64 (((syncS s o.x.name).2 : Nat) : Int)]); rw [← HE.out])

set_option maxHeartbeats 8000000 in
theorem meant_quota (K : DiskOk) {w0 w : World} {b : Nat} {F : Nat → Prop} {s : Ds} (hZ : K.Z w0) (h : Have K w0 w b F s) (hs7 : s.l.length ≤ 70000) (o : OpS) (ho : OpOk w0 o) (hk : o.x.kind = 8) :
    Calls Tryz.prog 9 #[dpt b, .agg (opA o)] w (DoneV K w b F s o.x) := by
  have hF := K.lt h.D
  have kW := keeps_alloc3 w (.cells (opA o) 39) (.cells #[.slice none 0 0, .int .i64 0, .int .i64 0] 34) (.cells #[.slice none 0 0, .int .i64 0, .int .i64 0] 34)
  have hs3 : (((w.alloc (.cells (opA o) 39)).alloc (.cells #[.slice none 0 0, .int .i64 0, .int .i64 0] 34)).alloc (.cells #[.slice none 0 0, .int .i64 0, .int .i64 0] 34)).heap.size = w.heap.size + 3 := by simp
  have B1 := box_second w (.cells (opA o) 39) 34 #[.slice none 0 0, .int .i64 0, .int .i64 0] (.cells #[.slice none 0 0, .int .i64 0, .int .i64 0] 34)
  have B2 := box_third3 w (.cells (opA o) 39) (.cells #[.slice none 0 0, .int .i64 0, .int .i64 0] 34) 34 #[.slice none 0 0, .int .i64 0, .int .i64 0]
  have C := Lib.hid (K.quota o.x.n (K.keep (h.z hZ) kW) (h.keep kW).D hs7  ho.n.1 ho.n.2)
  have HD : doS s o.x = ((quotaS s o.x.n).1, ⟨[], 0, (quotaS s o.x.n).2⟩) := by unfold doS; rw [hk]; rfl
  have HF := Lib.hid hF
  have HS3 := Lib.hid hs3
  unfold opA at *
  unfold dpt strV at *
  rw [hk] at *
  clear hF h hs3 ho
  go_enter Tryz.func9, Tryz.ntmps9
  go_wp2_with fail
  refine C.out.mono ?_
  rintro e w1 ⟨rfl, F', hD, hT⟩
  have n1 : ¬ F (w.heap.size + 1) := fun e => by have := HF.out _ e; omega
  have n2 : ¬ F (w.heap.size + 1 + 1) := fun e => by have := HF.out _ e; omega
  have X1 := B1.turned hT n1
  have X2 := B2.turned hT n2
  have c10 := X1.cell 0 rfl
  have c11 := X1.cell 1 rfl
  have c12 := X1.cell 2 rfl
  have f10 := X1.frozen 0
  have f11 := X1.frozen 1
  have f12 := X1.frozen 2
  have c20 := X2.cell 0 rfl
  have c21 := X2.cell 1 rfl
  have c22 := X2.cell 2 rfl
  have f21 := X2.frozen 1
  have f22 := X2.frozen 2
  have HDD := Lib.hid hD
  have HT := Lib.hid hT
  have HDO := Lib.hid HD
  clear hD hT B1 B2 X2 n1 n2 HD
  obtain ⟨E, hE⟩ : ∃ E : Int, (((quotaS s o.x.n).2 : Nat) : Int) = E := ⟨_, rfl⟩
  rw [hE]
  have HE := Lib.hid hE.symm
  clear hE
  go_wp2_with fail
  have XB : Box (((((w1).setCell ⟨w.heap.size + 1 + 1, 2, none⟩ (.int .i64 E)).setCell ⟨w.heap.size + 1, 0, none⟩ (.slice none 0 0)).setCell ⟨w.heap.size + 1, 1, none⟩ (.int .i64 0)).setCell ⟨w.heap.size + 1, 2, none⟩ (.int .i64 E)) (w.heap.size + 1) 34 #[.slice none 0 0, .int .i64 0, .int .i64 E] := by simpa using ((((X1.far (p := ⟨w.heap.size + 1 + 1, 2, none⟩) (show w.heap.size + 1 ≠ w.heap.size + 1 + 1 by omega) (.int .i64 E)).set 0 (.slice none 0 0)).set 1 (.int .i64 0)).set 2 (.int .i64 E))
  have XO : Only w1 (((((w1).setCell ⟨w.heap.size + 1 + 1, 2, none⟩ (.int .i64 E)).setCell ⟨w.heap.size + 1, 0, none⟩ (.slice none 0 0)).setCell ⟨w.heap.size + 1, 1, none⟩ (.int .i64 0)).setCell ⟨w.heap.size + 1, 2, none⟩ (.int .i64 E)) (fun i => w.heap.size ≤ i ∧ i < w.heap.size + 3) := only_xt w1 (w.heap.size) (w.heap.size + 3) [((⟨w.heap.size + 1 + 1, 2, none⟩ : Addr), (.int .i64 E : Value)), ((⟨w.heap.size + 1, 0, none⟩ : Addr), (.slice none 0 0 : Value)), ((⟨w.heap.size + 1, 1, none⟩ : Addr), (.int .i64 0 : Value)), ((⟨w.heap.size + 1, 2, none⟩ : Addr), (.int .i64 E : Value))] (by simp <;> omega)
  generalize ((((w1).setCell ⟨w.heap.size + 1 + 1, 2, none⟩ (.int .i64 E)).setCell ⟨w.heap.size + 1, 0, none⟩ (.slice none 0 0)).setCell ⟨w.heap.size + 1, 1, none⟩ (.int .i64 0)).setCell ⟨w.heap.size + 1, 2, none⟩ (.int .i64 E) = W4 at *
  have d0 := XB.cell 0 rfl
  have d1 := XB.cell 1 rfl
  have d2 := XB.cell 2 rfl
  refine bodyPost_ret (v := .agg #[.slice none 0 0, .int .i64 0, .int .i64 E]) (by simp [results, Tryz.results9, go_sem, d0, d1, d2]) rfl ?_
  exact done_close (by rw [HDO.out]) (by rw [HDO.out]; exact HDD.out) HT.out kW HF.out (by rw [HS3.out]; exact XO) (by rw [HDO.out]; show Ending.returned _ = Ending.returned (.agg #[.slice none 0 0, .int .i64 0, .int .i64 (((quotaS s o.x.n).2 : Nat) : Int)]); rw [← HE.out])

set_option maxHeartbeats 8000000 in
theorem meant_arm (K : DiskOk) {w0 w : World} {b : Nat} {F : Nat → Prop} {s : Ds} (hZ : K.Z w0) (h : Have K w0 w b F s) (hs7 : s.l.length ≤ 70000) (o : OpS) (ho : OpOk w0 o) (hk : o.x.kind = 9) :
    Calls Tryz.prog 9 #[dpt b, .agg (opA o)] w (DoneV K w b F s o.x) := by
  have hF := K.lt h.D
  have kW := keeps_alloc3 w (.cells (opA o) 39) (.cells #[.slice none 0 0, .int .i64 0, .int .i64 0] 34) (.cells #[.slice none 0 0, .int .i64 0, .int .i64 0] 34)
  have hs3 : (((w.alloc (.cells (opA o) 39)).alloc (.cells #[.slice none 0 0, .int .i64 0, .int .i64 0] 34)).alloc (.cells #[.slice none 0 0, .int .i64 0, .int .i64 0] 34)).heap.size = w.heap.size + 3 := by simp
  have B1 := box_second w (.cells (opA o) 39) 34 #[.slice none 0 0, .int .i64 0, .int .i64 0] (.cells #[.slice none 0 0, .int .i64 0, .int .i64 0] 34)
  have B2 := box_third3 w (.cells (opA o) 39) (.cells #[.slice none 0 0, .int .i64 0, .int .i64 0] 34) 34 #[.slice none 0 0, .int .i64 0, .int .i64 0]
  have C := Lib.hid (K.arm o.x.n (K.keep (h.z hZ) kW) (h.keep kW).D hs7  ho.n.1 ho.n.2)
  have HD : doS s o.x = ((armS s o.x.n).1, ⟨[], 0, (armS s o.x.n).2⟩) := by unfold doS; rw [hk]; rfl
  have HF := Lib.hid hF
  have HS3 := Lib.hid hs3
  unfold opA at *
  unfold dpt strV at *
  rw [hk] at *
  clear hF h hs3 ho
  go_enter Tryz.func9, Tryz.ntmps9
  go_wp2_with fail
  refine C.out.mono ?_
  rintro e w1 ⟨rfl, F', hD, hT⟩
  have n1 : ¬ F (w.heap.size + 1) := fun e => by have := HF.out _ e; omega
  have n2 : ¬ F (w.heap.size + 1 + 1) := fun e => by have := HF.out _ e; omega
  have X1 := B1.turned hT n1
  have X2 := B2.turned hT n2
  have c10 := X1.cell 0 rfl
  have c11 := X1.cell 1 rfl
  have c12 := X1.cell 2 rfl
  have f10 := X1.frozen 0
  have f11 := X1.frozen 1
  have f12 := X1.frozen 2
  have c20 := X2.cell 0 rfl
  have c21 := X2.cell 1 rfl
  have c22 := X2.cell 2 rfl
  have f21 := X2.frozen 1
  have f22 := X2.frozen 2
  have HDD := Lib.hid hD
  have HT := Lib.hid hT
  have HDO := Lib.hid HD
  clear hD hT B1 B2 X2 n1 n2 HD
  obtain ⟨E, hE⟩ : ∃ E : Int, (((armS s o.x.n).2 : Nat) : Int) = E := ⟨_, rfl⟩
  rw [hE]
  have HE := Lib.hid hE.symm
  clear hE
  go_wp2_with fail
  have XB : Box (((((w1).setCell ⟨w.heap.size + 1 + 1, 2, none⟩ (.int .i64 E)).setCell ⟨w.heap.size + 1, 0, none⟩ (.slice none 0 0)).setCell ⟨w.heap.size + 1, 1, none⟩ (.int .i64 0)).setCell ⟨w.heap.size + 1, 2, none⟩ (.int .i64 E)) (w.heap.size + 1) 34 #[.slice none 0 0, .int .i64 0, .int .i64 E] := by simpa using ((((X1.far (p := ⟨w.heap.size + 1 + 1, 2, none⟩) (show w.heap.size + 1 ≠ w.heap.size + 1 + 1 by omega) (.int .i64 E)).set 0 (.slice none 0 0)).set 1 (.int .i64 0)).set 2 (.int .i64 E))
  have XO : Only w1 (((((w1).setCell ⟨w.heap.size + 1 + 1, 2, none⟩ (.int .i64 E)).setCell ⟨w.heap.size + 1, 0, none⟩ (.slice none 0 0)).setCell ⟨w.heap.size + 1, 1, none⟩ (.int .i64 0)).setCell ⟨w.heap.size + 1, 2, none⟩ (.int .i64 E)) (fun i => w.heap.size ≤ i ∧ i < w.heap.size + 3) := only_xt w1 (w.heap.size) (w.heap.size + 3) [((⟨w.heap.size + 1 + 1, 2, none⟩ : Addr), (.int .i64 E : Value)), ((⟨w.heap.size + 1, 0, none⟩ : Addr), (.slice none 0 0 : Value)), ((⟨w.heap.size + 1, 1, none⟩ : Addr), (.int .i64 0 : Value)), ((⟨w.heap.size + 1, 2, none⟩ : Addr), (.int .i64 E : Value))] (by simp <;> omega)
  generalize ((((w1).setCell ⟨w.heap.size + 1 + 1, 2, none⟩ (.int .i64 E)).setCell ⟨w.heap.size + 1, 0, none⟩ (.slice none 0 0)).setCell ⟨w.heap.size + 1, 1, none⟩ (.int .i64 0)).setCell ⟨w.heap.size + 1, 2, none⟩ (.int .i64 E) = W4 at *
  have d0 := XB.cell 0 rfl
  have d1 := XB.cell 1 rfl
  have d2 := XB.cell 2 rfl
  refine bodyPost_ret (v := .agg #[.slice none 0 0, .int .i64 0, .int .i64 E]) (by simp [results, Tryz.results9, go_sem, d0, d1, d2]) rfl ?_
  exact done_close (by rw [HDO.out]) (by rw [HDO.out]; exact HDD.out) HT.out kW HF.out (by rw [HS3.out]; exact XO) (by rw [HDO.out]; show Ending.returned _ = Ending.returned (.agg #[.slice none 0 0, .int .i64 0, .int .i64 (((armS s o.x.n).2 : Nat) : Int)]); rw [← HE.out])

set_option maxHeartbeats 8000000 in
theorem meant_flip (K : DiskOk) {w0 w : World} {b : Nat} {F : Nat → Prop} {s : Ds} (hZ : K.Z w0) (h : Have K w0 w b F s) (hs7 : s.l.length ≤ 70000) (o : OpS) (ho : OpOk w0 o) (hk : o.x.kind = 11) :
    Calls Tryz.prog 9 #[dpt b, .agg (opA o)] w (DoneV K w b F s o.x) := by
  have hF := K.lt h.D
  have kW := keeps_alloc3 w (.cells (opA o) 39) (.cells #[.slice none 0 0, .int .i64 0, .int .i64 0] 34) (.cells #[.slice none 0 0, .int .i64 0, .int .i64 0] 34)
  have hs3 : (((w.alloc (.cells (opA o) 39)).alloc (.cells #[.slice none 0 0, .int .i64 0, .int .i64 0] 34)).alloc (.cells #[.slice none 0 0, .int .i64 0, .int .i64 0] 34)).heap.size = w.heap.size + 3 := by simp
  have B1 := box_second w (.cells (opA o) 39) 34 #[.slice none 0 0, .int .i64 0, .int .i64 0] (.cells #[.slice none 0 0, .int .i64 0, .int .i64 0] 34)
  have B2 := box_third3 w (.cells (opA o) 39) (.cells #[.slice none 0 0, .int .i64 0, .int .i64 0] 34) 34 #[.slice none 0 0, .int .i64 0, .int .i64 0]
  have C := Lib.hid (K.flip o.x.name o.x.off o.x.mask (K.keep (h.z hZ) kW) (h.keep kW).D hs7 ho.nm ho.off.1 ho.off.2)
  have HD : doS s o.x = ((flipS s o.x.name o.x.off o.x.mask).1, ⟨[], 0, (flipS s o.x.name o.x.off o.x.mask).2⟩) := by unfold doS; rw [hk]; rfl
  have HF := Lib.hid hF
  have HS3 := Lib.hid hs3
  unfold opA at *
  unfold dpt strV at *
  rw [hk] at *
  clear hF h hs3 ho
  go_enter Tryz.func9, Tryz.ntmps9
  go_wp2_with fail
  refine C.out.mono ?_
  rintro e w1 ⟨rfl, F', hD, hT⟩
  have n1 : ¬ F (w.heap.size + 1) := fun e => by have := HF.out _ e; omega
  have n2 : ¬ F (w.heap.size + 1 + 1) := fun e => by have := HF.out _ e; omega
  have X1 := B1.turned hT n1
  have X2 := B2.turned hT n2
  have c10 := X1.cell 0 rfl
  have c11 := X1.cell 1 rfl
  have c12 := X1.cell 2 rfl
  have f10 := X1.frozen 0
  have f11 := X1.frozen 1
  have f12 := X1.frozen 2
  have c20 := X2.cell 0 rfl
  have c21 := X2.cell 1 rfl
  have c22 := X2.cell 2 rfl
  have f21 := X2.frozen 1
  have f22 := X2.frozen 2
  have HDD := Lib.hid hD
  have HT := Lib.hid hT
  have HDO := Lib.hid HD
  clear hD hT B1 B2 X2 n1 n2 HD
  obtain ⟨E, hE⟩ : ∃ E : Int, (((flipS s o.x.name o.x.off o.x.mask).2 : Nat) : Int) = E := ⟨_, rfl⟩
  rw [hE]
  have HE := Lib.hid hE.symm
  clear hE
  go_wp2_with fail
  have XB : Box (((((w1).setCell ⟨w.heap.size + 1 + 1, 2, none⟩ (.int .i64 E)).setCell ⟨w.heap.size + 1, 0, none⟩ (.slice none 0 0)).setCell ⟨w.heap.size + 1, 1, none⟩ (.int .i64 0)).setCell ⟨w.heap.size + 1, 2, none⟩ (.int .i64 E)) (w.heap.size + 1) 34 #[.slice none 0 0, .int .i64 0, .int .i64 E] := by simpa using ((((X1.far (p := ⟨w.heap.size + 1 + 1, 2, none⟩) (show w.heap.size + 1 ≠ w.heap.size + 1 + 1 by omega) (.int .i64 E)).set 0 (.slice none 0 0)).set 1 (.int .i64 0)).set 2 (.int .i64 E))
  have XO : Only w1 (((((w1).setCell ⟨w.heap.size + 1 + 1, 2, none⟩ (.int .i64 E)).setCell ⟨w.heap.size + 1, 0, none⟩ (.slice none 0 0)).setCell ⟨w.heap.size + 1, 1, none⟩ (.int .i64 0)).setCell ⟨w.heap.size + 1, 2, none⟩ (.int .i64 E)) (fun i => w.heap.size ≤ i ∧ i < w.heap.size + 3) := only_xt w1 (w.heap.size) (w.heap.size + 3) [((⟨w.heap.size + 1 + 1, 2, none⟩ : Addr), (.int .i64 E : Value)), ((⟨w.heap.size + 1, 0, none⟩ : Addr), (.slice none 0 0 : Value)), ((⟨w.heap.size + 1, 1, none⟩ : Addr), (.int .i64 0 : Value)), ((⟨w.heap.size + 1, 2, none⟩ : Addr), (.int .i64 E : Value))] (by simp <;> omega)
  generalize ((((w1).setCell ⟨w.heap.size + 1 + 1, 2, none⟩ (.int .i64 E)).setCell ⟨w.heap.size + 1, 0, none⟩ (.slice none 0 0)).setCell ⟨w.heap.size + 1, 1, none⟩ (.int .i64 0)).setCell ⟨w.heap.size + 1, 2, none⟩ (.int .i64 E) = W4 at *
  have d0 := XB.cell 0 rfl
  have d1 := XB.cell 1 rfl
  have d2 := XB.cell 2 rfl
  refine bodyPost_ret (v := .agg #[.slice none 0 0, .int .i64 0, .int .i64 E]) (by simp [results, Tryz.results9, go_sem, d0, d1, d2]) rfl ?_
  exact done_close (by rw [HDO.out]) (by rw [HDO.out]; exact HDD.out) HT.out kW HF.out (by rw [HS3.out]; exact XO) (by rw [HDO.out]; show Ending.returned _ = Ending.returned (.agg #[.slice none 0 0, .int .i64 0, .int .i64 (((flipS s o.x.name o.x.off o.x.mask).2 : Nat) : Int)]); rw [← HE.out])

set_option maxHeartbeats 8000000 in
theorem meant_size (K : DiskOk) {w0 w : World} {b : Nat} {F : Nat → Prop} {s : Ds} (hZ : K.Z w0) (h : Have K w0 w b F s) (hs7 : s.l.length ≤ 70000) (o : OpS) (ho : OpOk w0 o) (hk : o.x.kind = 7) :
    Calls Tryz.prog 9 #[dpt b, .agg (opA o)] w (DoneV K w b F s o.x) := by
  have hF := K.lt h.D
  have kW := keeps_alloc3 w (.cells (opA o) 39) (.cells #[.slice none 0 0, .int .i64 0, .int .i64 0] 34) (.cells #[.slice none 0 0, .int .i64 0, .int .i64 0] 34)
  have hs3 : (((w.alloc (.cells (opA o) 39)).alloc (.cells #[.slice none 0 0, .int .i64 0, .int .i64 0] 34)).alloc (.cells #[.slice none 0 0, .int .i64 0, .int .i64 0] 34)).heap.size = w.heap.size + 3 := by simp
  have B1 := box_second w (.cells (opA o) 39) 34 #[.slice none 0 0, .int .i64 0, .int .i64 0] (.cells #[.slice none 0 0, .int .i64 0, .int .i64 0] 34)
  have B2 := box_third3 w (.cells (opA o) 39) (.cells #[.slice none 0 0, .int .i64 0, .int .i64 0] 34) 34 #[.slice none 0 0, .int .i64 0, .int .i64 0]
  have C := Lib.hid (size_turn K o.x.name (K.keep (h.z hZ) kW) (h.keep kW).D hs7 ho.nm)
  have HD : doS s o.x = (s, ⟨[], (sizeS s o.x.name).1, (sizeS s o.x.name).2⟩) := by unfold doS; rw [hk]; rfl
  have HF := Lib.hid hF
  have HS3 := Lib.hid hs3
  unfold opA at *
  unfold dpt strV at *
  rw [hk] at *
  clear hF h hs3 ho
  go_enter Tryz.func9, Tryz.ntmps9
  go_wp2_with fail
  refine C.out.mono ?_
  rintro e w1 ⟨rfl, F', hD, hT⟩
  have n1 : ¬ F (w.heap.size + 1) := fun e => by have := HF.out _ e; omega
  have n2 : ¬ F (w.heap.size + 1 + 1) := fun e => by have := HF.out _ e; omega
  have X1 := B1.turned hT n1
  have X2 := B2.turned hT n2
  have c10 := X1.cell 0 rfl
  have c11 := X1.cell 1 rfl
  have c12 := X1.cell 2 rfl
  have f10 := X1.frozen 0
  have f11 := X1.frozen 1
  have f12 := X1.frozen 2
  have c20 := X2.cell 0 rfl
  have c21 := X2.cell 1 rfl
  have c22 := X2.cell 2 rfl
  have f21 := X2.frozen 1
  have f22 := X2.frozen 2
  have HDD := Lib.hid hD
  have HT := Lib.hid hT
  have HDO := Lib.hid HD
  clear hD hT B1 B2 X2 n1 n2 HD
  obtain ⟨E, hE⟩ : ∃ E : Int, (((sizeS s o.x.name).2 : Nat) : Int) = E := ⟨_, rfl⟩
  rw [hE]
  have HE := Lib.hid hE.symm
  clear hE
  obtain ⟨E1, hE1⟩ : ∃ E1 : Int, (((sizeS s o.x.name).1 : Nat) : Int) = E1 := ⟨_, rfl⟩
  rw [hE1]
  have HE1 := Lib.hid hE1.symm
  clear hE1
  go_wp2_with fail
  have XB : Box ((((((w1).setCell ⟨w.heap.size + 1 + 1, 1, none⟩ (.int .i64 E1)).setCell ⟨w.heap.size + 1 + 1, 2, none⟩ (.int .i64 E)).setCell ⟨w.heap.size + 1, 0, none⟩ (.slice none 0 0)).setCell ⟨w.heap.size + 1, 1, none⟩ (.int .i64 E1)).setCell ⟨w.heap.size + 1, 2, none⟩ (.int .i64 E)) (w.heap.size + 1) 34 #[.slice none 0 0, .int .i64 E1, .int .i64 E] := by simpa using (((((X1.far (p := ⟨w.heap.size + 1 + 1, 1, none⟩) (show w.heap.size + 1 ≠ w.heap.size + 1 + 1 by omega) (.int .i64 E1)).far (p := ⟨w.heap.size + 1 + 1, 2, none⟩) (show w.heap.size + 1 ≠ w.heap.size + 1 + 1 by omega) (.int .i64 E)).set 0 (.slice none 0 0)).set 1 (.int .i64 E1)).set 2 (.int .i64 E))
  have XO : Only w1 ((((((w1).setCell ⟨w.heap.size + 1 + 1, 1, none⟩ (.int .i64 E1)).setCell ⟨w.heap.size + 1 + 1, 2, none⟩ (.int .i64 E)).setCell ⟨w.heap.size + 1, 0, none⟩ (.slice none 0 0)).setCell ⟨w.heap.size + 1, 1, none⟩ (.int .i64 E1)).setCell ⟨w.heap.size + 1, 2, none⟩ (.int .i64 E)) (fun i => w.heap.size ≤ i ∧ i < w.heap.size + 3) := only_xt w1 (w.heap.size) (w.heap.size + 3) [((⟨w.heap.size + 1 + 1, 1, none⟩ : Addr), (.int .i64 E1 : Value)), ((⟨w.heap.size + 1 + 1, 2, none⟩ : Addr), (.int .i64 E : Value)), ((⟨w.heap.size + 1, 0, none⟩ : Addr), (.slice none 0 0 : Value)), ((⟨w.heap.size + 1, 1, none⟩ : Addr), (.int .i64 E1 : Value)), ((⟨w.heap.size + 1, 2, none⟩ : Addr), (.int .i64 E : Value))] (by simp <;> omega)
  generalize (((((w1).setCell ⟨w.heap.size + 1 + 1, 1, none⟩ (.int .i64 E1)).setCell ⟨w.heap.size + 1 + 1, 2, none⟩ (.int .i64 E)).setCell ⟨w.heap.size + 1, 0, none⟩ (.slice none 0 0)).setCell ⟨w.heap.size + 1, 1, none⟩ (.int .i64 E1)).setCell ⟨w.heap.size + 1, 2, none⟩ (.int .i64 E) = W4 at *
  have d0 := XB.cell 0 rfl
  have d1 := XB.cell 1 rfl
  have d2 := XB.cell 2 rfl
  refine bodyPost_ret (v := .agg #[.slice none 0 0, .int .i64 E1, .int .i64 E]) (by simp [results, Tryz.results9, go_sem, d0, d1, d2]) rfl ?_
  exact done_close (by rw [HDO.out]) (by rw [HDO.out]; exact HDD.out) HT.out kW HF.out (by rw [HS3.out]; exact XO) (by rw [HDO.out]; show Ending.returned _ = Ending.returned (.agg #[.slice none 0 0, .int .i64 (((sizeS s o.x.name).1 : Nat) : Int), .int .i64 (((sizeS s o.x.name).2 : Nat) : Int)]); rw [← HE.out, ← HE1.out])

set_option maxHeartbeats 8000000 in
theorem meant_write (K : DiskOk) {w0 w : World} {b : Nat} {F : Nat → Prop} {s : Ds} (hZ : K.Z w0) (h : Have K w0 w b F s) (hs7 : s.l.length ≤ 70000) (o : OpS) (ho : OpOk w0 o) (hm : o.len ≤ 70000) (hk : o.x.kind = 3) :
    Calls Tryz.prog 9 #[dpt b, .agg (opA o)] w (DoneV K w b F s o.x) := by
  have hF := K.lt h.D
  have kW := keeps_alloc3 w (.cells (opA o) 39) (.cells #[.slice none 0 0, .int .i64 0, .int .i64 0] 34) (.cells #[.slice none 0 0, .int .i64 0, .int .i64 0] 34)
  have hs3 : (((w.alloc (.cells (opA o) 39)).alloc (.cells #[.slice none 0 0, .int .i64 0, .int .i64 0] 34)).alloc (.cells #[.slice none 0 0, .int .i64 0, .int .i64 0] 34)).heap.size = w.heap.size + 3 := by simp
  have B1 := box_second w (.cells (opA o) 39) 34 #[.slice none 0 0, .int .i64 0, .int .i64 0] (.cells #[.slice none 0 0, .int .i64 0, .int .i64 0] 34)
  have B2 := box_third3 w (.cells (opA o) 39) (.cells #[.slice none 0 0, .int .i64 0, .int .i64 0] 34) 34 #[.slice none 0 0, .int .i64 0, .int .i64 0]
  have C := Lib.hid (K.write o.x.name o.x.off o.A o.len o.c o.x.b (K.keep (h.z hZ) kW) (h.keep kW).D hs7 ho.nm ho.off.1 ho.off.2 (ho.b.low (keeps_trans h.kp kW)) (fun ad ha hl hf => by have h1 := at_low ho.b (fun e => hl (by simpa [cel] using e)) ha; have h2 := h.low _ hf; omega) ho.len ho.c hm)
  have HD : doS s o.x = ((writeS s o.x.name o.x.off o.x.b).1, ⟨[], 0, (writeS s o.x.name o.x.off o.x.b).2⟩) := by unfold doS; rw [hk]; rfl
  have HF := Lib.hid hF
  have HS3 := Lib.hid hs3
  unfold opA at *
  unfold dpt strV at *
  rw [hk] at *
  clear hF h hs3 ho
  go_enter Tryz.func9, Tryz.ntmps9
  go_wp2_with fail
  refine C.out.mono ?_
  rintro e w1 ⟨rfl, F', hD, hT⟩
  have n1 : ¬ F (w.heap.size + 1) := fun e => by have := HF.out _ e; omega
  have n2 : ¬ F (w.heap.size + 1 + 1) := fun e => by have := HF.out _ e; omega
  have X1 := B1.turned hT n1
  have X2 := B2.turned hT n2
  have c10 := X1.cell 0 rfl
  have c11 := X1.cell 1 rfl
  have c12 := X1.cell 2 rfl
  have f10 := X1.frozen 0
  have f11 := X1.frozen 1
  have f12 := X1.frozen 2
  have c20 := X2.cell 0 rfl
  have c21 := X2.cell 1 rfl
  have c22 := X2.cell 2 rfl
  have f21 := X2.frozen 1
  have f22 := X2.frozen 2
  have HDD := Lib.hid hD
  have HT := Lib.hid hT
  have HDO := Lib.hid HD
  clear hD hT B1 B2 X2 n1 n2 HD
  obtain ⟨E, hE⟩ : ∃ E : Int, (((writeS s o.x.name o.x.off o.x.b).2 : Nat) : Int) = E := ⟨_, rfl⟩
  rw [hE]
  have HE := Lib.hid hE.symm
  clear hE
  go_wp2_with fail
  have XB : Box (((((w1).setCell ⟨w.heap.size + 1 + 1, 2, none⟩ (.int .i64 E)).setCell ⟨w.heap.size + 1, 0, none⟩ (.slice none 0 0)).setCell ⟨w.heap.size + 1, 1, none⟩ (.int .i64 0)).setCell ⟨w.heap.size + 1, 2, none⟩ (.int .i64 E)) (w.heap.size + 1) 34 #[.slice none 0 0, .int .i64 0, .int .i64 E] := by simpa using ((((X1.far (p := ⟨w.heap.size + 1 + 1, 2, none⟩) (show w.heap.size + 1 ≠ w.heap.size + 1 + 1 by omega) (.int .i64 E)).set 0 (.slice none 0 0)).set 1 (.int .i64 0)).set 2 (.int .i64 E))
  have XO : Only w1 (((((w1).setCell ⟨w.heap.size + 1 + 1, 2, none⟩ (.int .i64 E)).setCell ⟨w.heap.size + 1, 0, none⟩ (.slice none 0 0)).setCell ⟨w.heap.size + 1, 1, none⟩ (.int .i64 0)).setCell ⟨w.heap.size + 1, 2, none⟩ (.int .i64 E)) (fun i => w.heap.size ≤ i ∧ i < w.heap.size + 3) := only_xt w1 (w.heap.size) (w.heap.size + 3) [((⟨w.heap.size + 1 + 1, 2, none⟩ : Addr), (.int .i64 E : Value)), ((⟨w.heap.size + 1, 0, none⟩ : Addr), (.slice none 0 0 : Value)), ((⟨w.heap.size + 1, 1, none⟩ : Addr), (.int .i64 0 : Value)), ((⟨w.heap.size + 1, 2, none⟩ : Addr), (.int .i64 E : Value))] (by simp <;> omega)
  generalize ((((w1).setCell ⟨w.heap.size + 1 + 1, 2, none⟩ (.int .i64 E)).setCell ⟨w.heap.size + 1, 0, none⟩ (.slice none 0 0)).setCell ⟨w.heap.size + 1, 1, none⟩ (.int .i64 0)).setCell ⟨w.heap.size + 1, 2, none⟩ (.int .i64 E) = W4 at *
  have d0 := XB.cell 0 rfl
  have d1 := XB.cell 1 rfl
  have d2 := XB.cell 2 rfl
  refine bodyPost_ret (v := .agg #[.slice none 0 0, .int .i64 0, .int .i64 E]) (by simp [results, Tryz.results9, go_sem, d0, d1, d2]) rfl ?_
  exact done_close (by rw [HDO.out]) (by rw [HDO.out]; exact HDD.out) HT.out kW HF.out (by rw [HS3.out]; exact XO) (by rw [HDO.out]; show Ending.returned _ = Ending.returned (.agg #[.slice none 0 0, .int .i64 0, .int .i64 (((writeS s o.x.name o.x.off o.x.b).2 : Nat) : Int)]); rw [← HE.out])

set_option maxHeartbeats 8000000 in
theorem meant_on (K : DiskOk) {w0 w : World} {b : Nat} {F : Nat → Prop} {s : Ds} (hZ : K.Z w0) (h : Have K w0 w b F s) (hs7 : s.l.length ≤ 70000) (o : OpS) (ho : OpOk w0 o) (hm : o.len2 ≤ 70000) (hk : o.x.kind = 10) :
    Calls Tryz.prog 9 #[dpt b, .agg (opA o)] w (DoneV K w b F s o.x) := by
  have hF := K.lt h.D
  have kW := keeps_alloc3 w (.cells (opA o) 39) (.cells #[.slice none 0 0, .int .i64 0, .int .i64 0] 34) (.cells #[.slice none 0 0, .int .i64 0, .int .i64 0] 34)
  have hs3 : (((w.alloc (.cells (opA o) 39)).alloc (.cells #[.slice none 0 0, .int .i64 0, .int .i64 0] 34)).alloc (.cells #[.slice none 0 0, .int .i64 0, .int .i64 0] 34)).heap.size = w.heap.size + 3 := by simp
  have B1 := box_second w (.cells (opA o) 39) 34 #[.slice none 0 0, .int .i64 0, .int .i64 0] (.cells #[.slice none 0 0, .int .i64 0, .int .i64 0] 34)
  have B2 := box_third3 w (.cells (opA o) 39) (.cells #[.slice none 0 0, .int .i64 0, .int .i64 0] 34) 34 #[.slice none 0 0, .int .i64 0, .int .i64 0]
  have C := Lib.hid (K.on o.A2 o.len2 o.c2 o.x.keep (K.keep (h.z hZ) kW) (h.keep kW).D hs7 (ho.keep.low (keeps_trans h.kp kW)) (fun ad ha hl hf => by have h1 := at_low ho.keep (fun e => hl (by simpa [intC] using e)) ha; have h2 := h.low _ hf; omega) ho.len2 ho.c2 hm)
  have HD : doS s o.x = ((onS s o.x.keep).1, ⟨[], 0, (onS s o.x.keep).2⟩) := by unfold doS; rw [hk]; rfl
  have HF := Lib.hid hF
  have HS3 := Lib.hid hs3
  unfold opA at *
  unfold dpt strV at *
  rw [hk] at *
  clear hF h hs3 ho
  go_enter Tryz.func9, Tryz.ntmps9
  go_wp2_with fail
  refine C.out.mono ?_
  rintro e w1 ⟨rfl, F', hD, hT⟩
  have n1 : ¬ F (w.heap.size + 1) := fun e => by have := HF.out _ e; omega
  have n2 : ¬ F (w.heap.size + 1 + 1) := fun e => by have := HF.out _ e; omega
  have X1 := B1.turned hT n1
  have X2 := B2.turned hT n2
  have c10 := X1.cell 0 rfl
  have c11 := X1.cell 1 rfl
  have c12 := X1.cell 2 rfl
  have f10 := X1.frozen 0
  have f11 := X1.frozen 1
  have f12 := X1.frozen 2
  have c20 := X2.cell 0 rfl
  have c21 := X2.cell 1 rfl
  have c22 := X2.cell 2 rfl
  have f21 := X2.frozen 1
  have f22 := X2.frozen 2
  have HDD := Lib.hid hD
  have HT := Lib.hid hT
  have HDO := Lib.hid HD
  clear hD hT B1 B2 X2 n1 n2 HD
  obtain ⟨E, hE⟩ : ∃ E : Int, (((onS s o.x.keep).2 : Nat) : Int) = E := ⟨_, rfl⟩
  rw [hE]
  have HE := Lib.hid hE.symm
  clear hE
  go_wp2_with fail
  have XB : Box (((((w1).setCell ⟨w.heap.size + 1 + 1, 2, none⟩ (.int .i64 E)).setCell ⟨w.heap.size + 1, 0, none⟩ (.slice none 0 0)).setCell ⟨w.heap.size + 1, 1, none⟩ (.int .i64 0)).setCell ⟨w.heap.size + 1, 2, none⟩ (.int .i64 E)) (w.heap.size + 1) 34 #[.slice none 0 0, .int .i64 0, .int .i64 E] := by simpa using ((((X1.far (p := ⟨w.heap.size + 1 + 1, 2, none⟩) (show w.heap.size + 1 ≠ w.heap.size + 1 + 1 by omega) (.int .i64 E)).set 0 (.slice none 0 0)).set 1 (.int .i64 0)).set 2 (.int .i64 E))
  have XO : Only w1 (((((w1).setCell ⟨w.heap.size + 1 + 1, 2, none⟩ (.int .i64 E)).setCell ⟨w.heap.size + 1, 0, none⟩ (.slice none 0 0)).setCell ⟨w.heap.size + 1, 1, none⟩ (.int .i64 0)).setCell ⟨w.heap.size + 1, 2, none⟩ (.int .i64 E)) (fun i => w.heap.size ≤ i ∧ i < w.heap.size + 3) := only_xt w1 (w.heap.size) (w.heap.size + 3) [((⟨w.heap.size + 1 + 1, 2, none⟩ : Addr), (.int .i64 E : Value)), ((⟨w.heap.size + 1, 0, none⟩ : Addr), (.slice none 0 0 : Value)), ((⟨w.heap.size + 1, 1, none⟩ : Addr), (.int .i64 0 : Value)), ((⟨w.heap.size + 1, 2, none⟩ : Addr), (.int .i64 E : Value))] (by simp <;> omega)
  generalize ((((w1).setCell ⟨w.heap.size + 1 + 1, 2, none⟩ (.int .i64 E)).setCell ⟨w.heap.size + 1, 0, none⟩ (.slice none 0 0)).setCell ⟨w.heap.size + 1, 1, none⟩ (.int .i64 0)).setCell ⟨w.heap.size + 1, 2, none⟩ (.int .i64 E) = W4 at *
  have d0 := XB.cell 0 rfl
  have d1 := XB.cell 1 rfl
  have d2 := XB.cell 2 rfl
  refine bodyPost_ret (v := .agg #[.slice none 0 0, .int .i64 0, .int .i64 E]) (by simp [results, Tryz.results9, go_sem, d0, d1, d2]) rfl ?_
  exact done_close (by rw [HDO.out]) (by rw [HDO.out]; exact HDD.out) HT.out kW HF.out (by rw [HS3.out]; exact XO) (by rw [HDO.out]; show Ending.returned _ = Ending.returned (.agg #[.slice none 0 0, .int .i64 0, .int .i64 (((onS s o.x.keep).2 : Nat) : Int)]); rw [← HE.out])
theorem meant_none (K : DiskOk) {w0 w : World} {b : Nat} {F : Nat → Prop} {s : Ds} (h : Have K w0 w b F s) (o : OpS) (hk : o.x.kind < 0 ∨ 11 < o.x.kind) :
    Calls Tryz.prog 9 #[dpt b, .agg (opA o)] w (DoneV K w b F s o.x) := by
  have hF := K.lt h.D
  have kW := keeps_alloc3 w (.cells (opA o) 39) (.cells #[.slice none 0 0, .int .i64 0, .int .i64 0] 34) (.cells #[.slice none 0 0, .int .i64 0, .int .i64 0] 34)
  have B1 := box_second w (.cells (opA o) 39) 34 #[.slice none 0 0, .int .i64 0, .int .i64 0] (.cells #[.slice none 0 0, .int .i64 0, .int .i64 0] 34)
  have HD : doS s o.x = (s, ⟨[], 0, 0⟩) := by
    unfold doS
    rw [if_neg (by omega), if_neg (by omega), if_neg (by omega), if_neg (by omega), if_neg (by omega), if_neg (by omega), if_neg (by omega), if_neg (by omega), if_neg (by omega), if_neg (by omega), if_neg (by omega), if_neg (by omega)]
  have HF := Lib.hid hF
  have HV := Lib.hid h
  have HDO := Lib.hid HD
  have q0 : (o.x.kind == 0) = false := by rw [beq_eq_false_iff_ne]; omega
  have q1 : (o.x.kind == 1) = false := by rw [beq_eq_false_iff_ne]; omega
  have q2 : (o.x.kind == 2) = false := by rw [beq_eq_false_iff_ne]; omega
  have q3 : (o.x.kind == 3) = false := by rw [beq_eq_false_iff_ne]; omega
  have q4 : (o.x.kind == 4) = false := by rw [beq_eq_false_iff_ne]; omega
  have q5 : (o.x.kind == 5) = false := by rw [beq_eq_false_iff_ne]; omega
  have q6 : (o.x.kind == 6) = false := by rw [beq_eq_false_iff_ne]; omega
  have q7 : (o.x.kind == 7) = false := by rw [beq_eq_false_iff_ne]; omega
  have q8 : (o.x.kind == 8) = false := by rw [beq_eq_false_iff_ne]; omega
  have q9 : (o.x.kind == 9) = false := by rw [beq_eq_false_iff_ne]; omega
  have q10 : (o.x.kind == 10) = false := by rw [beq_eq_false_iff_ne]; omega
  have q11 : (o.x.kind == 11) = false := by rw [beq_eq_false_iff_ne]; omega
  unfold opA at *
  unfold dpt strV at *
  clear hF h HD hk
  go_enter Tryz.func9, Tryz.ntmps9
  go_wp2_with fail
  refine bodyPost_ret (v := .agg #[.slice none 0 0, .int .i64 0, .int .i64 0]) (by simp [results, Tryz.results9, go_sem]) rfl ?_
  exact ⟨.slice none 0 0, F, by rw [HDO.out]; rfl, by rw [HDO.out]; exact Own.nil _ _ _ _, by rw [HDO.out]; exact (HV.out.keep kW).D, Turns.of_keeps kW, fun q hq => by simp [Value.ownBlock] at hq⟩

set_option maxHeartbeats 8000000 in
theorem meant_read (K : DiskOk) {w0 w : World} {b : Nat} {F : Nat → Prop} {s : Ds} (hZ : K.Z w0) (h : Have K w0 w b F s) (hs7 : s.l.length ≤ 70000) (o : OpS) (ho : OpOk w0 o) (hk : o.x.kind = 6) :
    Calls Tryz.prog 9 #[dpt b, .agg (opA o)] w (DoneV K w b F s o.x) := by
  have hF := K.lt h.D
  have kW := keeps_alloc3 w (.cells (opA o) 39) (.cells #[.slice none 0 0, .int .i64 0, .int .i64 0] 34) (.cells #[.slice none 0 0, .int .i64 0, .int .i64 0] 34)
  have hs3 : (((w.alloc (.cells (opA o) 39)).alloc (.cells #[.slice none 0 0, .int .i64 0, .int .i64 0] 34)).alloc (.cells #[.slice none 0 0, .int .i64 0, .int .i64 0] 34)).heap.size = w.heap.size + 3 := by simp
  have B1 := box_second w (.cells (opA o) 39) 34 #[.slice none 0 0, .int .i64 0, .int .i64 0] (.cells #[.slice none 0 0, .int .i64 0, .int .i64 0] 34)
  have B2 := box_third3 w (.cells (opA o) 39) (.cells #[.slice none 0 0, .int .i64 0, .int .i64 0] 34) 34 #[.slice none 0 0, .int .i64 0, .int .i64 0]
  have HD : doS s o.x = (s, ⟨(readS s o.x.name o.x.off o.x.n).1, 0, (readS s o.x.name o.x.off o.x.n).2⟩) := by unfold doS; rw [hk]; rfl
  have C := Lib.hid (K.read o.x.name o.x.off o.x.n (K.keep (h.z hZ) kW) (h.keep kW).D hs7 ho.nm ho.off.1 ho.off.2 ho.n.1 ho.n.2)
  have HF := Lib.hid hF
  have HV := Lib.hid h
  have HS3 := Lib.hid hs3
  have HDO := Lib.hid HD
  generalize (readS s o.x.name o.x.off o.x.n).1 = L at *
  generalize (readS s o.x.name o.x.off o.x.n).2 = E at *
  unfold opA at *
  unfold dpt strV at *
  rw [hk] at *
  clear hF h ho hZ HD
  go_enter Tryz.func9, Tryz.ntmps9
  go_wp2_with fail
  refine C.out.mono ?_
  rintro e w1 ⟨v1, rfl, o1, k1⟩
  rw [hs3] at o1
  obtain ⟨A1, c1, rfl, -⟩ := o1.form
  have O1 := Lib.hid o1
  have X1 := B1.keep k1
  have X2 := B2.keep k1
  have KA := Lib.hid (keeps_trans kW k1)
  have c10 := X1.cell 0 rfl
  have c11 := X1.cell 1 rfl
  have c12 := X1.cell 2 rfl
  have f10 := X1.frozen 0
  have f11 := X1.frozen 1
  have f12 := X1.frozen 2
  have c20 := X2.cell 0 rfl
  have c21 := X2.cell 1 rfl
  have c22 := X2.cell 2 rfl
  have f20 := X2.frozen 0
  have f22 := X2.frozen 2
  have W1 := Lib.hid (show w.heap.size + 3 ≤ w1.heap.size by have := k1.size; rw [hs3] at this; exact this)
  clear B1 B2 o1 k1 kW hs3 X2
  go_wp2_with fail
  have XB : Box ((((((w1).setCell ⟨w.heap.size + 1 + 1, 0, none⟩ (.slice A1 L.length c1)).setCell ⟨w.heap.size + 1 + 1, 2, none⟩ (.int .i64 E)).setCell ⟨w.heap.size + 1, 0, none⟩ (.slice A1 L.length c1)).setCell ⟨w.heap.size + 1, 1, none⟩ (.int .i64 0)).setCell ⟨w.heap.size + 1, 2, none⟩ (.int .i64 E)) (w.heap.size + 1) 34 #[.slice A1 L.length c1, .int .i64 0, .int .i64 E] := by simpa using (((((X1.far (p := ⟨w.heap.size + 1 + 1, 0, none⟩) (show w.heap.size + 1 ≠ w.heap.size + 1 + 1 by omega) (.slice A1 L.length c1)).far (p := ⟨w.heap.size + 1 + 1, 2, none⟩) (show w.heap.size + 1 ≠ w.heap.size + 1 + 1 by omega) (.int .i64 E)).set 0 (.slice A1 L.length c1)).set 1 (.int .i64 0)).set 2 (.int .i64 E))
  have XO : Only w1 ((((((w1).setCell ⟨w.heap.size + 1 + 1, 0, none⟩ (.slice A1 L.length c1)).setCell ⟨w.heap.size + 1 + 1, 2, none⟩ (.int .i64 E)).setCell ⟨w.heap.size + 1, 0, none⟩ (.slice A1 L.length c1)).setCell ⟨w.heap.size + 1, 1, none⟩ (.int .i64 0)).setCell ⟨w.heap.size + 1, 2, none⟩ (.int .i64 E)) (fun i => w.heap.size ≤ i ∧ i < w.heap.size + 3) := only_xt w1 (w.heap.size) (w.heap.size + 3) [((⟨w.heap.size + 1 + 1, 0, none⟩ : Addr), (.slice A1 L.length c1 : Value)), ((⟨w.heap.size + 1 + 1, 2, none⟩ : Addr), (.int .i64 E : Value)), ((⟨w.heap.size + 1, 0, none⟩ : Addr), (.slice A1 L.length c1 : Value)), ((⟨w.heap.size + 1, 1, none⟩ : Addr), (.int .i64 0 : Value)), ((⟨w.heap.size + 1, 2, none⟩ : Addr), (.int .i64 E : Value))] (by simp <;> omega)
  generalize (((((w1).setCell ⟨w.heap.size + 1 + 1, 0, none⟩ (.slice A1 L.length c1)).setCell ⟨w.heap.size + 1 + 1, 2, none⟩ (.int .i64 E)).setCell ⟨w.heap.size + 1, 0, none⟩ (.slice A1 L.length c1)).setCell ⟨w.heap.size + 1, 1, none⟩ (.int .i64 0)).setCell ⟨w.heap.size + 1, 2, none⟩ (.int .i64 E) = W4 at *
  have d0 := XB.cell 0 rfl
  have d1 := XB.cell 1 rfl
  have d2 := XB.cell 2 rfl
  refine bodyPost_ret (v := .agg #[.slice A1 L.length c1, .int .i64 0, .int .i64 E]) (by simp [results, Tryz.results9, go_sem, d0, d1, d2]) rfl ?_
  have k4 : Keeps w W4 := Below.trans KA.out (XO.below (fun i hi => hi.1) (by have := W1.out; omega))
  refine ⟨.slice A1 L.length c1, F, by rw [HDO.out]; rfl, ?_, by rw [HDO.out]; exact (HV.out.keep k4).D, Turns.of_keeps k4, fun k hk hf => by have h1 := (O1.out.lt k hk).1; have h2 := HF.out _ hf; omega⟩
  rw [HDO.out]
  exact (O1.out.only_ XO (fun k hk hs => by have := (O1.out.lt k hk).1; omega)).base_le (by omega)

theorem meant_any (K : DiskOk) {w0 w : World} {b : Nat} {F : Nat → Prop} {s : Ds} (hZ : K.Z w0) (h : Have K w0 w b F s) (hs7 : s.l.length ≤ 70000) (o : OpS) (ho : OpOk w0 o) (hm : o.len ≤ 70000) (hm2 : o.len2 ≤ 70000) :
    Calls Tryz.prog 9 #[dpt b, .agg (opA o)] w (DoneV K w b F s o.x) := by
  by_cases hr : o.x.kind < 0 ∨ 11 < o.x.kind
  · exact meant_none K h o hr
  · rcases (show o.x.kind = 0 ∨ o.x.kind = 1 ∨ o.x.kind = 2 ∨ o.x.kind = 3 ∨ o.x.kind = 4 ∨ o.x.kind = 5 ∨ o.x.kind = 6 ∨ o.x.kind = 7 ∨ o.x.kind = 8 ∨ o.x.kind = 9 ∨ o.x.kind = 10 ∨ o.x.kind = 11 by omega) with e | e | e | e | e | e | e | e | e | e | e | e
    · exact meant_create K hZ h hs7 o ho e
    · exact meant_remove K hZ h hs7 o ho e
    · exact meant_rename K hZ h hs7 o ho e
    · exact meant_write K hZ h hs7 o ho hm e
    · exact meant_cut K hZ h hs7 o ho e
    · exact meant_sync K hZ h hs7 o ho e
    · exact meant_read K hZ h hs7 o ho e
    · exact meant_size K hZ h hs7 o ho e
    · exact meant_quota K hZ h hs7 o ho e
    · exact meant_arm K hZ h hs7 o ho e
    · exact meant_on K hZ h hs7 o ho hm2 e
    · exact meant_flip K hZ h hs7 o ho e
end Go.Proofs.YtjfnpfojboellaaGreat.Ref
