/- Something is done with a disk: the contract of the law's own 'does', kind by kind. -/
import Derived.Test.YtjfnpfojboellaaGreatLawDisk
namespace Go.Proofs.YtjfnpfojboellaaGreat
open Go.RowKit
set_option linter.unusedSimpArgs false
set_option linter.unusedVariables false
set_option maxRecDepth 100000

theorem Turns.notIn {w w' : World} {S S' : Nat → Prop} (t : Turns w w' S S') {b : Nat} (hb : b < w.heap.size) (h : ¬ S b) : ¬ S' b := fun e => by
  rcases t.next b e with h1 | h1
  · exact h h1
  · omega
theorem Box.turned {w w' : World} {S S' : Nat → Prop} {b : Nat} {T : TypeId} {cs : Array Value} (B : Box w b T cs) (t : Turns w w' S S') (h : ¬ S b) : Box w' b T cs := (t.only.block b B.lt h).trans B
theorem Only.weak {w w' : World} {S T : Nat → Prop} (h : Only w w' S) (hT : ∀ i, S i → T i) : Only w w' T := ⟨h.os, h.tape, h.output, h.size, fun i hi hn => h.block i hi (fun e => hn (hT i e))⟩
theorem Only.cell1 (w : World) (p : Addr) (u : Value) : Only w (w.setCell p u) (fun c => c = p.block) := ⟨rfl, rfl, rfl, by simp, fun k _ hn => Below.heap_setCell w p u k hn⟩
/-- what is done within, where new blocks are laid around it and turned -/
theorem Turns.wrap {w W w1 w2 : World} {F F' : Nat → Prop} (h : Turns W w1 F F') (k : Keeps w W) (hF : ∀ i, F i → i < w.heap.size) (o : Only w1 w2 (fun i => w.heap.size ≤ i)) : Turns w w2 F F' :=
  ⟨(((Only.of_keeps k).weak (T := F) (fun _ e => e.elim)).trans h.only (fun i hi => .inl hi)).trans o (fun i hi => .inr hi), fun i hi => by
    rcases h.next i hi with h1 | h1
    · exact .inl h1
    · exact .inr (Nat.le_trans k.size h1)⟩

/-- what is handed in with it, where it lies -/
structure OpS where
  x : Opx
  A : Option Addr
  len : Nat
  c : Nat
  A2 : Option Addr
  len2 : Nat
  c2 : Nat
def opA (o : OpS) : Array Value := #[.int .i64 o.x.kind, strV o.x.name, strV o.x.to, .int .i64 o.x.off, .int .i64 o.x.n, .slice o.A o.len o.c, .int .u8 (o.x.mask.toNat : Int), .slice o.A2 o.len2 o.c2]
def IsI (x : Int) : Prop := -9223372036854775808 ≤ x ∧ x ≤ 9223372036854775807
structure OpOk (W : World) (o : OpS) : Prop where
  kind : IsI o.x.kind
  nm : o.x.name.length ≤ maxLen
  to : o.x.to.length ≤ maxLen
  off : IsI o.x.off
  n : IsI o.x.n
  len : o.len = o.x.b.length
  c : o.len ≤ o.c
  m : o.c ≤ maxLen
  b : At W W.heap.size o.A (cel o.x.b)
  len2 : o.len2 = o.x.keep.length
  c2 : o.len2 ≤ o.c2
  m2 : o.c2 ≤ maxLen
  keep : At W W.heap.size o.A2 (intC o.x.keep)
/-- what was done, and answered -/
def DoneV (K : DiskOk) (w : World) (b : Nat) (F : Nat → Prop) (s : Ds) (o : Opx) (e : Ending) (w' : World) : Prop :=
  ∃ v F', e = .returned (.tuple #[.agg #[v, .int .i64 ((doS s o).2.n : Int), .int .i64 ((doS s o).2.e : Int)], .bool true]) ∧ Own w' w.heap.size 5 1 v (doS s o).2.b.length (cel (doS s o).2.b) ∧
    K.D w' b F' (doS s o).1 ∧ Turns w w' F F' ∧ (∀ k, v.ownBlock = some k → ¬ F' k)
/-- the end of it, where a number and an error are told -/
theorem done_close {K : DiskOk} {w W w1 w2 : World} {b : Nat} {F F' : Nat → Prop} {s : Ds} {o : Opx} {v : Value} (hb : (doS s o).2.b = [])
    (hD : K.D w1 b F' (doS s o).1) (hT : Turns W w1 F F') (k : Keeps w W) (hF : ∀ i, F i → i < w.heap.size) (ho : Only w1 w2 (fun i => w.heap.size ≤ i ∧ i < W.heap.size))
    (he : Ending.returned v = .returned (.tuple #[.agg #[.slice none 0 0, .int .i64 ((doS s o).2.n : Int), .int .i64 ((doS s o).2.e : Int)], .bool true])) : DoneV K w b F s o (.returned v) w2 := by
  refine ⟨.slice none 0 0, F', he, ?_, K.same hD (fun i hi => ho.block i (K.lt hD i hi) (fun h => ?_)) ho.size, hT.wrap k hF (ho.weak (fun i h => h.1)), fun k hk => by simp [Value.ownBlock] at hk⟩
  · rw [hb]
    exact Own.nil _ _ _ _
  · exact (hT.notIn h.2 (fun e => by have := hF i e; omega)) hi
theorem only_xt (w1 : World) (B S : Nat) (ps : List (Addr × Value)) (h : ∀ p ∈ ps, B ≤ p.1.block ∧ p.1.block < S) : Only w1 (ps.foldl (fun w p => w.setCell p.1 p.2) w1) (fun i => B ≤ i ∧ i < S) := by
  induction ps generalizing w1 with
  | nil => exact Only.refl _ _
  | cons p ps ih =>
    refine ((Only.cell1 w1 p.1 p.2).weak (T := fun i => B ≤ i ∧ i < S) (fun i e => by rw [e]; exact h p (by simp))).trans (ih _ (fun q hq => h q (by simp [hq]))) (fun i hi => .inl hi)

theorem size_turn (K : DiskOk) {w : World} {b : Nat} {F : Nat → Prop} {s : Ds} (nm : List UInt8) (hZ : K.Z w) (hD : K.D w b F s) (hnm : nm.length ≤ maxLen) :
    Calls Tryz.prog 25 #[dpt b, strV nm] w fun e w2 => e = .returned (.tuple #[.int .i64 ((sizeS s nm).1 : Int), .int .i64 ((sizeS s nm).2 : Int)]) ∧ ∃ F1, K.D w2 b F1 s ∧ Turns w w2 F F1 :=
  (K.size nm hZ hD hnm).mono fun e w2 q => ⟨q.1, F, K.same hD (fun i hi => q.2.block i (K.lt hD i hi)) q.2.size, Turns.of_keeps q.2⟩
theorem keeps_alloc3 (w : World) (x y z : Obj) : Keeps w (((w.alloc x).alloc y).alloc z) := keeps_trans (keeps_trans (keeps_alloc _ _) (keeps_alloc _ _)) (keeps_alloc _ _)
theorem box_second (w : World) (x : Obj) (T : TypeId) (cs : Array Value) (z : Obj) : Box (((w.alloc x).alloc (.cells cs T)).alloc z) (w.heap.size + 1) T cs := by
  have := (Box.new (w.alloc x) T cs).keep (keeps_alloc _ z)
  simpa using this
theorem box_third3 (w : World) (x y : Obj) (T : TypeId) (cs : Array Value) : Box (((w.alloc x).alloc y).alloc (.cells cs T)) (w.heap.size + 1 + 1) T cs := by
  have := Box.new ((w.alloc x).alloc y) T cs
  simpa using this

set_option maxHeartbeats 8000000 in
theorem does_create (K : DiskOk) {w0 w : World} {b : Nat} {F : Nat → Prop} {s : Ds} (hZ : K.Z w0) (h : Have K w0 w b F s) (o : OpS) (ho : OpOk w0 o) (hk : o.x.kind = 0) :
    Calls Tryz.prog 8 #[dpt b, .agg (opA o)] w (DoneV K w b F s o.x) := by
  have hF := K.lt h.D
  have kW := keeps_alloc3 w (.cells (opA o) 39) (.cells #[.slice none 0 0, .int .i64 0, .int .i64 0] 34) (.cells #[.slice none 0 0, .int .i64 0, .int .i64 0] 34)
  have hs3 : (((w.alloc (.cells (opA o) 39)).alloc (.cells #[.slice none 0 0, .int .i64 0, .int .i64 0] 34)).alloc (.cells #[.slice none 0 0, .int .i64 0, .int .i64 0] 34)).heap.size = w.heap.size + 3 := by simp
  have B1 := box_second w (.cells (opA o) 39) 34 #[.slice none 0 0, .int .i64 0, .int .i64 0] (.cells #[.slice none 0 0, .int .i64 0, .int .i64 0] 34)
  have B2 := box_third3 w (.cells (opA o) 39) (.cells #[.slice none 0 0, .int .i64 0, .int .i64 0] 34) 34 #[.slice none 0 0, .int .i64 0, .int .i64 0]
  have C := Lib.hid (K.create o.x.name (K.keep (h.z hZ) kW) (h.keep kW).D ho.nm )
  have HD : doS s o.x = ((createS s o.x.name).1, ⟨[], 0, (createS s o.x.name).2⟩) := by unfold doS; rw [hk]; rfl
  have HF := Lib.hid hF
  have HS3 := Lib.hid hs3
  unfold opA at *
  unfold dpt strV at *
  rw [hk] at *
  clear hF h hs3 ho
  go_enter Tryz.func8, Tryz.ntmps8
  go_wp2_with fail
  refine C.out.mono ?_
  rintro e w1 ⟨rfl, F', hD, hT⟩
  have n1 : ¬ F (w.heap.size + 1) := fun e => by have := HF.out _ e; omega
  have n2 : ¬ F (w.heap.size + 1 + 1) := fun e => by have := HF.out _ e; omega
  have X1 := B1.turned hT n1
  have X2 := B2.turned hT n2
  have c10 := X1.cell 0 rfl
  have c11 := X1.cell 1 rfl
  have c12 := X1.cell 2 rfl
  have f10 := X1.frozen 0
  have f11 := X1.frozen 1
  have f12 := X1.frozen 2
  have c20 := X2.cell 0 rfl
  have c21 := X2.cell 1 rfl
  have c22 := X2.cell 2 rfl
  have f21 := X2.frozen 1
  have f22 := X2.frozen 2
  have HDD := Lib.hid hD
  have HT := Lib.hid hT
  have HDO := Lib.hid HD
  clear hD hT B1 B2 X2 n1 n2 HD
  obtain ⟨E, hE⟩ : ∃ E : Int, (((createS s o.x.name).2 : Nat) : Int) = E := ⟨_, rfl⟩
  rw [hE]
  have HE := Lib.hid hE.symm
  clear hE
  go_wp2_with fail
  have XB : Box (((((w1).setCell ⟨w.heap.size + 1 + 1, 2, none⟩ (.int .i64 E)).setCell ⟨w.heap.size + 1, 0, none⟩ (.slice none 0 0)).setCell ⟨w.heap.size + 1, 1, none⟩ (.int .i64 0)).setCell ⟨w.heap.size + 1, 2, none⟩ (.int .i64 E)) (w.heap.size + 1) 34 #[.slice none 0 0, .int .i64 0, .int .i64 E] := by simpa using ((((X1.far (p := ⟨w.heap.size + 1 + 1, 2, none⟩) (show w.heap.size + 1 ≠ w.heap.size + 1 + 1 by omega) (.int .i64 E)).set 0 (.slice none 0 0)).set 1 (.int .i64 0)).set 2 (.int .i64 E))
  have XO : Only w1 (((((w1).setCell ⟨w.heap.size + 1 + 1, 2, none⟩ (.int .i64 E)).setCell ⟨w.heap.size + 1, 0, none⟩ (.slice none 0 0)).setCell ⟨w.heap.size + 1, 1, none⟩ (.int .i64 0)).setCell ⟨w.heap.size + 1, 2, none⟩ (.int .i64 E)) (fun i => w.heap.size ≤ i ∧ i < w.heap.size + 3) := only_xt w1 (w.heap.size) (w.heap.size + 3) [((⟨w.heap.size + 1 + 1, 2, none⟩ : Addr), (.int .i64 E : Value)), ((⟨w.heap.size + 1, 0, none⟩ : Addr), (.slice none 0 0 : Value)), ((⟨w.heap.size + 1, 1, none⟩ : Addr), (.int .i64 0 : Value)), ((⟨w.heap.size + 1, 2, none⟩ : Addr), (.int .i64 E : Value))] (by simp <;> omega)
  generalize ((((w1).setCell ⟨w.heap.size + 1 + 1, 2, none⟩ (.int .i64 E)).setCell ⟨w.heap.size + 1, 0, none⟩ (.slice none 0 0)).setCell ⟨w.heap.size + 1, 1, none⟩ (.int .i64 0)).setCell ⟨w.heap.size + 1, 2, none⟩ (.int .i64 E) = W4 at *
  have d0 := XB.cell 0 rfl
  have d1 := XB.cell 1 rfl
  have d2 := XB.cell 2 rfl
  refine bodyPost_ret (v := .tuple #[.agg #[.slice none 0 0, .int .i64 0, .int .i64 E], .bool true]) (by simp [results, Tryz.results8, go_sem, d0, d1, d2]) rfl ?_
  exact done_close (by rw [HDO.out]) (by rw [HDO.out]; exact HDD.out) HT.out kW HF.out (by rw [HS3.out]; exact XO) (by rw [HDO.out]; show Ending.returned _ = Ending.returned (.tuple #[.agg #[.slice none 0 0, .int .i64 0, .int .i64 (((createS s o.x.name).2 : Nat) : Int)], .bool true]); rw [← HE.out])

set_option maxHeartbeats 8000000 in
theorem does_remove (K : DiskOk) {w0 w : World} {b : Nat} {F : Nat → Prop} {s : Ds} (hZ : K.Z w0) (h : Have K w0 w b F s) (o : OpS) (ho : OpOk w0 o) (hk : o.x.kind = 1) :
    Calls Tryz.prog 8 #[dpt b, .agg (opA o)] w (DoneV K w b F s o.x) := by
  have hF := K.lt h.D
  have kW := keeps_alloc3 w (.cells (opA o) 39) (.cells #[.slice none 0 0, .int .i64 0, .int .i64 0] 34) (.cells #[.slice none 0 0, .int .i64 0, .int .i64 0] 34)
  have hs3 : (((w.alloc (.cells (opA o) 39)).alloc (.cells #[.slice none 0 0, .int .i64 0, .int .i64 0] 34)).alloc (.cells #[.slice none 0 0, .int .i64 0, .int .i64 0] 34)).heap.size = w.heap.size + 3 := by simp
  have B1 := box_second w (.cells (opA o) 39) 34 #[.slice none 0 0, .int .i64 0, .int .i64 0] (.cells #[.slice none 0 0, .int .i64 0, .int .i64 0] 34)
  have B2 := box_third3 w (.cells (opA o) 39) (.cells #[.slice none 0 0, .int .i64 0, .int .i64 0] 34) 34 #[.slice none 0 0, .int .i64 0, .int .i64 0]
  have C := Lib.hid (K.remove o.x.name (K.keep (h.z hZ) kW) (h.keep kW).D ho.nm )
  have HD : doS s o.x = ((removeS s o.x.name).1, ⟨[], 0, (removeS s o.x.name).2⟩) := by unfold doS; rw [hk]; rfl
  have HF := Lib.hid hF
  have HS3 := Lib.hid hs3
  unfold opA at *
  unfold dpt strV at *
  rw [hk] at *
  clear hF h hs3 ho
  go_enter Tryz.func8, Tryz.ntmps8
  go_wp2_with fail
  refine C.out.mono ?_
  rintro e w1 ⟨rfl, F', hD, hT⟩
  have n1 : ¬ F (w.heap.size + 1) := fun e => by have := HF.out _ e; omega
  have n2 : ¬ F (w.heap.size + 1 + 1) := fun e => by have := HF.out _ e; omega
  have X1 := B1.turned hT n1
  have X2 := B2.turned hT n2
  have c10 := X1.cell 0 rfl
  have c11 := X1.cell 1 rfl
  have c12 := X1.cell 2 rfl
  have f10 := X1.frozen 0
  have f11 := X1.frozen 1
  have f12 := X1.frozen 2
  have c20 := X2.cell 0 rfl
  have c21 := X2.cell 1 rfl
  have c22 := X2.cell 2 rfl
  have f21 := X2.frozen 1
  have f22 := X2.frozen 2
  have HDD := Lib.hid hD
  have HT := Lib.hid hT
  have HDO := Lib.hid HD
  clear hD hT B1 B2 X2 n1 n2 HD
  obtain ⟨E, hE⟩ : ∃ E : Int, (((removeS s o.x.name).2 : Nat) : Int) = E := ⟨_, rfl⟩
  rw [hE]
  have HE := Lib.hid hE.symm
  clear hE
  go_wp2_with fail
  have XB : Box (((((w1).setCell ⟨w.heap.size + 1 + 1, 2, none⟩ (.int .i64 E)).setCell ⟨w.heap.size + 1, 0, none⟩ (.slice none 0 0)).setCell ⟨w.heap.size + 1, 1, none⟩ (.int .i64 0)).setCell ⟨w.heap.size + 1, 2, none⟩ (.int .i64 E)) (w.heap.size + 1) 34 #[.slice none 0 0, .int .i64 0, .int .i64 E] := by simpa using ((((X1.far (p := ⟨w.heap.size + 1 + 1, 2, none⟩) (show w.heap.size + 1 ≠ w.heap.size + 1 + 1 by omega) (.int .i64 E)).set 0 (.slice none 0 0)).set 1 (.int .i64 0)).set 2 (.int .i64 E))
  have XO : Only w1 (((((w1).setCell ⟨w.heap.size + 1 + 1, 2, none⟩ (.int .i64 E)).setCell ⟨w.heap.size + 1, 0, none⟩ (.slice none 0 0)).setCell ⟨w.heap.size + 1, 1, none⟩ (.int .i64 0)).setCell ⟨w.heap.size + 1, 2, none⟩ (.int .i64 E)) (fun i => w.heap.size ≤ i ∧ i < w.heap.size + 3) := only_xt w1 (w.heap.size) (w.heap.size + 3) [((⟨w.heap.size + 1 + 1, 2, none⟩ : Addr), (.int .i64 E : Value)), ((⟨w.heap.size + 1, 0, none⟩ : Addr), (.slice none 0 0 : Value)), ((⟨w.heap.size + 1, 1, none⟩ : Addr), (.int .i64 0 : Value)), ((⟨w.heap.size + 1, 2, none⟩ : Addr), (.int .i64 E : Value))] (by simp <;> omega)
  generalize ((((w1).setCell ⟨w.heap.size + 1 + 1, 2, none⟩ (.int .i64 E)).setCell ⟨w.heap.size + 1, 0, none⟩ (.slice none 0 0)).setCell ⟨w.heap.size + 1, 1, none⟩ (.int .i64 0)).setCell ⟨w.heap.size + 1, 2, none⟩ (.int .i64 E) = W4 at *
  have d0 := XB.cell 0 rfl
  have d1 := XB.cell 1 rfl
  have d2 := XB.cell 2 rfl
  refine bodyPost_ret (v := .tuple #[.agg #[.slice none 0 0, .int .i64 0, .int .i64 E], .bool true]) (by simp [results, Tryz.results8, go_sem, d0, d1, d2]) rfl ?_
  exact done_close (by rw [HDO.out]) (by rw [HDO.out]; exact HDD.out) HT.out kW HF.out (by rw [HS3.out]; exact XO) (by rw [HDO.out]; show Ending.returned _ = Ending.returned (.tuple #[.agg #[.slice none 0 0, .int .i64 0, .int .i64 (((removeS s o.x.name).2 : Nat) : Int)], .bool true]); rw [← HE.out])

set_option maxHeartbeats 8000000 in
theorem does_rename (K : DiskOk) {w0 w : World} {b : Nat} {F : Nat → Prop} {s : Ds} (hZ : K.Z w0) (h : Have K w0 w b F s) (o : OpS) (ho : OpOk w0 o) (hk : o.x.kind = 2) :
    Calls Tryz.prog 8 #[dpt b, .agg (opA o)] w (DoneV K w b F s o.x) := by
  have hF := K.lt h.D
  have kW := keeps_alloc3 w (.cells (opA o) 39) (.cells #[.slice none 0 0, .int .i64 0, .int .i64 0] 34) (.cells #[.slice none 0 0, .int .i64 0, .int .i64 0] 34)
  have hs3 : (((w.alloc (.cells (opA o) 39)).alloc (.cells #[.slice none 0 0, .int .i64 0, .int .i64 0] 34)).alloc (.cells #[.slice none 0 0, .int .i64 0, .int .i64 0] 34)).heap.size = w.heap.size + 3 := by simp
  have B1 := box_second w (.cells (opA o) 39) 34 #[.slice none 0 0, .int .i64 0, .int .i64 0] (.cells #[.slice none 0 0, .int .i64 0, .int .i64 0] 34)
  have B2 := box_third3 w (.cells (opA o) 39) (.cells #[.slice none 0 0, .int .i64 0, .int .i64 0] 34) 34 #[.slice none 0 0, .int .i64 0, .int .i64 0]
  have C := Lib.hid (K.rename o.x.name o.x.to (K.keep (h.z hZ) kW) (h.keep kW).D ho.nm ho.to )
  have HD : doS s o.x = ((renameS s o.x.name o.x.to).1, ⟨[], 0, (renameS s o.x.name o.x.to).2⟩) := by unfold doS; rw [hk]; rfl
  have HF := Lib.hid hF
  have HS3 := Lib.hid hs3
  unfold opA at *
  unfold dpt strV at *
  rw [hk] at *
  clear hF h hs3 ho
  go_enter Tryz.func8, Tryz.ntmps8
  go_wp2_with fail
  refine C.out.mono ?_
  rintro e w1 ⟨rfl, F', hD, hT⟩
  have n1 : ¬ F (w.heap.size + 1) := fun e => by have := HF.out _ e; omega
  have n2 : ¬ F (w.heap.size + 1 + 1) := fun e => by have := HF.out _ e; omega
  have X1 := B1.turned hT n1
  have X2 := B2.turned hT n2
  have c10 := X1.cell 0 rfl
  have c11 := X1.cell 1 rfl
  have c12 := X1.cell 2 rfl
  have f10 := X1.frozen 0
  have f11 := X1.frozen 1
  have f12 := X1.frozen 2
  have c20 := X2.cell 0 rfl
  have c21 := X2.cell 1 rfl
  have c22 := X2.cell 2 rfl
  have f21 := X2.frozen 1
  have f22 := X2.frozen 2
  have HDD := Lib.hid hD
  have HT := Lib.hid hT
  have HDO := Lib.hid HD
  clear hD hT B1 B2 X2 n1 n2 HD
  obtain ⟨E, hE⟩ : ∃ E : Int, (((renameS s o.x.name o.x.to).2 : Nat) : Int) = E := ⟨_, rfl⟩
  rw [hE]
  have HE := Lib.hid hE.symm
  clear hE
  go_wp2_with fail
  have XB : Box (((((w1).setCell ⟨w.heap.size + 1 + 1, 2, none⟩ (.int .i64 E)).setCell ⟨w.heap.size + 1, 0, none⟩ (.slice none 0 0)).setCell ⟨w.heap.size + 1, 1, none⟩ (.int .i64 0)).setCell ⟨w.heap.size + 1, 2, none⟩ (.int .i64 E)) (w.heap.size + 1) 34 #[.slice none 0 0, .int .i64 0, .int .i64 E] := by simpa using ((((X1.far (p := ⟨w.heap.size + 1 + 1, 2, none⟩) (show w.heap.size + 1 ≠ w.heap.size + 1 + 1 by omega) (.int .i64 E)).set 0 (.slice none 0 0)).set 1 (.int .i64 0)).set 2 (.int .i64 E))
  have XO : Only w1 (((((w1).setCell ⟨w.heap.size + 1 + 1, 2, none⟩ (.int .i64 E)).setCell ⟨w.heap.size + 1, 0, none⟩ (.slice none 0 0)).setCell ⟨w.heap.size + 1, 1, none⟩ (.int .i64 0)).setCell ⟨w.heap.size + 1, 2, none⟩ (.int .i64 E)) (fun i => w.heap.size ≤ i ∧ i < w.heap.size + 3) := only_xt w1 (w.heap.size) (w.heap.size + 3) [((⟨w.heap.size + 1 + 1, 2, none⟩ : Addr), (.int .i64 E : Value)), ((⟨w.heap.size + 1, 0, none⟩ : Addr), (.slice none 0 0 : Value)), ((⟨w.heap.size + 1, 1, none⟩ : Addr), (.int .i64 0 : Value)), ((⟨w.heap.size + 1, 2, none⟩ : Addr), (.int .i64 E : Value))] (by simp <;> omega)
  generalize ((((w1).setCell ⟨w.heap.size + 1 + 1, 2, none⟩ (.int .i64 E)).setCell ⟨w.heap.size + 1, 0, none⟩ (.slice none 0 0)).setCell ⟨w.heap.size + 1, 1, none⟩ (.int .i64 0)).setCell ⟨w.heap.size + 1, 2, none⟩ (.int .i64 E) = W4 at *
  have d0 := XB.cell 0 rfl
  have d1 := XB.cell 1 rfl
  have d2 := XB.cell 2 rfl
  refine bodyPost_ret (v := .tuple #[.agg #[.slice none 0 0, .int .i64 0, .int .i64 E], .bool true]) (by simp [results, Tryz.results8, go_sem, d0, d1, d2]) rfl ?_
  exact done_close (by rw [HDO.out]) (by rw [HDO.out]; exact HDD.out) HT.out kW HF.out (by rw [HS3.out]; exact XO) (by rw [HDO.out]; show Ending.returned _ = Ending.returned (.tuple #[.agg #[.slice none 0 0, .int .i64 0, .int .i64 (((renameS s o.x.name o.x.to).2 : Nat) : Int)], .bool true]); rw [← HE.out])

set_option maxHeartbeats 8000000 in
theorem does_cut (K : DiskOk) {w0 w : World} {b : Nat} {F : Nat → Prop} {s : Ds} (hZ : K.Z w0) (h : Have K w0 w b F s) (o : OpS) (ho : OpOk w0 o) (hk : o.x.kind = 4) :
    Calls Tryz.prog 8 #[dpt b, .agg (opA o)] w (DoneV K w b F s o.x) := by
  have hF := K.lt h.D
  have kW := keeps_alloc3 w (.cells (opA o) 39) (.cells #[.slice none 0 0, .int .i64 0, .int .i64 0] 34) (.cells #[.slice none 0 0, .int .i64 0, .int .i64 0] 34)
  have hs3 : (((w.alloc (.cells (opA o) 39)).alloc (.cells #[.slice none 0 0, .int .i64 0, .int .i64 0] 34)).alloc (.cells #[.slice none 0 0, .int .i64 0, .int .i64 0] 34)).heap.size = w.heap.size + 3 := by simp
  have B1 := box_second w (.cells (opA o) 39) 34 #[.slice none 0 0, .int .i64 0, .int .i64 0] (.cells #[.slice none 0 0, .int .i64 0, .int .i64 0] 34)
  have B2 := box_third3 w (.cells (opA o) 39) (.cells #[.slice none 0 0, .int .i64 0, .int .i64 0] 34) 34 #[.slice none 0 0, .int .i64 0, .int .i64 0]
  have C := Lib.hid (K.cut o.x.name o.x.off (K.keep (h.z hZ) kW) (h.keep kW).D ho.nm ho.off.1 ho.off.2)
  have HD : doS s o.x = ((cutS s o.x.name o.x.off).1, ⟨[], 0, (cutS s o.x.name o.x.off).2⟩) := by unfold doS; rw [hk]; rfl
  have HF := Lib.hid hF
  have HS3 := Lib.hid hs3
  unfold opA at *
  unfold dpt strV at *
  rw [hk] at *
  clear hF h hs3 ho
  go_enter Tryz.func8, Tryz.ntmps8
  go_wp2_with fail
  refine C.out.mono ?_
  rintro e w1 ⟨rfl, F', hD, hT⟩
  have n1 : ¬ F (w.heap.size + 1) := fun e => by have := HF.out _ e; omega
  have n2 : ¬ F (w.heap.size + 1 + 1) := fun e => by have := HF.out _ e; omega
  have X1 := B1.turned hT n1
  have X2 := B2.turned hT n2
  have c10 := X1.cell 0 rfl
  have c11 := X1.cell 1 rfl
  have c12 := X1.cell 2 rfl
  have f10 := X1.frozen 0
  have f11 := X1.frozen 1
  have f12 := X1.frozen 2
  have c20 := X2.cell 0 rfl
  have c21 := X2.cell 1 rfl
  have c22 := X2.cell 2 rfl
  have f21 := X2.frozen 1
  have f22 := X2.frozen 2
  have HDD := Lib.hid hD
  have HT := Lib.hid hT
  have HDO := Lib.hid HD
  clear hD hT B1 B2 X2 n1 n2 HD
  obtain ⟨E, hE⟩ : ∃ E : Int, (((cutS s o.x.name o.x.off).2 : Nat) : Int) = E := ⟨_, rfl⟩
  rw [hE]
  have HE := Lib.hid hE.symm
  clear hE
  go_wp2_with fail
  have XB : Box (((((w1).setCell ⟨w.heap.size + 1 + 1, 2, none⟩ (.int .i64 E)).setCell ⟨w.heap.size + 1, 0, none⟩ (.slice none 0 0)).setCell ⟨w.heap.size + 1, 1, none⟩ (.int .i64 0)).setCell ⟨w.heap.size + 1, 2, none⟩ (.int .i64 E)) (w.heap.size + 1) 34 #[.slice none 0 0, .int .i64 0, .int .i64 E] := by simpa using ((((X1.far (p := ⟨w.heap.size + 1 + 1, 2, none⟩) (show w.heap.size + 1 ≠ w.heap.size + 1 + 1 by omega) (.int .i64 E)).set 0 (.slice none 0 0)).set 1 (.int .i64 0)).set 2 (.int .i64 E))
  have XO : Only w1 (((((w1).setCell ⟨w.heap.size + 1 + 1, 2, none⟩ (.int .i64 E)).setCell ⟨w.heap.size + 1, 0, none⟩ (.slice none 0 0)).setCell ⟨w.heap.size + 1, 1, none⟩ (.int .i64 0)).setCell ⟨w.heap.size + 1, 2, none⟩ (.int .i64 E)) (fun i => w.heap.size ≤ i ∧ i < w.heap.size + 3) := only_xt w1 (w.heap.size) (w.heap.size + 3) [((⟨w.heap.size + 1 + 1, 2, none⟩ : Addr), (.int .i64 E : Value)), ((⟨w.heap.size + 1, 0, none⟩ : Addr), (.slice none 0 0 : Value)), ((⟨w.heap.size + 1, 1, none⟩ : Addr), (.int .i64 0 : Value)), ((⟨w.heap.size + 1, 2, none⟩ : Addr), (.int .i64 E : Value))] (by simp <;> omega)
  generalize ((((w1).setCell ⟨w.heap.size + 1 + 1, 2, none⟩ (.int .i64 E)).setCell ⟨w.heap.size + 1, 0, none⟩ (.slice none 0 0)).setCell ⟨w.heap.size + 1, 1, none⟩ (.int .i64 0)).setCell ⟨w.heap.size + 1, 2, none⟩ (.int .i64 E) = W4 at *
  have d0 := XB.cell 0 rfl
  have d1 := XB.cell 1 rfl
  have d2 := XB.cell 2 rfl
  refine bodyPost_ret (v := .tuple #[.agg #[.slice none 0 0, .int .i64 0, .int .i64 E], .bool true]) (by simp [results, Tryz.results8, go_sem, d0, d1, d2]) rfl ?_
  exact done_close (by rw [HDO.out]) (by rw [HDO.out]; exact HDD.out) HT.out kW HF.out (by rw [HS3.out]; exact XO) (by rw [HDO.out]; show Ending.returned _ = Ending.returned (.tuple #[.agg #[.slice none 0 0, .int .i64 0, .int .i64 (((cutS s o.x.name o.x.off).2 : Nat) : Int)], .bool true]); rw [← HE.out])

set_option maxHeartbeats 8000000 in
theorem does_sync (K : DiskOk) {w0 w : World} {b : Nat} {F : Nat → Prop} {s : Ds} (hZ : K.Z w0) (h : Have K w0 w b F s) (o : OpS) (ho : OpOk w0 o) (hk : o.x.kind = 5) :
    Calls Tryz.prog 8 #[dpt b, .agg (opA o)] w (DoneV K w b F s o.x) := by
  have hF := K.lt h.D
  have kW := keeps_alloc3 w (.cells (opA o) 39) (.cells #[.slice none 0 0, .int .i64 0, .int .i64 0] 34) (.cells #[.slice none 0 0, .int .i64 0, .int .i64 0] 34)
  have hs3 : (((w.alloc (.cells (opA o) 39)).alloc (.cells #[.slice none 0 0, .int .i64 0, .int .i64 0] 34)).alloc (.cells #[.slice none 0 0, .int .i64 0, .int .i64 0] 34)).heap.size = w.heap.size + 3 := by simp
  have B1 := box_second w (.cells (opA o) 39) 34 #[.slice none 0 0, .int .i64 0, .int .i64 0] (.cells #[.slice none 0 0, .int .i64 0, .int .i64 0] 34)
  have B2 := box_third3 w (.cells (opA o) 39) (.cells #[.slice none 0 0, .int .i64 0, .int .i64 0] 34) 34 #[.slice none 0 0, .int .i64 0, .int .i64 0]
  have C := Lib.hid (K.sync o.x.name (K.keep (h.z hZ) kW) (h.keep kW).D ho.nm )
  have HD : doS s o.x = ((syncS s o.x.name).1, ⟨[], 0, (syncS s o.x.name).2⟩) := by unfold doS; rw [hk]; rfl
  have HF := Lib.hid hF
  have HS3 := Lib.hid hs3
  unfold opA at *
  unfold dpt strV at *
  rw [hk] at *
  clear hF h hs3 ho
  go_enter Tryz.func8, Tryz.ntmps8
  go_wp2_with fail
  refine C.out.mono ?_
  rintro e w1 ⟨rfl, F', hD, hT⟩
  have n1 : ¬ F (w.heap.size + 1) := fun e => by have := HF.out _ e; omega
  have n2 : ¬ F (w.heap.size + 1 + 1) := fun e => by have := HF.out _ e; omega
  have X1 := B1.turned hT n1
  have X2 := B2.turned hT n2
  have c10 := X1.cell 0 rfl
  have c11 := X1.cell 1 rfl
  have c12 := X1.cell 2 rfl
  have f10 := X1.frozen 0
  have f11 := X1.frozen 1
  have f12 := X1.frozen 2
  have c20 := X2.cell 0 rfl
  have c21 := X2.cell 1 rfl
  have c22 := X2.cell 2 rfl
  have f21 := X2.frozen 1
  have f22 := X2.frozen 2
  have HDD := Lib.hid hD
  have HT := Lib.hid hT
  have HDO := Lib.hid HD
  clear hD hT B1 B2 X2 n1 n2 HD
  obtain ⟨E, hE⟩ : ∃ E : Int, (((syncS s o.x.name).2 : Nat) : Int) = E := ⟨_, rfl⟩
  rw [hE]
  have HE := Lib.hid hE.symm
  clear hE
  go_wp2_with fail
  have XB : Box (((((w1).setCell ⟨w.heap.size + 1 + 1, 2, none⟩ (.int .i64 E)).setCell ⟨w.heap.size + 1, 0, none⟩ (.slice none 0 0)).setCell ⟨w.heap.size + 1, 1, none⟩ (.int .i64 0)).setCell ⟨w.heap.size + 1, 2, none⟩ (.int .i64 E)) (w.heap.size + 1) 34 #[.slice none 0 0, .int .i64 0, .int .i64 E] := by simpa using ((((X1.far (p := ⟨w.heap.size + 1 + 1, 2, none⟩) (show w.heap.size + 1 ≠ w.heap.size + 1 + 1 by omega) (.int .i64 E)).set 0 (.slice none 0 0)).set 1 (.int .i64 0)).set 2 (.int .i64 E))
  have XO : Only w1 (((((w1).setCell ⟨w.heap.size + 1 + 1, 2, none⟩ (.int .i64 E)).setCell ⟨w.heap.size + 1, 0, none⟩ (.slice none 0 0)).setCell ⟨w.heap.size + 1, 1, none⟩ (.int .i64 0)).setCell ⟨w.heap.size + 1, 2, none⟩ (.int .i64 E)) (fun i => w.heap.size ≤ i ∧ i < w.heap.size + 3) := only_xt w1 (w.heap.size) (w.heap.size + 3) [((⟨w.heap.size + 1 + 1, 2, none⟩ : Addr), (.int .i64 E : Value)), ((⟨w.heap.size + 1, 0, none⟩ : Addr), (.slice none 0 0 : Value)), ((⟨w.heap.size + 1, 1, none⟩ : Addr), (.int .i64 0 : Value)), ((⟨w.heap.size + 1, 2, none⟩ : Addr), (.int .i64 E : Value))] (by simp <;> omega)
  generalize ((((w1).setCell ⟨w.heap.size + 1 + 1, 2, none⟩ (.int .i64 E)).setCell ⟨w.heap.size + 1, 0, none⟩ (.slice none 0 0)).setCell ⟨w.heap.size + 1, 1, none⟩ (.int .i64 0)).setCell ⟨w.heap.size + 1, 2, none⟩ (.int .i64 E) = W4 at *
  have d0 := XB.cell 0 rfl
  have d1 := XB.cell 1 rfl
  have d2 := XB.cell 2 rfl
  refine bodyPost_ret (v := .tuple #[.agg #[.slice none 0 0, .int .i64 0, .int .i64 E], .bool true]) (by simp [results, Tryz.results8, go_sem, d0, d1, d2]) rfl ?_
  exact done_close (by rw [HDO.out]) (by rw [HDO.out]; exact HDD.out) HT.out kW HF.out (by rw [HS3.out]; exact XO) (by rw [HDO.out]; show Ending.returned _ = Ending.returned (.tuple #[.agg #[.slice none 0 0, .int .i64 0, .int .i64 (((syncS s o.x.name).2 : Nat) : Int)], .bool true]); rw [← HE.out])

set_option maxHeartbeats 8000000 in
theorem does_quota (K : DiskOk) {w0 w : World} {b : Nat} {F : Nat → Prop} {s : Ds} (hZ : K.Z w0) (h : Have K w0 w b F s) (o : OpS) (ho : OpOk w0 o) (hk : o.x.kind = 8) :
    Calls Tryz.prog 8 #[dpt b, .agg (opA o)] w (DoneV K w b F s o.x) := by
  have hF := K.lt h.D
  have kW := keeps_alloc3 w (.cells (opA o) 39) (.cells #[.slice none 0 0, .int .i64 0, .int .i64 0] 34) (.cells #[.slice none 0 0, .int .i64 0, .int .i64 0] 34)
  have hs3 : (((w.alloc (.cells (opA o) 39)).alloc (.cells #[.slice none 0 0, .int .i64 0, .int .i64 0] 34)).alloc (.cells #[.slice none 0 0, .int .i64 0, .int .i64 0] 34)).heap.size = w.heap.size + 3 := by simp
  have B1 := box_second w (.cells (opA o) 39) 34 #[.slice none 0 0, .int .i64 0, .int .i64 0] (.cells #[.slice none 0 0, .int .i64 0, .int .i64 0] 34)
  have B2 := box_third3 w (.cells (opA o) 39) (.cells #[.slice none 0 0, .int .i64 0, .int .i64 0] 34) 34 #[.slice none 0 0, .int .i64 0, .int .i64 0]
  have C := Lib.hid (K.quota o.x.n (K.keep (h.z hZ) kW) (h.keep kW).D  ho.n.1 ho.n.2)
  have HD : doS s o.x = ((quotaS s o.x.n).1, ⟨[], 0, (quotaS s o.x.n).2⟩) := by unfold doS; rw [hk]; rfl
  have HF := Lib.hid hF
  have HS3 := Lib.hid hs3
  unfold opA at *
  unfold dpt strV at *
  rw [hk] at *
  clear hF h hs3 ho
  go_enter Tryz.func8, Tryz.ntmps8
  go_wp2_with fail
  refine C.out.mono ?_
  rintro e w1 ⟨rfl, F', hD, hT⟩
  have n1 : ¬ F (w.heap.size + 1) := fun e => by have := HF.out _ e; omega
  have n2 : ¬ F (w.heap.size + 1 + 1) := fun e => by have := HF.out _ e; omega
  have X1 := B1.turned hT n1
  have X2 := B2.turned hT n2
  have c10 := X1.cell 0 rfl
  have c11 := X1.cell 1 rfl
  have c12 := X1.cell 2 rfl
  have f10 := X1.frozen 0
  have f11 := X1.frozen 1
  have f12 := X1.frozen 2
  have c20 := X2.cell 0 rfl
  have c21 := X2.cell 1 rfl
  have c22 := X2.cell 2 rfl
  have f21 := X2.frozen 1
  have f22 := X2.frozen 2
  have HDD := Lib.hid hD
  have HT := Lib.hid hT
  have HDO := Lib.hid HD
  clear hD hT B1 B2 X2 n1 n2 HD
  obtain ⟨E, hE⟩ : ∃ E : Int, (((quotaS s o.x.n).2 : Nat) : Int) = E := ⟨_, rfl⟩
  rw [hE]
  have HE := Lib.hid hE.symm
  clear hE
  go_wp2_with fail
  have XB : Box (((((w1).setCell ⟨w.heap.size + 1 + 1, 2, none⟩ (.int .i64 E)).setCell ⟨w.heap.size + 1, 0, none⟩ (.slice none 0 0)).setCell ⟨w.heap.size + 1, 1, none⟩ (.int .i64 0)).setCell ⟨w.heap.size + 1, 2, none⟩ (.int .i64 E)) (w.heap.size + 1) 34 #[.slice none 0 0, .int .i64 0, .int .i64 E] := by simpa using ((((X1.far (p := ⟨w.heap.size + 1 + 1, 2, none⟩) (show w.heap.size + 1 ≠ w.heap.size + 1 + 1 by omega) (.int .i64 E)).set 0 (.slice none 0 0)).set 1 (.int .i64 0)).set 2 (.int .i64 E))
  have XO : Only w1 (((((w1).setCell ⟨w.heap.size + 1 + 1, 2, none⟩ (.int .i64 E)).setCell ⟨w.heap.size + 1, 0, none⟩ (.slice none 0 0)).setCell ⟨w.heap.size + 1, 1, none⟩ (.int .i64 0)).setCell ⟨w.heap.size + 1, 2, none⟩ (.int .i64 E)) (fun i => w.heap.size ≤ i ∧ i < w.heap.size + 3) := only_xt w1 (w.heap.size) (w.heap.size + 3) [((⟨w.heap.size + 1 + 1, 2, none⟩ : Addr), (.int .i64 E : Value)), ((⟨w.heap.size + 1, 0, none⟩ : Addr), (.slice none 0 0 : Value)), ((⟨w.heap.size + 1, 1, none⟩ : Addr), (.int .i64 0 : Value)), ((⟨w.heap.size + 1, 2, none⟩ : Addr), (.int .i64 E : Value))] (by simp <;> omega)
  generalize ((((w1).setCell ⟨w.heap.size + 1 + 1, 2, none⟩ (.int .i64 E)).setCell ⟨w.heap.size + 1, 0, none⟩ (.slice none 0 0)).setCell ⟨w.heap.size + 1, 1, none⟩ (.int .i64 0)).setCell ⟨w.heap.size + 1, 2, none⟩ (.int .i64 E) = W4 at *
  have d0 := XB.cell 0 rfl
  have d1 := XB.cell 1 rfl
  have d2 := XB.cell 2 rfl
  refine bodyPost_ret (v := .tuple #[.agg #[.slice none 0 0, .int .i64 0, .int .i64 E], .bool true]) (by simp [results, Tryz.results8, go_sem, d0, d1, d2]) rfl ?_
  exact done_close (by rw [HDO.out]) (by rw [HDO.out]; exact HDD.out) HT.out kW HF.out (by rw [HS3.out]; exact XO) (by rw [HDO.out]; show Ending.returned _ = Ending.returned (.tuple #[.agg #[.slice none 0 0, .int .i64 0, .int .i64 (((quotaS s o.x.n).2 : Nat) : Int)], .bool true]); rw [← HE.out])

set_option maxHeartbeats 8000000 in
theorem does_arm (K : DiskOk) {w0 w : World} {b : Nat} {F : Nat → Prop} {s : Ds} (hZ : K.Z w0) (h : Have K w0 w b F s) (o : OpS) (ho : OpOk w0 o) (hk : o.x.kind = 9) :
    Calls Tryz.prog 8 #[dpt b, .agg (opA o)] w (DoneV K w b F s o.x) := by
  have hF := K.lt h.D
  have kW := keeps_alloc3 w (.cells (opA o) 39) (.cells #[.slice none 0 0, .int .i64 0, .int .i64 0] 34) (.cells #[.slice none 0 0, .int .i64 0, .int .i64 0] 34)
  have hs3 : (((w.alloc (.cells (opA o) 39)).alloc (.cells #[.slice none 0 0, .int .i64 0, .int .i64 0] 34)).alloc (.cells #[.slice none 0 0, .int .i64 0, .int .i64 0] 34)).heap.size = w.heap.size + 3 := by simp
  have B1 := box_second w (.cells (opA o) 39) 34 #[.slice none 0 0, .int .i64 0, .int .i64 0] (.cells #[.slice none 0 0, .int .i64 0, .int .i64 0] 34)
  have B2 := box_third3 w (.cells (opA o) 39) (.cells #[.slice none 0 0, .int .i64 0, .int .i64 0] 34) 34 #[.slice none 0 0, .int .i64 0, .int .i64 0]
  have C := Lib.hid (K.arm o.x.n (K.keep (h.z hZ) kW) (h.keep kW).D  ho.n.1 ho.n.2)
  have HD : doS s o.x = ((armS s o.x.n).1, ⟨[], 0, (armS s o.x.n).2⟩) := by unfold doS; rw [hk]; rfl
  have HF := Lib.hid hF
  have HS3 := Lib.hid hs3
  unfold opA at *
  unfold dpt strV at *
  rw [hk] at *
  clear hF h hs3 ho
  go_enter Tryz.func8, Tryz.ntmps8
  go_wp2_with fail
  refine C.out.mono ?_
  rintro e w1 ⟨rfl, F', hD, hT⟩
  have n1 : ¬ F (w.heap.size + 1) := fun e => by have := HF.out _ e; omega
  have n2 : ¬ F (w.heap.size + 1 + 1) := fun e => by have := HF.out _ e; omega
  have X1 := B1.turned hT n1
  have X2 := B2.turned hT n2
  have c10 := X1.cell 0 rfl
  have c11 := X1.cell 1 rfl
  have c12 := X1.cell 2 rfl
  have f10 := X1.frozen 0
  have f11 := X1.frozen 1
  have f12 := X1.frozen 2
  have c20 := X2.cell 0 rfl
  have c21 := X2.cell 1 rfl
  have c22 := X2.cell 2 rfl
  have f21 := X2.frozen 1
  have f22 := X2.frozen 2
  have HDD := Lib.hid hD
  have HT := Lib.hid hT
  have HDO := Lib.hid HD
  clear hD hT B1 B2 X2 n1 n2 HD
  obtain ⟨E, hE⟩ : ∃ E : Int, (((armS s o.x.n).2 : Nat) : Int) = E := ⟨_, rfl⟩
  rw [hE]
  have HE := Lib.hid hE.symm
  clear hE
  go_wp2_with fail
  have XB : Box (((((w1).setCell ⟨w.heap.size + 1 + 1, 2, none⟩ (.int .i64 E)).setCell ⟨w.heap.size + 1, 0, none⟩ (.slice none 0 0)).setCell ⟨w.heap.size + 1, 1, none⟩ (.int .i64 0)).setCell ⟨w.heap.size + 1, 2, none⟩ (.int .i64 E)) (w.heap.size + 1) 34 #[.slice none 0 0, .int .i64 0, .int .i64 E] := by simpa using ((((X1.far (p := ⟨w.heap.size + 1 + 1, 2, none⟩) (show w.heap.size + 1 ≠ w.heap.size + 1 + 1 by omega) (.int .i64 E)).set 0 (.slice none 0 0)).set 1 (.int .i64 0)).set 2 (.int .i64 E))
  have XO : Only w1 (((((w1).setCell ⟨w.heap.size + 1 + 1, 2, none⟩ (.int .i64 E)).setCell ⟨w.heap.size + 1, 0, none⟩ (.slice none 0 0)).setCell ⟨w.heap.size + 1, 1, none⟩ (.int .i64 0)).setCell ⟨w.heap.size + 1, 2, none⟩ (.int .i64 E)) (fun i => w.heap.size ≤ i ∧ i < w.heap.size + 3) := only_xt w1 (w.heap.size) (w.heap.size + 3) [((⟨w.heap.size + 1 + 1, 2, none⟩ : Addr), (.int .i64 E : Value)), ((⟨w.heap.size + 1, 0, none⟩ : Addr), (.slice none 0 0 : Value)), ((⟨w.heap.size + 1, 1, none⟩ : Addr), (.int .i64 0 : Value)), ((⟨w.heap.size + 1, 2, none⟩ : Addr), (.int .i64 E : Value))] (by simp <;> omega)
  generalize ((((w1).setCell ⟨w.heap.size + 1 + 1, 2, none⟩ (.int .i64 E)).setCell ⟨w.heap.size + 1, 0, none⟩ (.slice none 0 0)).setCell ⟨w.heap.size + 1, 1, none⟩ (.int .i64 0)).setCell ⟨w.heap.size + 1, 2, none⟩ (.int .i64 E) = W4 at *
  have d0 := XB.cell 0 rfl
  have d1 := XB.cell 1 rfl
  have d2 := XB.cell 2 rfl
  refine bodyPost_ret (v := .tuple #[.agg #[.slice none 0 0, .int .i64 0, .int .i64 E], .bool true]) (by simp [results, Tryz.results8, go_sem, d0, d1, d2]) rfl ?_
  exact done_close (by rw [HDO.out]) (by rw [HDO.out]; exact HDD.out) HT.out kW HF.out (by rw [HS3.out]; exact XO) (by rw [HDO.out]; show Ending.returned _ = Ending.returned (.tuple #[.agg #[.slice none 0 0, .int .i64 0, .int .i64 (((armS s o.x.n).2 : Nat) : Int)], .bool true]); rw [← HE.out])

set_option maxHeartbeats 8000000 in
theorem does_flip (K : DiskOk) {w0 w : World} {b : Nat} {F : Nat → Prop} {s : Ds} (hZ : K.Z w0) (h : Have K w0 w b F s) (o : OpS) (ho : OpOk w0 o) (hk : o.x.kind = 11) :
    Calls Tryz.prog 8 #[dpt b, .agg (opA o)] w (DoneV K w b F s o.x) := by
  have hF := K.lt h.D
  have kW := keeps_alloc3 w (.cells (opA o) 39) (.cells #[.slice none 0 0, .int .i64 0, .int .i64 0] 34) (.cells #[.slice none 0 0, .int .i64 0, .int .i64 0] 34)
  have hs3 : (((w.alloc (.cells (opA o) 39)).alloc (.cells #[.slice none 0 0, .int .i64 0, .int .i64 0] 34)).alloc (.cells #[.slice none 0 0, .int .i64 0, .int .i64 0] 34)).heap.size = w.heap.size + 3 := by simp
  have B1 := box_second w (.cells (opA o) 39) 34 #[.slice none 0 0, .int .i64 0, .int .i64 0] (.cells #[.slice none 0 0, .int .i64 0, .int .i64 0] 34)
  have B2 := box_third3 w (.cells (opA o) 39) (.cells #[.slice none 0 0, .int .i64 0, .int .i64 0] 34) 34 #[.slice none 0 0, .int .i64 0, .int .i64 0]
  have C := Lib.hid (K.flip o.x.name o.x.off o.x.mask (K.keep (h.z hZ) kW) (h.keep kW).D ho.nm ho.off.1 ho.off.2)
  have HD : doS s o.x = ((flipS s o.x.name o.x.off o.x.mask).1, ⟨[], 0, (flipS s o.x.name o.x.off o.x.mask).2⟩) := by unfold doS; rw [hk]; rfl
  have HF := Lib.hid hF
  have HS3 := Lib.hid hs3
  unfold opA at *
  unfold dpt strV at *
  rw [hk] at *
  clear hF h hs3 ho
  go_enter Tryz.func8, Tryz.ntmps8
  go_wp2_with fail
  refine C.out.mono ?_
  rintro e w1 ⟨rfl, F', hD, hT⟩
  have n1 : ¬ F (w.heap.size + 1) := fun e => by have := HF.out _ e; omega
  have n2 : ¬ F (w.heap.size + 1 + 1) := fun e => by have := HF.out _ e; omega
  have X1 := B1.turned hT n1
  have X2 := B2.turned hT n2
  have c10 := X1.cell 0 rfl
  have c11 := X1.cell 1 rfl
  have c12 := X1.cell 2 rfl
  have f10 := X1.frozen 0
  have f11 := X1.frozen 1
  have f12 := X1.frozen 2
  have c20 := X2.cell 0 rfl
  have c21 := X2.cell 1 rfl
  have c22 := X2.cell 2 rfl
  have f21 := X2.frozen 1
  have f22 := X2.frozen 2
  have HDD := Lib.hid hD
  have HT := Lib.hid hT
  have HDO := Lib.hid HD
  clear hD hT B1 B2 X2 n1 n2 HD
  obtain ⟨E, hE⟩ : ∃ E : Int, (((flipS s o.x.name o.x.off o.x.mask).2 : Nat) : Int) = E := ⟨_, rfl⟩
  rw [hE]
  have HE := Lib.hid hE.symm
  clear hE
  go_wp2_with fail
  have XB : Box (((((w1).setCell ⟨w.heap.size + 1 + 1, 2, none⟩ (.int .i64 E)).setCell ⟨w.heap.size + 1, 0, none⟩ (.slice none 0 0)).setCell ⟨w.heap.size + 1, 1, none⟩ (.int .i64 0)).setCell ⟨w.heap.size + 1, 2, none⟩ (.int .i64 E)) (w.heap.size + 1) 34 #[.slice none 0 0, .int .i64 0, .int .i64 E] := by simpa using ((((X1.far (p := ⟨w.heap.size + 1 + 1, 2, none⟩) (show w.heap.size + 1 ≠ w.heap.size + 1 + 1 by omega) (.int .i64 E)).set 0 (.slice none 0 0)).set 1 (.int .i64 0)).set 2 (.int .i64 E))
  have XO : Only w1 (((((w1).setCell ⟨w.heap.size + 1 + 1, 2, none⟩ (.int .i64 E)).setCell ⟨w.heap.size + 1, 0, none⟩ (.slice none 0 0)).setCell ⟨w.heap.size + 1, 1, none⟩ (.int .i64 0)).setCell ⟨w.heap.size + 1, 2, none⟩ (.int .i64 E)) (fun i => w.heap.size ≤ i ∧ i < w.heap.size + 3) := only_xt w1 (w.heap.size) (w.heap.size + 3) [((⟨w.heap.size + 1 + 1, 2, none⟩ : Addr), (.int .i64 E : Value)), ((⟨w.heap.size + 1, 0, none⟩ : Addr), (.slice none 0 0 : Value)), ((⟨w.heap.size + 1, 1, none⟩ : Addr), (.int .i64 0 : Value)), ((⟨w.heap.size + 1, 2, none⟩ : Addr), (.int .i64 E : Value))] (by simp <;> omega)
  generalize ((((w1).setCell ⟨w.heap.size + 1 + 1, 2, none⟩ (.int .i64 E)).setCell ⟨w.heap.size + 1, 0, none⟩ (.slice none 0 0)).setCell ⟨w.heap.size + 1, 1, none⟩ (.int .i64 0)).setCell ⟨w.heap.size + 1, 2, none⟩ (.int .i64 E) = W4 at *
  have d0 := XB.cell 0 rfl
  have d1 := XB.cell 1 rfl
  have d2 := XB.cell 2 rfl
  refine bodyPost_ret (v := .tuple #[.agg #[.slice none 0 0, .int .i64 0, .int .i64 E], .bool true]) (by simp [results, Tryz.results8, go_sem, d0, d1, d2]) rfl ?_
  exact done_close (by rw [HDO.out]) (by rw [HDO.out]; exact HDD.out) HT.out kW HF.out (by rw [HS3.out]; exact XO) (by rw [HDO.out]; show Ending.returned _ = Ending.returned (.tuple #[.agg #[.slice none 0 0, .int .i64 0, .int .i64 (((flipS s o.x.name o.x.off o.x.mask).2 : Nat) : Int)], .bool true]); rw [← HE.out])

set_option maxHeartbeats 8000000 in
theorem does_size (K : DiskOk) {w0 w : World} {b : Nat} {F : Nat → Prop} {s : Ds} (hZ : K.Z w0) (h : Have K w0 w b F s) (o : OpS) (ho : OpOk w0 o) (hk : o.x.kind = 7) :
    Calls Tryz.prog 8 #[dpt b, .agg (opA o)] w (DoneV K w b F s o.x) := by
  have hF := K.lt h.D
  have kW := keeps_alloc3 w (.cells (opA o) 39) (.cells #[.slice none 0 0, .int .i64 0, .int .i64 0] 34) (.cells #[.slice none 0 0, .int .i64 0, .int .i64 0] 34)
  have hs3 : (((w.alloc (.cells (opA o) 39)).alloc (.cells #[.slice none 0 0, .int .i64 0, .int .i64 0] 34)).alloc (.cells #[.slice none 0 0, .int .i64 0, .int .i64 0] 34)).heap.size = w.heap.size + 3 := by simp
  have B1 := box_second w (.cells (opA o) 39) 34 #[.slice none 0 0, .int .i64 0, .int .i64 0] (.cells #[.slice none 0 0, .int .i64 0, .int .i64 0] 34)
  have B2 := box_third3 w (.cells (opA o) 39) (.cells #[.slice none 0 0, .int .i64 0, .int .i64 0] 34) 34 #[.slice none 0 0, .int .i64 0, .int .i64 0]
  have C := Lib.hid (size_turn K o.x.name (K.keep (h.z hZ) kW) (h.keep kW).D ho.nm)
  have HD : doS s o.x = (s, ⟨[], (sizeS s o.x.name).1, (sizeS s o.x.name).2⟩) := by unfold doS; rw [hk]; rfl
  have HF := Lib.hid hF
  have HS3 := Lib.hid hs3
  unfold opA at *
  unfold dpt strV at *
  rw [hk] at *
  clear hF h hs3 ho
  go_enter Tryz.func8, Tryz.ntmps8
  go_wp2_with fail
  refine C.out.mono ?_
  rintro e w1 ⟨rfl, F', hD, hT⟩
  have n1 : ¬ F (w.heap.size + 1) := fun e => by have := HF.out _ e; omega
  have n2 : ¬ F (w.heap.size + 1 + 1) := fun e => by have := HF.out _ e; omega
  have X1 := B1.turned hT n1
  have X2 := B2.turned hT n2
  have c10 := X1.cell 0 rfl
  have c11 := X1.cell 1 rfl
  have c12 := X1.cell 2 rfl
  have f10 := X1.frozen 0
  have f11 := X1.frozen 1
  have f12 := X1.frozen 2
  have c20 := X2.cell 0 rfl
  have c21 := X2.cell 1 rfl
  have c22 := X2.cell 2 rfl
  have f21 := X2.frozen 1
  have f22 := X2.frozen 2
  have HDD := Lib.hid hD
  have HT := Lib.hid hT
  have HDO := Lib.hid HD
  clear hD hT B1 B2 X2 n1 n2 HD
  obtain ⟨E, hE⟩ : ∃ E : Int, (((sizeS s o.x.name).2 : Nat) : Int) = E := ⟨_, rfl⟩
  rw [hE]
  have HE := Lib.hid hE.symm
  clear hE
  obtain ⟨E1, hE1⟩ : ∃ E1 : Int, (((sizeS s o.x.name).1 : Nat) : Int) = E1 := ⟨_, rfl⟩
  rw [hE1]
  have HE1 := Lib.hid hE1.symm
  clear hE1
  go_wp2_with fail
  have XB : Box ((((((w1).setCell ⟨w.heap.size + 1 + 1, 1, none⟩ (.int .i64 E1)).setCell ⟨w.heap.size + 1 + 1, 2, none⟩ (.int .i64 E)).setCell ⟨w.heap.size + 1, 0, none⟩ (.slice none 0 0)).setCell ⟨w.heap.size + 1, 1, none⟩ (.int .i64 E1)).setCell ⟨w.heap.size + 1, 2, none⟩ (.int .i64 E)) (w.heap.size + 1) 34 #[.slice none 0 0, .int .i64 E1, .int .i64 E] := by simpa using (((((X1.far (p := ⟨w.heap.size + 1 + 1, 1, none⟩) (show w.heap.size + 1 ≠ w.heap.size + 1 + 1 by omega) (.int .i64 E1)).far (p := ⟨w.heap.size + 1 + 1, 2, none⟩) (show w.heap.size + 1 ≠ w.heap.size + 1 + 1 by omega) (.int .i64 E)).set 0 (.slice none 0 0)).set 1 (.int .i64 E1)).set 2 (.int .i64 E))
  have XO : Only w1 ((((((w1).setCell ⟨w.heap.size + 1 + 1, 1, none⟩ (.int .i64 E1)).setCell ⟨w.heap.size + 1 + 1, 2, none⟩ (.int .i64 E)).setCell ⟨w.heap.size + 1, 0, none⟩ (.slice none 0 0)).setCell ⟨w.heap.size + 1, 1, none⟩ (.int .i64 E1)).setCell ⟨w.heap.size + 1, 2, none⟩ (.int .i64 E)) (fun i => w.heap.size ≤ i ∧ i < w.heap.size + 3) := only_xt w1 (w.heap.size) (w.heap.size + 3) [((⟨w.heap.size + 1 + 1, 1, none⟩ : Addr), (.int .i64 E1 : Value)), ((⟨w.heap.size + 1 + 1, 2, none⟩ : Addr), (.int .i64 E : Value)), ((⟨w.heap.size + 1, 0, none⟩ : Addr), (.slice none 0 0 : Value)), ((⟨w.heap.size + 1, 1, none⟩ : Addr), (.int .i64 E1 : Value)), ((⟨w.heap.size + 1, 2, none⟩ : Addr), (.int .i64 E : Value))] (by simp <;> omega)
  generalize (((((w1).setCell ⟨w.heap.size + 1 + 1, 1, none⟩ (.int .i64 E1)).setCell ⟨w.heap.size + 1 + 1, 2, none⟩ (.int .i64 E)).setCell ⟨w.heap.size + 1, 0, none⟩ (.slice none 0 0)).setCell ⟨w.heap.size + 1, 1, none⟩ (.int .i64 E1)).setCell ⟨w.heap.size + 1, 2, none⟩ (.int .i64 E) = W4 at *
  have d0 := XB.cell 0 rfl
  have d1 := XB.cell 1 rfl
  have d2 := XB.cell 2 rfl
  refine bodyPost_ret (v := .tuple #[.agg #[.slice none 0 0, .int .i64 E1, .int .i64 E], .bool true]) (by simp [results, Tryz.results8, go_sem, d0, d1, d2]) rfl ?_
  exact done_close (by rw [HDO.out]) (by rw [HDO.out]; exact HDD.out) HT.out kW HF.out (by rw [HS3.out]; exact XO) (by rw [HDO.out]; show Ending.returned _ = Ending.returned (.tuple #[.agg #[.slice none 0 0, .int .i64 (((sizeS s o.x.name).1 : Nat) : Int), .int .i64 (((sizeS s o.x.name).2 : Nat) : Int)], .bool true]); rw [← HE.out, ← HE1.out])
end Go.Proofs.YtjfnpfojboellaaGreat
