/- Something is done with a disk: bytes are written, read, the power comes back; the contract of 'does'. -/
import Derived.Test.YtjfnpfojboellaaGreatLawDisk2
namespace Go.Proofs.YtjfnpfojboellaaGreat
open Go.RowKit
set_option linter.unusedSimpArgs false
set_option linter.unusedVariables false
set_option maxRecDepth 100000

theorem info_int : (Tryz.prog.info? 3).map (fun i => (i.zero, i.size, i.bytes)) = some (some (.int .i64 0), 1, 8) := by kernel_rfl
theorem intC_length (l : List Int) : (intC l).length = l.length := by simp [intC]
theorem intC_one (l : List Int) : ∀ u ∈ intC l, u.oneCell' = true := by
  intro u hu
  obtain ⟨_, _, rfl⟩ := List.mem_map.1 hu
  rfl
/-- what was handed in lies below all that the call has made -/
theorem At.low {w0 w : World} {A : Option Addr} {xs : List Value} (h : At w0 w0.heap.size A xs) (k : Keeps w0 w) : At w w.heap.size A xs := (At.keep h k).more k.size
theorem At.notIn {w0 : World} {A : Option Addr} {xs : List Value} {F : Nat → Prop} (h : At w0 w0.heap.size A xs) (hF : ∀ i, F i → w0.heap.size ≤ i) : xs ≠ [] → ∀ ad, A = some ad → ¬ F ad.block := by
  intro hx ad hA hf
  rcases h with h | ⟨ad', e, hb, -⟩
  · exact hx h
  · obtain rfl := Option.some.inj (hA.symm.trans e)
    have := hF _ hf
    omega
/-- the end of it, whatever was answered -/
theorem done_close2 {K : DiskOk} {w W w1 w2 : World} {b : Nat} {F F' : Nat → Prop} {s : Ds} {o : Opx} {v x : Value}
    (hD : K.D w1 b F' (doS s o).1) (hT : Turns W w1 F F') (k : Keeps w W) (hF : ∀ i, F i → i < w.heap.size) (ho : Only w1 w2 (fun i => w.heap.size ≤ i ∧ ¬ F' i)) (hO : Own w2 w.heap.size 5 1 x (doS s o).2.b.length (cel (doS s o).2.b))
    (hx : ∀ k, x.ownBlock = some k → ¬ F' k)
    (he : Ending.returned v = .returned (.tuple #[.agg #[x, .int .i64 ((doS s o).2.n : Int), .int .i64 ((doS s o).2.e : Int)], .bool true])) : DoneV K w b F s o (.returned v) w2 :=
  ⟨x, F', he, hO, K.same hD (fun i hi => ho.block i (K.lt hD i hi) (fun h => h.2 hi)) ho.size, hT.wrap k hF (ho.weak (fun i h => h.1)), hx⟩

set_option maxHeartbeats 8000000 in
theorem does_on (K : DiskOk) {w0 w : World} {b : Nat} {F : Nat → Prop} {s : Ds} (hZ : K.Z w0) (h : Have K w0 w b F s) (o : OpS) (ho : OpOk w0 o) (hm : o.len2 ≤ 70000) (hk : o.x.kind = 10) :
    Calls Tryz.prog 8 #[dpt b, .agg (opA o)] w (DoneV K w b F s o.x) := by
  obtain ⟨i0, hi, hz0, hz1, hz2⟩ := info_parts info_int
  have hF := K.lt h.D
  have kW := keeps_alloc3 w (.cells (opA o) 39) (.cells #[.slice none 0 0, .int .i64 0, .int .i64 0] 34) (.cells #[.slice none 0 0, .int .i64 0, .int .i64 0] 34)
  have hs3 : (((w.alloc (.cells (opA o) 39)).alloc (.cells #[.slice none 0 0, .int .i64 0, .int .i64 0] 34)).alloc (.cells #[.slice none 0 0, .int .i64 0, .int .i64 0] 34)).heap.size = w.heap.size + 3 := by simp
  have B1 := box_second w (.cells (opA o) 39) 34 #[.slice none 0 0, .int .i64 0, .int .i64 0] (.cells #[.slice none 0 0, .int .i64 0, .int .i64 0] 34)
  have B2 := box_third3 w (.cells (opA o) 39) (.cells #[.slice none 0 0, .int .i64 0, .int .i64 0] 34) 34 #[.slice none 0 0, .int .i64 0, .int .i64 0]
  have HD : doS s o.x = ((onS s o.x.keep).1, ⟨[], 0, (onS s o.x.keep).2⟩) := by unfold doS; rw [hk]; rfl
  have HF := Lib.hid hF
  have KP := Lib.hid (ho.keep.low (keeps_trans h.kp kW))
  have HL := Lib.hid ho.len2
  have HV := Lib.hid h
  have HZ := Lib.hid hZ
  unfold opA at *
  unfold dpt strV at *
  rw [hk] at *
  generalize hWW : (((w.alloc (.cells #[.int .i64 10, .string (str o.x.name), .string (str o.x.to), .int .i64 o.x.off, .int .i64 o.x.n, .slice o.A o.len o.c, .int .u8 (o.x.mask.toNat : Int), .slice o.A2 o.len2 o.c2] 39)).alloc (.cells #[.slice none 0 0, .int .i64 0, .int .i64 0] 34)).alloc (.cells #[.slice none 0 0, .int .i64 0, .int .i64 0] 34)) = WW at *
  have ke := keeps_alloc WW (.cells #[] 3)
  have O0 := Lib.hid (show Own (WW.alloc (.cells #[] 3)) WW.heap.size 3 1 (.slice (some ⟨WW.heap.size, 0, none⟩) 0 0) 0 [] from ⟨rfl, .inr ⟨WW.heap.size, 0, #[], (0, 0), rfl, Nat.le_refl _, heap_alloc_new WW _, .inl rfl, Nat.le_refl _, by simp [maxLen], rfl, rfl⟩⟩)
  have KP2 := Lib.hid (KP.out.low ke)
  have hwh : WW.heap.size = w.heap.size + 1 + 1 + 1 := by rw [← hWW]; simp
  rw [hwh] at O0
  subst hWW
  clear hwh
  clear hF h ho hZ
  go_enter Tryz.func8, Tryz.ntmps8
  go_wp2_with (at_builtin; refine wpList_app _ rfl _ _ 37 rfl (w.heap.size + 1 + 1 + 1) 3 i0 (.int .i64 0) 1 8 Tryz.underlying37 hi hz0 hz1 hz2 rfl (by decide) _ 0 [] rfl O0.out _ o.A2 o.len2 o.c2 (intC o.x.keep) rfl (by rw [intC_length, HL.out, Nat.mul_one]) KP2.out (intC_one _) (by unfold maxLen; omega) (by omega) (by simp) ?_; intro v5 w5 hown5 hg5 hb5)
  have hg5' : ((((w.alloc (.cells #[.int .i64 10, .string (str o.x.name), .string (str o.x.to), .int .i64 o.x.off, .int .i64 o.x.n, .slice o.A o.len o.c, .int .u8 (o.x.mask.toNat : Int), .slice o.A2 o.len2 o.c2] 39)).alloc (.cells #[.slice none 0 0, .int .i64 0, .int .i64 0] 34)).alloc (.cells #[.slice none 0 0, .int .i64 0, .int .i64 0] 34)).alloc (.cells #[] 3)).grownBy w5 (some (w.heap.size + 1 + 1 + 1)) := hg5
  have k5 := Below.grown ke hg5' ke.size (fun g hg => by cases hg; simp)
  have o5 : Own w5 (w.heap.size + 1 + 1 + 1) 3 1 v5 o.len2 (intC o.x.keep) := by simpa using hown5
  obtain ⟨A5, c5, rfl, hc5, -, -, hb6⟩ := o5.form
  have kW5 := keeps_trans kW k5
  have C := Lib.hid (K.on A5 o.len2 c5 o.x.keep (K.keep (HV.out.z HZ.out) kW5) (HV.out.keep kW5).D o5.at_ (fun ad ha hf => by have h1 := (hb6 ad ha).2.1; have h2 := HF.out _ hf; omega) HL.out hc5 hm)
  have KW5 := Lib.hid kW5
  have Y1 := B1.keep k5
  have Y2 := B2.keep k5
  have hsz5 := Lib.hid (show w.heap.size + 3 ≤ w5.heap.size by have := k5.size; rw [hs3] at this; exact this)
  clear hg5 hg5' hb5 hown5 o5 hb6 B1 B2 hs3 kW5
  refine C.out.mono ?_
  rintro e w1 ⟨rfl, F', hD, hT⟩
  have n1 : ¬ F (w.heap.size + 1) := fun e => by have := HF.out _ e; omega
  have n2 : ¬ F (w.heap.size + 1 + 1) := fun e => by have := HF.out _ e; omega
  have X1 := Y1.turned hT n1
  have X2 := Y2.turned hT n2
  have c10 := X1.cell 0 rfl
  have c11 := X1.cell 1 rfl
  have c12 := X1.cell 2 rfl
  have f10 := X1.frozen 0
  have f11 := X1.frozen 1
  have f12 := X1.frozen 2
  have c20 := X2.cell 0 rfl
  have c21 := X2.cell 1 rfl
  have c22 := X2.cell 2 rfl
  have f21 := X2.frozen 1
  have f22 := X2.frozen 2
  have HDD := Lib.hid hD
  have HT := Lib.hid hT
  have HDO := Lib.hid HD
  clear hD hT Y1 Y2 X2 n1 n2 HD k5
  obtain ⟨E, hE⟩ : ∃ E : Int, (((onS s o.x.keep).2 : Nat) : Int) = E := ⟨_, rfl⟩
  rw [hE]
  have HE := Lib.hid hE.symm
  clear hE
  go_wp2_with fail
  have XB : Box (((((w1).setCell ⟨w.heap.size + 1 + 1, 2, none⟩ (.int .i64 E)).setCell ⟨w.heap.size + 1, 0, none⟩ (.slice none 0 0)).setCell ⟨w.heap.size + 1, 1, none⟩ (.int .i64 0)).setCell ⟨w.heap.size + 1, 2, none⟩ (.int .i64 E)) (w.heap.size + 1) 34 #[.slice none 0 0, .int .i64 0, .int .i64 E] := by simpa using ((((X1.far (p := ⟨w.heap.size + 1 + 1, 2, none⟩) (show w.heap.size + 1 ≠ w.heap.size + 1 + 1 by omega) (.int .i64 E)).set 0 (.slice none 0 0)).set 1 (.int .i64 0)).set 2 (.int .i64 E))
  have XO : Only w1 (((((w1).setCell ⟨w.heap.size + 1 + 1, 2, none⟩ (.int .i64 E)).setCell ⟨w.heap.size + 1, 0, none⟩ (.slice none 0 0)).setCell ⟨w.heap.size + 1, 1, none⟩ (.int .i64 0)).setCell ⟨w.heap.size + 1, 2, none⟩ (.int .i64 E)) (fun i => w.heap.size ≤ i ∧ i < w.heap.size + 3) := only_xt w1 (w.heap.size) (w.heap.size + 3) [((⟨w.heap.size + 1 + 1, 2, none⟩ : Addr), (.int .i64 E : Value)), ((⟨w.heap.size + 1, 0, none⟩ : Addr), (.slice none 0 0 : Value)), ((⟨w.heap.size + 1, 1, none⟩ : Addr), (.int .i64 0 : Value)), ((⟨w.heap.size + 1, 2, none⟩ : Addr), (.int .i64 E : Value))] (by simp <;> omega)
  generalize ((((w1).setCell ⟨w.heap.size + 1 + 1, 2, none⟩ (.int .i64 E)).setCell ⟨w.heap.size + 1, 0, none⟩ (.slice none 0 0)).setCell ⟨w.heap.size + 1, 1, none⟩ (.int .i64 0)).setCell ⟨w.heap.size + 1, 2, none⟩ (.int .i64 E) = W4 at *
  have d0 := XB.cell 0 rfl
  have d1 := XB.cell 1 rfl
  have d2 := XB.cell 2 rfl
  refine bodyPost_ret (v := .tuple #[.agg #[.slice none 0 0, .int .i64 0, .int .i64 E], .bool true]) (by simp [results, Tryz.results8, go_sem, d0, d1, d2]) rfl ?_
  exact done_close (by rw [HDO.out]) (by rw [HDO.out]; exact HDD.out) HT.out KW5.out HF.out (XO.weak (fun i hi => ⟨hi.1, by have := hsz5.out; omega⟩)) (by rw [HDO.out]; show Ending.returned _ = Ending.returned (.tuple #[.agg #[.slice none 0 0, .int .i64 0, .int .i64 (((onS s o.x.keep).2 : Nat) : Int)], .bool true]); rw [← HE.out])

theorem Own.only_ {w w' : World} {S : Nat → Prop} {base : Nat} {e : TypeId} {size : Nat} {v : Value} {n : Nat} {xs : List Value} (h : Own w base e size v n xs) (ho : Only w w' S) (hS : ∀ k, v.ownBlock = some k → ¬ S k) : Own w' base e size v n xs :=
  h.same fun k hk => ho.block k (h.lt k hk).2 (hS k hk)
theorem Box.only_ {w w' : World} {S : Nat → Prop} {b : Nat} {T : TypeId} {cs : Array Value} (h : Box w b T cs) (ho : Only w w' S) (hS : ¬ S b) : Box w' b T cs := (ho.block b h.lt hS).trans h
/-- a row is written over, one place after the other -/
structure Over (w3 wr : World) (base : Nat) (v : Value) (n : Nat) : Prop where
  own : ∃ xs, Own wr base 5 1 v n xs
  only : Only w3 wr (fun c => v.ownBlock = some c)
theorem Over.start {w : World} {base : Nat} {v : Value} {n : Nat} {xs : List Value} (h : Own w base 5 1 v n xs) : Over w w base v n := ⟨⟨xs, h⟩, Only.refl _ _⟩
theorem Over.cell {w3 wr : World} {base : Nat} {A : Option Addr} {n c j : Nat} (h : Over w3 wr base (.slice A n c) n) (hj : j < n) : ∃ g u, A = some ⟨g, 0, none⟩ ∧ wr.cell? ⟨g, j, none⟩ = some u ∧ wr.frozen? ⟨g, j, none⟩ = false := by
  obtain ⟨xs, hx⟩ := h.own
  have hl : xs.length = n := by have := hx.1; omega
  obtain ⟨g, hA, hc, hf, -⟩ := hx.cell (j := j) (by omega)
  exact ⟨g, xs[j]'(by omega), hA, by rw [hc, List.getElem?_eq_getElem (by omega)], hf⟩
theorem Over.put {w3 wr : World} {base g n c j : Nat} (h : Over w3 wr base (.slice (some ⟨g, 0, none⟩) n c) n) (hj : j < n) (u : Value) : Over w3 (wr.setCell ⟨g, j, none⟩ u) base (.slice (some ⟨g, 0, none⟩) n c) n := by
  obtain ⟨xs, hx⟩ := h.own
  have hl : xs.length = n := by have := hx.1; omega
  exact ⟨⟨_, hx.store (j := j) (by omega) u⟩, h.only.trans ((Only.cell1 wr ⟨g, j, none⟩ u).weak (T := fun c' => (Value.slice (some ⟨g, 0, none⟩) n c).ownBlock = some c') (fun i e => by simp [Value.ownBlock, e])) (fun i hi => .inl hi)⟩
set_option maxHeartbeats 8000000 in
theorem does_read (K : DiskOk) {w0 w : World} {b : Nat} {F : Nat → Prop} {s : Ds} (hZ : K.Z w0) (h : Have K w0 w b F s) (o : OpS) (ho : OpOk w0 o) (hlen : (readS s o.x.name o.x.off o.x.n).1.length ≤ 20000000) (hk : o.x.kind = 6) :
    Calls Tryz.prog 8 #[dpt b, .agg (opA o)] w (DoneV K w b F s o.x) := by
  have hF := K.lt h.D
  have kW := keeps_alloc3 w (.cells (opA o) 39) (.cells #[.slice none 0 0, .int .i64 0, .int .i64 0] 34) (.cells #[.slice none 0 0, .int .i64 0, .int .i64 0] 34)
  have hs3 : (((w.alloc (.cells (opA o) 39)).alloc (.cells #[.slice none 0 0, .int .i64 0, .int .i64 0] 34)).alloc (.cells #[.slice none 0 0, .int .i64 0, .int .i64 0] 34)).heap.size = w.heap.size + 3 := by simp
  have B1 := box_second w (.cells (opA o) 39) 34 #[.slice none 0 0, .int .i64 0, .int .i64 0] (.cells #[.slice none 0 0, .int .i64 0, .int .i64 0] 34)
  have B2 := box_third3 w (.cells (opA o) 39) (.cells #[.slice none 0 0, .int .i64 0, .int .i64 0] 34) 34 #[.slice none 0 0, .int .i64 0, .int .i64 0]
  have HD : doS s o.x = (s, ⟨(readS s o.x.name o.x.off o.x.n).1, 0, (readS s o.x.name o.x.off o.x.n).2⟩) := by unfold doS; rw [hk]; rfl
  have C := Lib.hid (K.read o.x.name o.x.off o.x.n (K.keep (h.z hZ) kW) (h.keep kW).D ho.nm ho.off.1 ho.off.2 ho.n.1 ho.n.2)
  have HF := Lib.hid hF
  have HV := Lib.hid h
  have HS3 := Lib.hid hs3
  have HDO := Lib.hid HD
  generalize (readS s o.x.name o.x.off o.x.n).1 = L at *
  generalize (readS s o.x.name o.x.off o.x.n).2 = E at *
  unfold opA at *
  unfold dpt strV at *
  rw [hk] at *
  clear hF h ho hZ HD
  go_enter Tryz.func8, Tryz.ntmps8
  go_wp2_with fail
  refine C.out.mono ?_
  rintro e w1 ⟨v1, rfl, o1, k1⟩
  rw [hs3] at o1
  obtain ⟨A1, c1, rfl, hc1, hm1, -, -⟩ := o1.form
  have TW := Lib.hid (twin6_any A1 L.length c1 L w1 o1.at_ rfl hlen)
  have O1 := Lib.hid o1
  have Y1 := B1.keep k1
  have Y2 := B2.keep k1
  clear B1 B2 o1
  go_wp2_with fail
  refine TW.out.mono ?_
  rintro e w2 ⟨v2, rfl, o2, k2⟩
  have X1 := Y1.keep k2
  have X2 := Y2.keep k2
  have c20 := X2.cell 0 rfl
  have c21 := X2.cell 1 rfl
  have c22 := X2.cell 2 rfl
  have f20 := X2.frozen 0
  have f22 := X2.frozen 2
  have O2 := Lib.hid o2
  have O12 := Lib.hid (O1.out.keep k2)
  obtain ⟨A2, c2, rfl, -⟩ := o2.form
  clear Y1 Y2 o2
  have W1 := Lib.hid (show w.heap.size + 3 ≤ w1.heap.size by have := k1.size; rw [hs3] at this; exact this)
  have KA := Lib.hid (keeps_trans k1 k2)
  clear hs3
  go_wp2_with fail
  have Z2 : Box ((w2.setCell ⟨w.heap.size + 1 + 1, 0, none⟩ (.slice A2 L.length c2)).setCell ⟨w.heap.size + 1 + 1, 2, none⟩ (.int .i64 E)) (w.heap.size + 1 + 1) 34 #[.slice A2 L.length c2, .int .i64 0, .int .i64 E] := by simpa using (X2.set 0 (.slice A2 L.length c2)).set 2 (.int .i64 E)
  have XO0 : Only w2 ((w2.setCell ⟨w.heap.size + 1 + 1, 0, none⟩ (.slice A2 L.length c2)).setCell ⟨w.heap.size + 1 + 1, 2, none⟩ (.int .i64 E)) (fun i => w.heap.size + 1 + 1 ≤ i ∧ i < w.heap.size + 1 + 1 + 1) := only_xt w2 (w.heap.size + 1 + 1) (w.heap.size + 1 + 1 + 1) [((⟨w.heap.size + 1 + 1, 0, none⟩ : Addr), (.slice A2 L.length c2 : Value)), ((⟨w.heap.size + 1 + 1, 2, none⟩ : Addr), (.int .i64 E : Value))] (by simp)
  have Z1 := X1.only_ XO0 (by omega)
  generalize (w2.setCell ⟨w.heap.size + 1 + 1, 0, none⟩ (.slice A2 L.length c2)).setCell ⟨w.heap.size + 1 + 1, 2, none⟩ (.int .i64 E) = w3 at *
  have P12 := Lib.hid (O12.out.only_ XO0 (fun k hk hs => by have := (O12.out.lt k hk).1; omega))
  have P2 := Lib.hid (O2.out.only_ XO0 (fun k hk hs => by have := (O2.out.lt k hk).1; have := W1.out; omega))
  have V1 := Lib.hid (fun k hk => (O1.out.lt k hk))
  have V2 := Lib.hid (fun k hk => (O2.out.lt k hk).1)
  have ZZ1 := Lib.hid Z1
  have ZZ2 := Lib.hid Z2
  have XX0 := Lib.hid XO0
  clear c20 c21 c22 f20 f22 X1 X2 Z1 Z2 XO0 O12 O2 O1
  go_loopw [12] (fun i wr => ∃ j : Nat, j ≤ L.length ∧ i = .int .i64 j ∧ Over w3 wr (w.heap.size + 3) (.slice A1 L.length c1) L.length) (fun i _ => L.length - (intOf i).toNat)
  case atStart => exact ⟨0, Nat.zero_le _, rfl, Over.start P12.out⟩
  case round =>
    obtain ⟨j, hj, rfl, hov⟩ := hrel
    by_cases hlt : j < L.length
    · obtain ⟨g, u, rfl, hc, hf⟩ := hov.cell hlt
      have hjn : (j : Int) < (L.length : Int) := by omega
      have OV := Lib.hid (hov.put hlt (.int .u8 238))
      clear hov
      go_wp2_with fail
      go_roundw
      case rel => exact ⟨j + 1, by omega, by go_num, OV.out⟩
      case measure => simp [intOf]; omega
    · obtain rfl : j = L.length := by omega
      have HON := Lib.hid hov.only
      have R1 := ZZ1.out.only_ hov.only (fun e => by have := (V1.out _ e).1; omega)
      have R2 := ZZ2.out.only_ hov.only (fun e => by have := (V1.out _ e).1; omega)
      have c10 := R1.cell 0 rfl
      have c11 := R1.cell 1 rfl
      have c12 := R1.cell 2 rfl
      have f10 := R1.frozen 0
      have f11 := R1.frozen 1
      have f12 := R1.frozen 2
      have c20 := R2.cell 0 rfl
      have c21 := R2.cell 1 rfl
      have c22 := R2.cell 2 rfl
      have RR1 := Lib.hid R1
      clear hov hlt hj R1 R2
      go_wp2_with fail
      have XB : Box (((wr.setCell ⟨w.heap.size + 1, 0, none⟩ (.slice A2 L.length c2)).setCell ⟨w.heap.size + 1, 1, none⟩ (.int .i64 0)).setCell ⟨w.heap.size + 1, 2, none⟩ (.int .i64 E)) (w.heap.size + 1) 34 #[.slice A2 L.length c2, .int .i64 0, .int .i64 E] := by simpa using ((RR1.out.set 0 (.slice A2 L.length c2)).set 1 (.int .i64 0)).set 2 (.int .i64 E)
      have XO : Only wr (((wr.setCell ⟨w.heap.size + 1, 0, none⟩ (.slice A2 L.length c2)).setCell ⟨w.heap.size + 1, 1, none⟩ (.int .i64 0)).setCell ⟨w.heap.size + 1, 2, none⟩ (.int .i64 E)) (fun i => w.heap.size + 1 ≤ i ∧ i < w.heap.size + 1 + 1) := only_xt wr (w.heap.size + 1) (w.heap.size + 1 + 1) [((⟨w.heap.size + 1, 0, none⟩ : Addr), (.slice A2 L.length c2 : Value)), ((⟨w.heap.size + 1, 1, none⟩ : Addr), (.int .i64 0 : Value)), ((⟨w.heap.size + 1, 2, none⟩ : Addr), (.int .i64 E : Value))] (by simp)
      generalize ((wr.setCell ⟨w.heap.size + 1, 0, none⟩ (.slice A2 L.length c2)).setCell ⟨w.heap.size + 1, 1, none⟩ (.int .i64 0)).setCell ⟨w.heap.size + 1, 2, none⟩ (.int .i64 E) = W4 at *
      have d0 := XB.cell 0 rfl
      have d1 := XB.cell 1 rfl
      have d2 := XB.cell 2 rfl
      refine bodyPost_ret (v := .tuple #[.agg #[.slice A2 L.length c2, .int .i64 0, .int .i64 E], .bool true]) (by simp [results, Tryz.results8, go_sem, d0, d1, d2]) rfl ?_
      have T1 := ((Only.of_keeps KA.out).weak (T := fun i => w.heap.size ≤ i ∧ ¬ F i) (fun _ e => e.elim)).trans XX0.out (fun i hi => .inl ⟨by omega, fun e => by have := HF.out _ e; omega⟩)
      have T2 := T1.trans HON.out (fun i hi => .inl ⟨by have := (V1.out i hi).1; omega, fun e => by have := HF.out _ e; have := (V1.out i hi).1; omega⟩)
      have T3 := T2.trans XO (fun i hi => .inl ⟨by omega, fun e => by have := HF.out _ e; omega⟩)
      have PP := (P2.out.only_ HON.out (fun q hq hs => by have h1 := V2.out q hq; have h2 := (V1.out q hs).2; omega)).only_ XO (fun q hq hs => by have h1 := V2.out q hq; have h2 := W1.out; omega)
      refine done_close2 (F' := F) (by rw [HDO.out]; exact (HV.out.keep kW).D) (Turns.refl _ _) kW HF.out T3 (by rw [HDO.out]; exact PP.base_le (by have := W1.out; omega)) (fun q hq e => by have h1 := V2.out q hq; have h2 := HF.out _ e; have h3 := W1.out; omega) (by rw [HDO.out]; rfl)

theorem box_first3 (w : World) (cs : Array Value) (T : TypeId) (y z : Obj) : Box (((w.alloc (.cells cs T)).alloc y).alloc z) w.heap.size T cs := ((Box.new w T cs).keep (keeps_alloc _ y)).keep (keeps_alloc _ z)
set_option maxHeartbeats 8000000 in
theorem does_write (K : DiskOk) {w0 w : World} {b : Nat} {F : Nat → Prop} {s : Ds} (hZ : K.Z w0) (h : Have K w0 w b F s) (o : OpS) (ho : OpOk w0 o) (hm : o.len ≤ 70000) (hk : o.x.kind = 3) :
    Calls Tryz.prog 8 #[dpt b, .agg (opA o)] w (DoneV K w b F s o.x) := by
  have hF := K.lt h.D
  have kW := keeps_alloc3 w (.cells (opA o) 39) (.cells #[.slice none 0 0, .int .i64 0, .int .i64 0] 34) (.cells #[.slice none 0 0, .int .i64 0, .int .i64 0] 34)
  have hs3 : (((w.alloc (.cells (opA o) 39)).alloc (.cells #[.slice none 0 0, .int .i64 0, .int .i64 0] 34)).alloc (.cells #[.slice none 0 0, .int .i64 0, .int .i64 0] 34)).heap.size = w.heap.size + 3 := by simp
  have B1 := box_second w (.cells (opA o) 39) 34 #[.slice none 0 0, .int .i64 0, .int .i64 0] (.cells #[.slice none 0 0, .int .i64 0, .int .i64 0] 34)
  have B2 := box_third3 w (.cells (opA o) 39) (.cells #[.slice none 0 0, .int .i64 0, .int .i64 0] 34) 34 #[.slice none 0 0, .int .i64 0, .int .i64 0]
  have B0 := (box_first3 w (opA o) 39 (.cells #[.slice none 0 0, .int .i64 0, .int .i64 0] 34) (.cells #[.slice none 0 0, .int .i64 0, .int .i64 0] 34))
  have HD : doS s o.x = ((writeS s o.x.name o.x.off o.x.b).1, ⟨[], 0, (writeS s o.x.name o.x.off o.x.b).2⟩) := by unfold doS; rw [hk]; rfl
  have TW := Lib.hid (twin6_any o.A o.len o.c o.x.b _ (ho.b.low (keeps_trans h.kp kW)) ho.len (by omega))
  have HF := Lib.hid hF
  have HV := Lib.hid h
  have HO := Lib.hid ho
  have HZ := Lib.hid hZ
  have HDO := Lib.hid HD
  obtain ⟨E, hE⟩ : ∃ E : Nat, (writeS s o.x.name o.x.off o.x.b).2 = E := ⟨_, rfl⟩
  have HE := Lib.hid hE
  unfold opA at *
  unfold dpt strV at *
  rw [hk] at *
  have hbl : o.x.b.length ≤ 70000 := by have := ho.len; omega
  clear hF h ho hZ HD hE
  go_enter Tryz.func8, Tryz.ntmps8
  go_wp2_with fail
  refine TW.out.mono ?_
  rintro e w1 ⟨v1, rfl, o1, k1⟩
  rw [hs3] at o1
  obtain ⟨A1, c1, rfl, hc1, hm1, -, hb1⟩ := o1.form
  have kW1 := keeps_trans kW k1
  have WR := Lib.hid (K.write o.x.name o.x.off A1 o.x.b.length c1 o.x.b (K.keep (HV.out.z HZ.out) kW1) (HV.out.keep kW1).D HO.out.nm HO.out.off.1 HO.out.off.2 o1.at_ (fun ad ha hf => by have h1 := (hb1 ad ha).2.1; have h2 := HF.out _ hf; omega) rfl hc1 (by have := HO.out.len; omega))
  rw [HE.out] at WR
  unfold dpt strV at WR
  have KW1 := Lib.hid kW1
  have O1 := Lib.hid o1
  have Y0 := B0.keep k1
  have Y1 := B1.keep k1
  have Y2 := B2.keep k1
  have W1 := Lib.hid (show w.heap.size + 3 ≤ w1.heap.size by have := k1.size; rw [hs3] at this; exact this)
  have b0 := Y0.cell 0 rfl
  have b1 := Y0.cell 1 rfl
  have b3 := Y0.cell 3 rfl
  have b5 := Y0.cell 5 rfl
  clear B0 B1 B2 o1 hb1 hs3 kW1
  go_wp2_with fail
  refine WR.out.mono ?_
  rintro e w2 ⟨rfl, F', hD, hT⟩
  have n0 : ¬ F (w.heap.size) := fun e => by have := HF.out _ e; omega
  have n1 : ¬ F (w.heap.size + 1) := fun e => by have := HF.out _ e; omega
  have n2 : ¬ F (w.heap.size + 1 + 1) := fun e => by have := HF.out _ e; omega
  have X0 := Y0.turned hT n0
  have X1 := Y1.turned hT n1
  have X2 := Y2.turned hT n2
  have e5 := X0.cell 5 rfl
  have c22 := X2.cell 2 rfl
  have f22 := X2.frozen 2
  have O2 := Lib.hid (O1.out.turns hT (fun q hq hf => by have h1 := (O1.out.lt q hq).1; have h2 := HF.out _ hf; omega))
  have HDD := Lib.hid hD
  have HT := Lib.hid hT
  have N12 := Lib.hid (show ¬ F' (w.heap.size + 1) ∧ ¬ F' (w.heap.size + 1 + 1) from ⟨hT.notIn (by have := W1.out; omega) n1, hT.notIn (by have := W1.out; omega) n2⟩)
  have NV := Lib.hid (fun q hq => hT.notIn (O1.out.lt q hq).2 (fun hf => by have h1 := (O1.out.lt q hq).1; have h2 := HF.out _ hf; omega))
  have K02 := Lib.hid (hT.keeps (keeps_trans HV.out.kp KW1.out) HV.out.low)
  clear hD hT n0 n1 n2 Y0 Y1 Y2 b0 b1 b3 b5
  -- the words that are told, and the two rows compared
  have Z2 : Box (w2.setCell ⟨w.heap.size + 1 + 1, 2, none⟩ (.int .i64 E)) (w.heap.size + 1 + 1) 34 #[.slice none 0 0, .int .i64 0, .int .i64 E] := by simpa using X2.set 2 (.int .i64 E)
  have XO0 : Only w2 (w2.setCell ⟨w.heap.size + 1 + 1, 2, none⟩ (.int .i64 E)) (fun i => w.heap.size + 1 + 1 ≤ i ∧ i < w.heap.size + 1 + 1 + 1) := only_xt w2 (w.heap.size + 1 + 1) (w.heap.size + 1 + 1 + 1) [((⟨w.heap.size + 1 + 1, 2, none⟩ : Addr), (.int .i64 E : Value))] (by simp)
  have Z0 := X0.only_ XO0 (by omega)
  have Z1 := X1.only_ XO0 (by omega)
  have O3 := O2.out.only_ XO0 (fun q hq hs => by have := (O1.out.lt q hq).1; omega)
  have K03 : Keeps w0 (w2.setCell ⟨w.heap.size + 1 + 1, 2, none⟩ (.int .i64 E)) := Below.trans K02.out (XO0.below (fun q hq => by have := HV.out.kp.size; omega) K02.out.size)
  have SM := Lib.hid (same6_any A1 o.x.b.length c1 o.x.b o.A o.len o.c o.x.b (w2.setCell ⟨w.heap.size + 1 + 1, 2, none⟩ (.int .i64 E)) O3.at_ rfl (HO.out.b.low K03) HO.out.len (by have := HO.out.len; omega))
  have z5 := Z0.cell 5 rfl
  rw [decide_eq_true rfl] at SM
  have ZZ1 := Lib.hid Z1
  have ZZ2 := Lib.hid Z2
  have XX0 := Lib.hid XO0
  have P3 := Lib.hid O3
  clear X0 X1 X2 Z0 Z1 Z2 XO0 O3 O2 K03
  go_wp2_with fail
  refine SM.out.mono ?_
  rintro e w4 ⟨rfl, k4⟩
  have V1 := Lib.hid (fun q hq => O1.out.lt q hq)
  have P4 := Lib.hid (P3.out.keep k4)
  have Q1 := Lib.hid (ZZ1.out.keep k4)
  have Q2 := Lib.hid (ZZ2.out.keep k4)
  have K4 := Lib.hid k4
  clear e5 c22 f22 z5 SM P3 ZZ1 ZZ2 O1 k4
  go_wp2_with fail
  go_loopw [9] (fun i wr => ∃ j : Nat, j ≤ o.x.b.length ∧ i = .int .i64 j ∧ Over w4 wr (w.heap.size + 3) (.slice A1 o.x.b.length c1) o.x.b.length) (fun i _ => o.x.b.length - (intOf i).toNat)
  case atStart => exact ⟨0, Nat.zero_le _, rfl, Over.start P4.out⟩
  case round =>
    obtain ⟨j, hj, rfl, hov⟩ := hrel
    by_cases hlt : j < o.x.b.length
    · obtain ⟨g, u, rfl, hc, hf⟩ := hov.cell hlt
      have hjn : (j : Int) < (o.x.b.length : Int) := by omega
      have OV := Lib.hid (hov.put hlt (.int .u8 237))
      clear hov
      go_wp2_with fail
      go_roundw
      case rel => exact ⟨j + 1, by omega, by go_num, OV.out⟩
      case measure => simp [intOf]; omega
    · obtain rfl : j = o.x.b.length := by omega
      have HON := Lib.hid hov.only
      have R1 := Q1.out.only_ hov.only (fun e => by have := (V1.out _ e).1; omega)
      have R2 := Q2.out.only_ hov.only (fun e => by have := (V1.out _ e).1; omega)
      have c10 := R1.cell 0 rfl
      have c11 := R1.cell 1 rfl
      have c12 := R1.cell 2 rfl
      have f10 := R1.frozen 0
      have f11 := R1.frozen 1
      have f12 := R1.frozen 2
      have c20 := R2.cell 0 rfl
      have c21 := R2.cell 1 rfl
      have c22 := R2.cell 2 rfl
      have RR1 := Lib.hid R1
      clear hov hlt hj R1 R2
      go_wp2_with fail
      have XB : Box (((wr.setCell ⟨w.heap.size + 1, 0, none⟩ (.slice none 0 0)).setCell ⟨w.heap.size + 1, 1, none⟩ (.int .i64 0)).setCell ⟨w.heap.size + 1, 2, none⟩ (.int .i64 E)) (w.heap.size + 1) 34 #[.slice none 0 0, .int .i64 0, .int .i64 E] := by simpa using ((RR1.out.set 0 (.slice none 0 0)).set 1 (.int .i64 0)).set 2 (.int .i64 E)
      have XO : Only wr (((wr.setCell ⟨w.heap.size + 1, 0, none⟩ (.slice none 0 0)).setCell ⟨w.heap.size + 1, 1, none⟩ (.int .i64 0)).setCell ⟨w.heap.size + 1, 2, none⟩ (.int .i64 E)) (fun i => w.heap.size + 1 ≤ i ∧ i < w.heap.size + 1 + 1) := only_xt wr (w.heap.size + 1) (w.heap.size + 1 + 1) [((⟨w.heap.size + 1, 0, none⟩ : Addr), (.slice none 0 0 : Value)), ((⟨w.heap.size + 1, 1, none⟩ : Addr), (.int .i64 0 : Value)), ((⟨w.heap.size + 1, 2, none⟩ : Addr), (.int .i64 E : Value))] (by simp)
      generalize ((wr.setCell ⟨w.heap.size + 1, 0, none⟩ (.slice none 0 0)).setCell ⟨w.heap.size + 1, 1, none⟩ (.int .i64 0)).setCell ⟨w.heap.size + 1, 2, none⟩ (.int .i64 E) = W4 at *
      have d0 := XB.cell 0 rfl
      have d1 := XB.cell 1 rfl
      have d2 := XB.cell 2 rfl
      refine bodyPost_ret (v := .tuple #[.agg #[.slice none 0 0, .int .i64 0, .int .i64 E], .bool true]) (by simp [results, Tryz.results8, go_sem, d0, d1, d2]) rfl ?_
      have T0 := XX0.out.weak (T := fun i => w.heap.size ≤ i ∧ ¬ F' i) (fun i hi => ⟨by omega, by have := N12.out.2; have e : i = w.heap.size + 1 + 1 := (by omega); rw [e]; exact this⟩)
      have T1 := T0.keep K4.out
      have T2 := T1.trans HON.out (fun i hi => .inl ⟨by have := (V1.out i hi).1; omega, NV.out i hi⟩)
      have T3 := T2.trans XO (fun i hi => .inl ⟨by omega, by have := N12.out.1; have e : i = w.heap.size + 1 := (by omega); rw [e]; exact this⟩)
      exact done_close2 (F' := F') (by rw [HDO.out]; exact HDD.out) HT.out KW1.out HF.out T3 (by rw [HDO.out]; exact Own.nil _ _ _ _) (fun q hq => by simp [Value.ownBlock] at hq) (by rw [HDO.out]; simp only [HE.out]; rfl)

theorem readS_len {s : Ds} (h : DsOk s) (nm : List UInt8) (off n : Int) : (readS s nm off n).1.length ≤ 16777216 := by
  unfold readS
  split
  · simp
  · split
    · simp
    · split
      · simp
      · rename_i f hf
        have := (h.files f (List.mem_of_find?_eq_some hf)).size
        simp only [List.length_take, List.length_drop]
        omega
set_option maxHeartbeats 8000000 in
theorem does_none (K : DiskOk) {w0 w : World} {b : Nat} {F : Nat → Prop} {s : Ds} (h : Have K w0 w b F s) (o : OpS) (hk : o.x.kind < 0 ∨ 11 < o.x.kind) :
    Calls Tryz.prog 8 #[dpt b, .agg (opA o)] w (DoneV K w b F s o.x) := by
  have hF := K.lt h.D
  have kW := keeps_alloc3 w (.cells (opA o) 39) (.cells #[.slice none 0 0, .int .i64 0, .int .i64 0] 34) (.cells #[.slice none 0 0, .int .i64 0, .int .i64 0] 34)
  have B1 := box_second w (.cells (opA o) 39) 34 #[.slice none 0 0, .int .i64 0, .int .i64 0] (.cells #[.slice none 0 0, .int .i64 0, .int .i64 0] 34)
  have HD : doS s o.x = (s, ⟨[], 0, 0⟩) := by
    unfold doS
    rw [if_neg (by omega), if_neg (by omega), if_neg (by omega), if_neg (by omega), if_neg (by omega), if_neg (by omega), if_neg (by omega), if_neg (by omega), if_neg (by omega), if_neg (by omega), if_neg (by omega), if_neg (by omega)]
  have HF := Lib.hid hF
  have HV := Lib.hid h
  have HDO := Lib.hid HD
  have q0 : (o.x.kind == 0) = false := by rw [beq_eq_false_iff_ne]; omega
  have q1 : (o.x.kind == 1) = false := by rw [beq_eq_false_iff_ne]; omega
  have q2 : (o.x.kind == 2) = false := by rw [beq_eq_false_iff_ne]; omega
  have q3 : (o.x.kind == 3) = false := by rw [beq_eq_false_iff_ne]; omega
  have q4 : (o.x.kind == 4) = false := by rw [beq_eq_false_iff_ne]; omega
  have q5 : (o.x.kind == 5) = false := by rw [beq_eq_false_iff_ne]; omega
  have q6 : (o.x.kind == 6) = false := by rw [beq_eq_false_iff_ne]; omega
  have q7 : (o.x.kind == 7) = false := by rw [beq_eq_false_iff_ne]; omega
  have q8 : (o.x.kind == 8) = false := by rw [beq_eq_false_iff_ne]; omega
  have q9 : (o.x.kind == 9) = false := by rw [beq_eq_false_iff_ne]; omega
  have q10 : (o.x.kind == 10) = false := by rw [beq_eq_false_iff_ne]; omega
  have q11 : (o.x.kind == 11) = false := by rw [beq_eq_false_iff_ne]; omega
  unfold opA at *
  unfold dpt strV at *
  clear hF h HD hk
  go_enter Tryz.func8, Tryz.ntmps8
  go_wp2_with fail
  refine bodyPost_ret (v := .tuple #[.agg #[.slice none 0 0, .int .i64 0, .int .i64 0], .bool true]) (by simp [results, Tryz.results8, go_sem]) rfl ?_
  exact ⟨.slice none 0 0, F, by rw [HDO.out]; rfl, by rw [HDO.out]; exact Own.nil _ _ _ _, by rw [HDO.out]; exact (HV.out.keep kW).D, Turns.of_keeps kW, fun q hq => by simp [Value.ownBlock] at hq⟩
/-- whatever is done -/
theorem does_any (K : DiskOk) {w0 w : World} {b : Nat} {F : Nat → Prop} {s : Ds} (hZ : K.Z w0) (h : Have K w0 w b F s) (o : OpS) (ho : OpOk w0 o) (hm : o.len ≤ 70000) (hm2 : o.len2 ≤ 70000) :
    Calls Tryz.prog 8 #[dpt b, .agg (opA o)] w (DoneV K w b F s o.x) := by
  by_cases hr : o.x.kind < 0 ∨ 11 < o.x.kind
  · exact does_none K h o hr
  · rcases (show o.x.kind = 0 ∨ o.x.kind = 1 ∨ o.x.kind = 2 ∨ o.x.kind = 3 ∨ o.x.kind = 4 ∨ o.x.kind = 5 ∨ o.x.kind = 6 ∨ o.x.kind = 7 ∨ o.x.kind = 8 ∨ o.x.kind = 9 ∨ o.x.kind = 10 ∨ o.x.kind = 11 by omega) with e | e | e | e | e | e | e | e | e | e | e | e
    · exact does_create K hZ h o ho e
    · exact does_remove K hZ h o ho e
    · exact does_rename K hZ h o ho e
    · exact does_write K hZ h o ho hm e
    · exact does_cut K hZ h o ho e
    · exact does_sync K hZ h o ho e
    · exact does_read K hZ h o ho (by have := readS_len (K.ok h.D) o.x.name o.x.off o.x.n; omega) e
    · exact does_size K hZ h o ho e
    · exact does_quota K hZ h o ho e
    · exact does_arm K hZ h o ho e
    · exact does_on K hZ h o ho hm2 e
    · exact does_flip K hZ h o ho e
end Go.Proofs.YtjfnpfojboellaaGreat
