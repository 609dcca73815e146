/- The reference's disk: a file is taken out of its row. -/
import Derived.Test.YtkhfffflegiapaaGreatDoorQRefD
namespace Go.Proofs.YtkhfffflegiapaaGreatDoor
open Go.RowKit
set_option linter.unusedSimpArgs false
set_option linter.unusedVariables false
set_option maxRecDepth 100000

theorem info_rf : (Tryz.prog.info? 155).map (fun i => (i.zero, i.size, i.bytes)) = some (some (.agg #[.string ⟨#[]⟩, .slice none 0 0, .slice none 0 0, .slice none 0 0]), 4, 88) := by kernel_rfl
theorem size_rf : (Tryz.prog.info? 155).map (·.size) = some 4 := by kernel_rfl
theorem entR_take (es : List Ent) (k : Nat) : entR (es.take k) = (entR es).take (k * 4) := by
  induction es generalizing k with
  | nil => simp [entR]
  | cons e es ih =>
    rcases k with _ | k
    · simp [entR]
    · have := ih k
      show entC e ++ entR (es.take k) = (entC e ++ entR es).take ((k + 1) * 4)
      have h4 : (entC e).length = 4 := rfl
      rw [this, List.take_append, List.take_of_length_le (l := entC e) (by rw [h4]; omega), h4, show (k + 1) * 4 - 4 = k * 4 by omega]
theorem entR_drop (es : List Ent) (k : Nat) : entR (es.drop k) = (entR es).drop (k * 4) := by
  induction es generalizing k with
  | nil => simp [entR]
  | cons e es ih =>
    rcases k with _ | k
    · simp [entR]
    · have := ih k
      show entR (es.drop k) = (entC e ++ entR es).drop ((k + 1) * 4)
      have h4 : (entC e).length = 4 := rfl
      rw [this, List.drop_append, List.drop_of_length_le (l := entC e) (by rw [h4]; omega), List.nil_append, h4, show (k + 1) * 4 - 4 = k * 4 by omega]
theorem entR_append (a b : List Ent) : entR (a ++ b) = entR a ++ entR b := by simp [entR]
/-- the address of L[k:] where the elements have four cells -/
def dropA4 (A : Option Addr) (c k : Nat) : Option Addr := if c = k then A else A.map (·.add (k * 4))
theorem At.dropA4 {w : World} {B : Nat} {A : Option Addr} {n c k : Nat} {xs : List Value} (h : At w B A xs) (hn : xs.length = n * 4) (hc : n ≤ c) : At w B (dropA4 A c k) (xs.drop (k * 4)) := by
  unfold Proofs.YtkhfffflegiapaaGreatDoor.dropA4
  by_cases e : c = k
  · rw [if_pos e, List.drop_of_length_le (by omega)]
    exact .inl rfl
  · rw [if_neg e]
    rcases A with _ | ad
    · rcases h with h | ⟨ad, e', _⟩
      · rw [h]; simpa using At.nil _ _ _
      · cases e'
    · exact h.drop (k * 4)
section
variable {P : Program}
theorem run_from4 (t e : TypeId) (ht : P.underlying t = some (.slice e)) (he : (P.info? e).map (·.size) = some 4) (A : Option Addr) (n c k : Nat) (hk : k ≤ n) (w : World) :
    (Instr.sliceAt t (.slice A n c) (some (.int .i64 (k : Int))) none none).run P w = .ok (.slice (dropA4 A c k) (n - k) (c - k)) w := by
  have he' : P.elem t = e := by simp [Program.elem, ht]
  have ht' : P.underlying t = some (.slice (P.elem t)) := by rw [he']; exact ht
  obtain ⟨i, hi, hs⟩ := Option.map_eq_some_iff.1 he
  rw [run_sliceAt_slice (h := ht'), run_slice_l (ht := ht') (h0 := by omega) (h1 := by omega)]
  rw [he']
  simp [sizeOf, typeInfo, hi, hs, sliced, dropA4]
end
section
variable {w w' : World} {b : Nat} {F : Nat → Prop} {s : Ds} {A : Option Addr} {c : Nat} {es : List Ent}
theorem Rk.row_at (h : Rk w b F s A c es) : At w w.heap.size A (entR es) := h.row.at_
theorem Rk.cap (h : Rk w b F s A c es) : es.length ≤ c := by
  obtain ⟨A', c', e, h1, -⟩ := h.row.form
  injection e with e1 e2 e3
  omega
set_option maxHeartbeats 4000000 in
theorem Rk.take_any (h : Rk w b F s A c es) (hm : es.length ≤ 70001) {k : Nat} {x : Ent} (hx : es[k]? = some x) :
    Calls Tryz.prog 159 #[dpt b, .int .i64 (k : Int)] w fun e w' => e = .returned (.agg (entC x).toArray) ∧ (∃ A' c', Rk w' b (more w w' F) { s with l := delF s.l x.f.name } A' c' (es.eraseIdx k)) ∧ Turns w w' F (more w w' F) ∧ EntOk w' (more w w' F) x ∧ Only w w' (Core b (.slice A es.length c)) := by
  obtain ⟨i0, hi, hz0, hz1, hz2⟩ := info_parts info_rf
  have H := Lib.hid h
  have hkl := (List.getElem?_eq_some_iff.1 hx).1
  have hcap := h.cap
  obtain ⟨fo, eo⟩ := h.ok hx
  obtain ⟨A1, c1, e1, -⟩ := eo.now.form
  obtain ⟨A2, c2, e2, -⟩ := eo.lasts.form
  obtain ⟨A3, c3, e3, -⟩ := eo.loose.form
  have EC := Lib.hid (show entC x = [.string (str x.f.name), .slice A1 x.f.now.length c1, .slice A2 x.f.lasts.length c2, .slice A3 x.bs.length c3] by unfold entC strV; rw [e1, e2, e3])
  obtain ⟨g, hA, q0, -, hgl⟩ := h.cell hx 0 (by decide)
  obtain ⟨g1, hA1, q1, -⟩ := h.cell hx 1 (by decide)
  obtain ⟨g2, hA2, q2, -⟩ := h.cell hx 2 (by decide)
  obtain ⟨g3, hA3, q3, -⟩ := h.cell hx 3 (by decide)
  rw [hA] at hA1 hA2 hA3
  obtain rfl : g = g1 := by injection hA1 with e; injection e
  obtain rfl : g = g2 := by injection hA2 with e; injection e
  obtain rfl : g = g3 := by injection hA3 with e; injection e
  have RA := Lib.hid h.row_at
  rw [hA] at RA
  have HA := Lib.hid hA
  have c0 : w.cell? ⟨b, 0, none⟩ = some (.slice (some ⟨g, 0, none⟩) es.length c) := by rw [← hA]; exact h.box.cell 0 rfl
  have hbl := h.box.lt
  obtain ⟨n, hn⟩ : ∃ n, n = es.length := ⟨_, rfl⟩
  have HN := Lib.hid hn
  have hkn : k < n := by omega
  have hki : (k : Int) < (n : Int) := by omega
  have hki1 : (k : Int) + 1 ≤ (n : Int) := by omega
  have hnc : n ≤ c := by omega
  have hkc : (k : Int) ≤ (c : Int) := by omega
  have ni : (n : Int) ≤ 70001 := by omega
  have hmn : n ≤ 70001 := by omega
  rw [← hn] at c0
  obtain ⟨m1, hm1⟩ : ∃ m, m = x.f.now.length := ⟨_, rfl⟩
  obtain ⟨m2, hm2⟩ : ∃ m, m = x.f.lasts.length := ⟨_, rfl⟩
  obtain ⟨m3, hm3⟩ : ∃ m, m = x.bs.length := ⟨_, rfl⟩
  rw [← hm1, ← hm2, ← hm3] at EC
  rw [EC.out] at q0 q1 q2 q3
  simp only [List.getElem?_cons_zero, List.getElem?_cons_succ] at q0 q1 q2 q3
  rw [Nat.add_zero] at q0
  obtain ⟨sx, hsx⟩ : ∃ sx, sx = str x.f.name := ⟨_, rfl⟩
  rw [← hsx] at q0 EC
  have HX := Lib.hid hx
  have HE := Lib.hid eo
  have k0 := keeps_trans (keeps_alloc w (.cells #[.string ⟨#[]⟩, .slice none 0 0, .slice none 0 0, .slice none 0 0] 155)) (keeps_alloc (w.alloc (.cells #[.string ⟨#[]⟩, .slice none 0 0, .slice none 0 0, .slice none 0 0] 155)) (.cells #[.string sx, .slice A1 m1 c1, .slice A2 m2 c2, .slice A3 m3 c3] 155))
  have hs0 : ((w.alloc (.cells #[.string ⟨#[]⟩, .slice none 0 0, .slice none 0 0, .slice none 0 0] 155)).alloc (.cells #[.string sx, .slice A1 m1 c1, .slice A2 m2 c2, .slice A3 m3 c3] 155)).heap.size = w.heap.size + 2 := by simp
  have bz := (Box.new w 155 #[.string ⟨#[]⟩, .slice none 0 0, .slice none 0 0, .slice none 0 0]).keep (keeps_alloc (w.alloc (.cells #[.string ⟨#[]⟩, .slice none 0 0, .slice none 0 0, .slice none 0 0] 155)) (.cells #[.string sx, .slice A1 m1 c1, .slice A2 m2 c2, .slice A3 m3 c3] 155))
  have bf : Box ((w.alloc (.cells #[.string ⟨#[]⟩, .slice none 0 0, .slice none 0 0, .slice none 0 0] 155)).alloc (.cells #[.string sx, .slice A1 m1 c1, .slice A2 m2 c2, .slice A3 m3 c3] 155)) (w.heap.size + 1) 155 #[.string sx, .slice A1 m1 c1, .slice A2 m2 c2, .slice A3 m3 c3] := by
    have := Box.new (w.alloc (.cells #[.string ⟨#[]⟩, .slice none 0 0, .slice none 0 0, .slice none 0 0] 155)) 155 #[.string sx, .slice A1 m1 c1, .slice A2 m2 c2, .slice A3 m3 c3]
    simpa using this
  have O0 := Lib.hid (own_empty ((w.alloc (.cells #[.string ⟨#[]⟩, .slice none 0 0, .slice none 0 0, .slice none 0 0] 155)).alloc (.cells #[.string sx, .slice A1 m1 c1, .slice A2 m2 c2, .slice A3 m3 c3] 155)) 155 4)
  have oz := own_empty ((w.alloc (.cells #[.string ⟨#[]⟩, .slice none 0 0, .slice none 0 0, .slice none 0 0] 155)).alloc (.cells #[.string sx, .slice A1 m1 c1, .slice A2 m2 c2, .slice A3 m3 c3] 155)) 155 4
  rw [hs0] at oz
  have OZ := Lib.hid oz
  clear oz
  have HS0 := Lib.hid hs0
  have K1 := Lib.hid (keeps_trans k0 (keeps_alloc ((w.alloc (.cells #[.string ⟨#[]⟩, .slice none 0 0, .slice none 0 0, .slice none 0 0] 155)).alloc (.cells #[.string sx, .slice A1 m1 c1, .slice A2 m2 c2, .slice A3 m3 c3] 155)) (.cells #[] 155)))
  have KE := Lib.hid (keeps_alloc ((w.alloc (.cells #[.string ⟨#[]⟩, .slice none 0 0, .slice none 0 0, .slice none 0 0] 155)).alloc (.cells #[.string sx, .slice A1 m1 c1, .slice A2 m2 c2, .slice A3 m3 c3] 155)) (.cells #[] 155))
  have AT1 := Lib.hid (show At w w.heap.size (some ⟨g, 0, none⟩) (entR (es.take k)) by rw [entR_take]; exact RA.out.take (k * 4))
  have AT2 := Lib.hid (show At w w.heap.size (dropA4 (some ⟨g, 0, none⟩) c (k + 1)) (entR (es.drop (k + 1))) by rw [entR_drop]; exact RA.out.dropA4 (by rw [entR_length, ← HN.out]) hnc)
  have L1 := Lib.hid (show (entR (es.take k)).length = k * 4 by rw [entR_length, List.length_take, ← HN.out]; omega)
  have L2 := Lib.hid (show (entR (es.drop (k + 1))).length = (n - (k + 1)) * 4 by rw [entR_length, List.length_drop, ← HN.out])
  have ON1 := Lib.hid (fun u (hu : u ∈ entR (es.take k)) => h.one u (by rw [entR_take] at hu; exact List.mem_of_mem_take hu))
  have ON2 := Lib.hid (fun u (hu : u ∈ entR (es.drop (k + 1))) => h.one u (by rw [entR_drop] at hu; exact List.mem_of_mem_drop hu))
  have ER := Lib.hid (show es.eraseIdx k = es.take k ++ es.drop (k + 1) from List.eraseIdx_eq_take_drop_succ es k)
  obtain ⟨N', hN'⟩ : ∃ N', N' = k + (n - (k + 1)) := ⟨_, rfl⟩
  have HN1 := Lib.hid hN'
  have HN2 := Lib.hid (show N' = (es.eraseIdx k).length by rw [hN', ER.out, List.length_append, List.length_take, List.length_drop, ← HN.out]; omega)
  clear hN'
  have hsl := run_from4 (P := Tryz.prog) 142 155 Tryz.underlying142 size_rf (some ⟨g, 0, none⟩) n c (k + 1) (by omega)
  have hcast : (((k + 1 : Nat)) : Int) = (k : Int) + 1 := by omega
  rw [hcast] at hsl
  have CB := Lib.hid (fun (V : World) (kk : Keeps w V) => h.box.keep kk)
  have hbf : b ≠ w.heap.size := by omega
  have hbf1 : b ≠ w.heap.size + 1 := by omega
  unfold dpt
  clear h hx hm hn hm1 hm2 hm3 e1 e2 e3 eo fo hA hA1 hA2 hA3 hkl hcap hsx hcast
  generalize dropA4 (some ⟨g, 0, none⟩) c (k + 1) = DA at *
  have e0 := K1.out.cellOf c0
  go_enter Tryz.func159, Tryz.ntmps159
  go_wp2_with (first
    | (at_builtin; refine wpList_app _ rfl _ _ 142 rfl (w.heap.size + 2) 155 i0 (.agg #[.string ⟨#[]⟩, .slice none 0 0, .slice none 0 0, .slice none 0 0]) 4 88 Tryz.underlying142 hi hz0 hz1 hz2 rfl (by decide) _ 0 [] rfl OZ.out _ (some ⟨g, 0, none⟩) k c (entR (es.take k)) rfl L1.out (AT1.out.keep K1.out) ON1.out (by unfold maxLen; omega) (by omega) (by simp) ?_; intro v6 w6 o6 g6 b6; have k6 : Keeps ((w.alloc (.cells #[.string ⟨#[]⟩, .slice none 0 0, .slice none 0 0, .slice none 0 0] 155)).alloc (.cells #[.string sx, .slice A1 m1 c1, .slice A2 m2 c2, .slice A3 m3 c3] 155)) w6 := Below.grown KE.out g6 KE.out.size (fun g hg => by have := (OZ.out.lt g hg).1; rw [HS0.out]; exact this); have q6 : Keeps w w6 := keeps_trans k0 k6; rw [Nat.zero_add, List.nil_append] at o6; have O6 := Lib.hid o6; have d0 := q6.cellOf c0; have K6 := Lib.hid k6; have Q6 := Lib.hid q6; have S6 := Lib.hid (show w.heap.size + 2 ≤ w6.heap.size by have := k6.size; rw [HS0.out] at this; exact this); clear o6 g6 b6)
    | (at_builtin; refine wpList_app _ rfl _ _ 142 rfl (w.heap.size + 2) 155 i0 (.agg #[.string ⟨#[]⟩, .slice none 0 0, .slice none 0 0, .slice none 0 0]) 4 88 Tryz.underlying142 hi hz0 hz1 hz2 rfl (by decide) _ k _ rfl O6.out _ DA (n - (k + 1)) (c - (k + 1)) (entR (es.drop (k + 1))) rfl L2.out (AT2.out.keep Q6.out) ON2.out (by unfold maxLen; omega) (by omega) S6.out ?_; intro v8 w8 o8 g8 b8; have k8 : Keeps ((w.alloc (.cells #[.string ⟨#[]⟩, .slice none 0 0, .slice none 0 0, .slice none 0 0] 155)).alloc (.cells #[.string sx, .slice A1 m1 c1, .slice A2 m2 c2, .slice A3 m3 c3] 155)) w8 := Below.grown K6.out g8 K6.out.size (fun g hg => by have := (O6.out.lt g hg).1; rw [HS0.out]; exact this); have q8 : Keeps w w8 := keeps_trans k0 k8; rw [← entR_append, ← ER.out, ← HN1.out] at o8; obtain ⟨A8, c8, rfl, -⟩ := o8.form; have O8 := Lib.hid o8; have bx8 := CB.out _ q8; have d8 : w8.cell? ⟨b, 0, none⟩ = some (.slice (some ⟨g, 0, none⟩) n c) := q8.cellOf c0; have x8 := bx8.frozen 0; have hb8 : b < w8.heap.size := bx8.lt; have BF := (bf.keep k8).far (p := ⟨b, 0, none⟩) (fun e => hbf1 e.symm) (.slice A8 N' c8); have BZ := (bz.keep k8).far (p := ⟨b, 0, none⟩) (fun e => hbf e.symm) (.slice A8 N' c8); have f0 := BF.cell 0 rfl; have f1 := BF.cell 1 rfl; have f2 := BF.cell 2 rfl; have f3 := BF.cell 3 rfl; have z0 := BZ.cell 0 rfl; have z1 := BZ.cell 1 rfl; have z2 := BZ.cell 2 rfl; have z3 := BZ.cell 3 rfl; have y0 := BZ.frozen 0; have y1 := BZ.frozen 1; have y2 := BZ.frozen 2; have y3 := BZ.frozen 3; have K8 := Lib.hid k8; have Q8 := Lib.hid q8; have BX8 := Lib.hid bx8; have BZ8 := Lib.hid BZ; clear o8 g8 b8))
  have BR := ((((BZ8.out).set 0 (.string sx)).set 1 (.slice A1 m1 c1)).set 2 (.slice A2 m2 c2)).set 3 (.slice A3 m3 c3)
  have OB := Only.cell1 w8 ⟨b, 0, none⟩ (.slice A8 N' c8)
  have OZ4 : Only (w8.setCell ⟨b, 0, none⟩ (.slice A8 N' c8)) (((((w8.setCell ⟨b, 0, none⟩ (.slice A8 N' c8)).setCell ⟨w.heap.size, 0, none⟩ (.string sx)).setCell ⟨w.heap.size, 1, none⟩ (.slice A1 m1 c1)).setCell ⟨w.heap.size, 2, none⟩ (.slice A2 m2 c2)).setCell ⟨w.heap.size, 3, none⟩ (.slice A3 m3 c3)) (fun i => i = w.heap.size) := (((Only.cell1 _ ⟨w.heap.size, 0, none⟩ _).trans (Only.cell1 _ ⟨w.heap.size, 1, none⟩ _) (fun i hi => .inl hi)).trans (Only.cell1 _ ⟨w.heap.size, 2, none⟩ _) (fun i hi => .inl hi)).trans (Only.cell1 _ ⟨w.heap.size, 3, none⟩ _) (fun i hi => .inl hi)
  have hBF : Box (((((w8.setCell ⟨b, 0, none⟩ (.slice A8 N' c8)).setCell ⟨w.heap.size, 0, none⟩ (.string sx)).setCell ⟨w.heap.size, 1, none⟩ (.slice A1 m1 c1)).setCell ⟨w.heap.size, 2, none⟩ (.slice A2 m2 c2)).setCell ⟨w.heap.size, 3, none⟩ (.slice A3 m3 c3)) b 144 (rdC A8 N' c8 s.q s.armed s.off) := (OZ4.block b (by have := BX8.out.lt; simpa using this) hbf).trans (BX8.out.set 0 _)
  have r0 := BR.cell 0 rfl
  have r1 := BR.cell 1 rfl
  have r2 := BR.cell 2 rfl
  have r3 := BR.cell 3 rfl
  have OWF : Only w (((((w8.setCell ⟨b, 0, none⟩ (.slice A8 N' c8)).setCell ⟨w.heap.size, 0, none⟩ (.string sx)).setCell ⟨w.heap.size, 1, none⟩ (.slice A1 m1 c1)).setCell ⟨w.heap.size, 2, none⟩ (.slice A2 m2 c2)).setCell ⟨w.heap.size, 3, none⟩ (.slice A3 m3 c3)) (fun i => i = b) := (((Only.of_keeps Q8.out).weak (T := fun i => i = b) (fun i hi => hi.elim)).trans OB (fun i hi => .inl hi)).trans OZ4 (fun i hi => .inr (by rw [hi]; exact Nat.le_refl _))
  have O8F : Only w8 (((((w8.setCell ⟨b, 0, none⟩ (.slice A8 N' c8)).setCell ⟨w.heap.size, 0, none⟩ (.string sx)).setCell ⟨w.heap.size, 1, none⟩ (.slice A1 m1 c1)).setCell ⟨w.heap.size, 2, none⟩ (.slice A2 m2 c2)).setCell ⟨w.heap.size, 3, none⟩ (.slice A3 m3 c3)) (fun i => i = b ∨ i = w.heap.size) := (OB.weak (T := fun i => i = b ∨ i = w.heap.size) (fun i hi => .inl hi)).trans OZ4 (fun i hi => .inl (.inr hi))
  generalize (((((w8.setCell ⟨b, 0, none⟩ (.slice A8 N' c8)).setCell ⟨w.heap.size, 0, none⟩ (.string sx)).setCell ⟨w.heap.size, 1, none⟩ (.slice A1 m1 c1)).setCell ⟨w.heap.size, 2, none⟩ (.slice A2 m2 c2)).setCell ⟨w.heap.size, 3, none⟩ (.slice A3 m3 c3)) = wF at *
  have RF : Own wF 0 155 4 (.slice A8 N' c8) N' (entR (es.eraseIdx k)) := (O8.out.same (fun kk hk => O8F.block kk (O8.out.lt kk hk).2 (fun e => by
    rcases e with e | e
    · exact O8.out.ne_box BX8.out disk_file (by rw [hk, e])
    · have := (O8.out.lt kk hk).1; omega))).base_le (Nat.zero_le _)
  have HO := OWF.weak (T := Core b (.slice A es.length c)) (fun i hi => .inl hi)
  have EN := H.out.ents_only (F' := more w wF F) HO (fun i hi => .inl hi)
  have FR := H.out.fresh (es' := es.eraseIdx k) (l' := delF s.l x.f.name) (A' := A8) (c' := c8) (by rw [← HN2.out]; exact hBF) HO (by rw [← HN2.out]; exact RF) (fun kk hk => .inr (by rw [← HN2.out] at hk; have := (O8.out.lt kk hk).1; omega)) (by rw [H.out.l]; exact delF_erase HX.out H.out.nodup) (fun e he => EN e (List.mem_of_mem_eraseIdx he)) (H.out.lok.del _)
  refine bodyPost_ret (v := .agg #[.string sx, .slice A1 m1 c1, .slice A2 m2 c2, .slice A3 m3 c3]) (by simp [results, Tryz.results159, go_sem, r0, r1, r2, r3]) rfl ⟨?_, ⟨A8, c8, FR.1⟩, FR.2, EN x (List.mem_of_getElem? HX.out), HO⟩
  rw [EC.out]
end
end Go.Proofs.YtkhfffflegiapaaGreatDoor
/- The reference's disk: a file is put into its row. -/
namespace Go.Proofs.YtkhfffflegiapaaGreatDoor
open Go.RowKit
set_option linter.unusedSimpArgs false
set_option linter.unusedVariables false
set_option maxRecDepth 100000

theorem less_list : ∀ a b : List UInt8, Op.bytesLess a b = decide (a < b)
  | [], [] => by simp [Op.bytesLess]
  | [], b :: ys => by simp [Op.bytesLess]
  | a :: xs, [] => by simp [Op.bytesLess]
  | a :: xs, b :: ys => by
    have ih := less_list xs ys
    unfold Op.bytesLess
    rw [ih]
    by_cases h1 : a < b
    · simp [h1, List.cons_lt_cons_iff]
    · by_cases h2 : a = b
      · subst h2
        simp [List.cons_lt_cons_iff]
      · simp [h1, h2, List.cons_lt_cons_iff]
theorem less_str (a b : List UInt8) : Op.bytesLess (str a).toList (str b).toList = decide (a < b) := by rw [str_toList, str_toList]; exact less_list a b
section
variable {w w' : World} {b : Nat} {F : Nat → Prop} {s : Ds} {A : Option Addr} {c : Nat} {es : List Ent}
set_option maxHeartbeats 4000000 in
theorem Rk.put_any (h : Rk w b F s A c es) (hm : es.length ≤ 70001) {x : Ent} (he : EntOk w F x) (hg : getF s.l x.f.name = none) (hf : FlOk x.f) (hu : usedL s.l + sect x.f.now.length ≤ 1048576) :
    Calls Tryz.prog 153 #[dpt b, .agg (entC x).toArray] w fun e w' => e = .returned (.tuple #[]) ∧ (∃ A' c' es', Rk w' b (more w w' F) { s with l := putF s.l x.f } A' c' es') ∧ Turns w w' F (more w w' F) := by
  obtain ⟨i0, hi, hz0, hz1, hz2⟩ := info_parts info_rf
  have H := Lib.hid h
  obtain ⟨nv, hnv⟩ : ∃ v, v = x.nv := ⟨_, rfl⟩
  obtain ⟨lv, hlv⟩ : ∃ v, v = x.lv := ⟨_, rfl⟩
  obtain ⟨ov, hov⟩ : ∃ v, v = x.ov := ⟨_, rfl⟩
  obtain ⟨sx, hsx⟩ : ∃ v, v = str x.f.name := ⟨_, rfl⟩
  have EC := Lib.hid (show entC x = [.string sx, nv, lv, ov] by unfold entC strV; rw [hnv, hlv, hov, hsx])
  rw [EC.out]
  obtain ⟨A1, c1, e1, -⟩ := he.now.form
  obtain ⟨A2, c2, e2, -⟩ := he.lasts.form
  obtain ⟨A3, c3, e3, -⟩ := he.loose.form
  rw [← hnv] at e1
  rw [← hlv] at e2
  rw [← hov] at e3
  obtain ⟨n, hn⟩ : ∃ n, n = es.length := ⟨_, rfl⟩
  have HN := Lib.hid hn
  have hmn : n ≤ 70001 := by omega
  have ni : (n : Int) ≤ 70001 := by omega
  have k0 := keeps_alloc w (.cells #[.string sx, nv, lv, ov] 155)
  have bf := Box.new w 155 #[.string sx, nv, lv, ov]
  have CB := Lib.hid (fun (V : World) (kk : Keeps w V) => show V.cell? ⟨b, 0, none⟩ = some (.slice A n c) by rw [hn]; exact (h.keep kk).box.cell 0 rfl)
  have HE := Lib.hid he
  have HG := Lib.hid hg
  have HF := Lib.hid hf
  have HU := Lib.hid hu
  have HSX := Lib.hid hsx
  have hbl := h.box.lt
  unfold dpt
  clear h hm hn hnv hlv hov hsx he hg hf hu
  subst e1 e2 e3
  go_enter Tryz.func153, Tryz.ntmps153
  go_wp2_with fail
  go_loopw [4] (fun i wr => ∃ j : Nat, j ≤ n ∧ i = .int .i64 (j : Int) ∧ Hid (∀ (t : Nat) (y : Ent), t < j → es[t]? = some y → y.f.name < x.f.name) ∧ Keeps (w.alloc (.cells #[.string sx, .slice A1 x.f.now.length c1, .slice A2 x.f.lasts.length c2, .slice A3 x.bs.length c3] 155)) wr) (fun i _ => n - (intOf i).toNat)
  case atStart => exact ⟨0, Nat.zero_le _, rfl, Lib.hid (fun t y ht => by omega), keeps_refl _⟩
  case round =>
    obtain ⟨j, hj, rfl, HP, hk⟩ := hrel
    have HK := Lib.hid hk
    have QK := Lib.hid (keeps_trans k0 hk)
    clear hk
    by_cases hlt : j < n
    · have hjn : (j : Int) < (n : Int) := by omega
      obtain ⟨y, hy⟩ : ∃ y, es[j]? = some y := ⟨_, List.getElem?_eq_getElem (by have := HN.out; omega)⟩
      obtain ⟨g, rfl, q0, -, hgl⟩ := H.out.cell hy 0 (by decide)
      have q0' : w.cell? ⟨g, j * 4, none⟩ = some (.string (str y.f.name)) := q0
      have QS := Lib.hid (fun (V : World) (k : Keeps (w.alloc (.cells #[.string sx, .slice A1 x.f.now.length c1, .slice A2 x.f.lasts.length c2, .slice A3 x.bs.length c3] 155)) V) => And.intro (CB.out _ (keeps_trans k0 k)) (And.intro ((keeps_trans k0 k).cellOf q0') (show V.cell? ⟨w.heap.size, 0, none⟩ = some (.string sx) from (bf.keep k).cell 0 rfl)))
      clear q0 q0'
      obtain ⟨sy, hsy⟩ : ∃ sy, sy = str y.f.name := ⟨_, rfl⟩
      have HSY := Lib.hid hsy
      rw [← hsy] at QS
      have hls : Op.bytesLess sy.toList sx.toList = decide (y.f.name < x.f.name) := by rw [HSY.out, HSX.out]; exact less_str _ _
      clear hsy
      by_cases hl : y.f.name < x.f.name
      · rw [decide_eq_true hl] at hls
        have PN := Lib.hid (show ∀ (t : Nat) (z : Ent), t < j + 1 → es[t]? = some z → z.f.name < x.f.name from fun t z ht hz => by
          by_cases e : t = j
          · rw [e, hy] at hz
            obtain rfl := Option.some.inj hz
            exact hl
          · exact HP.out t z (by omega) hz)
        clear hl hy
        obtain ⟨d0, d1, d2⟩ := QS.out _ HK.out
        go_wp2_with fail
        go_quiet (fail)
        go_wp2_with fail
        first
          | exact ⟨⟨j + 1, by omega, by go_num, PN, keeps_trans HK.out (keeps_drewN _ _)⟩, by simp [intOf]; omega⟩
          | (refine ⟨?_, by simp [intOf]; omega⟩
             (repeat apply Exists.intro)
             refine ⟨?_, rfl⟩
             exact ⟨j + 1, by omega, by go_num, PN, keeps_trans HK.out (keeps_drewN _ _)⟩)
      · rw [decide_eq_false hl] at hls
        have LAST := Lib.hid (show ∀ z, es[j]? = some z → ¬ z.f.name < x.f.name from fun z hz => by
          rw [hy] at hz
          obtain rfl := Option.some.inj hz
          exact hl)
        have hjle : j ≤ n := hj
        clear hl hy hj hlt
        obtain ⟨d0, d1, d2⟩ := QS.out _ HK.out
        go_wp2_with fail
        go_quiet (fail)
        have hkW := Lib.hid (keeps_trans HK.out (keeps_drewN wr nq))
        generalize wr.drewN nq = W at *
        have KW := Lib.hid (keeps_trans k0 hkW.out)
        have hnc : n ≤ c := by have := H.out.cap; have := HN.out; omega
        have hjc : (j : Int) ≤ (c : Int) := by omega
        have hji : (j : Int) ≤ (n : Int) := by omega
        have c0 := CB.out _ KW.out
        have BF := bf.keep hkW.out
        have hlt1 : w.heap.size < W.heap.size := BF.lt
        have hbW : b < W.heap.size := Nat.lt_of_lt_of_le hbl KW.out.size
        have OZ := Lib.hid (own_empty W 155 4)
        have K1 := Lib.hid (keeps_trans KW.out (keeps_alloc W (.cells #[] 155)))
        have KE := Lib.hid (keeps_alloc W (.cells #[] 155))
        have AT0 := Lib.hid (show At w w.heap.size (some ⟨g, 0, none⟩) (entR es) from H.out.row_at)
        have AT1 := Lib.hid (show At w w.heap.size (some ⟨g, 0, none⟩) (entR (es.take j)) by rw [entR_take]; exact AT0.out.take (j * 4))
        have AT2 := Lib.hid (show At w w.heap.size (dropA4 (some ⟨g, 0, none⟩) c j) (entR (es.drop j)) by rw [entR_drop]; exact AT0.out.dropA4 (by rw [entR_length, ← HN.out]) hnc)
        have L1 := Lib.hid (show (entR (es.take j)).length = j * 4 by rw [entR_length, List.length_take, ← HN.out]; omega)
        have L2 := Lib.hid (show (entR (es.drop j)).length = (n - j) * 4 by rw [entR_length, List.length_drop, ← HN.out])
        have ON1 := Lib.hid (fun u (hu : u ∈ entR (es.take j)) => H.out.one u (by rw [entR_take] at hu; exact List.mem_of_mem_take hu))
        have ON2 := Lib.hid (fun u (hu : u ∈ entR (es.drop j)) => H.out.one u (by rw [entR_drop] at hu; exact List.mem_of_mem_drop hu))
        have ON3 := Lib.hid (HE.out.one)
        rw [EC.out] at ON3
        obtain ⟨N', hN'⟩ : ∃ N', N' = j + 1 + (n - j) := ⟨_, rfl⟩
        have HN1 := Lib.hid hN'
        have HN2 := Lib.hid (show N' = (es.take j ++ x :: es.drop j).length by rw [hN', List.length_append, List.length_cons, List.length_take, List.length_drop, ← HN.out]; omega)
        have NB : N' ≤ 70002 := by omega
        clear hN'
        have hsl := run_from4 (P := Tryz.prog) 142 155 Tryz.underlying142 size_rf (some ⟨g, 0, none⟩) n c j hjle
        have ER := Lib.hid (show entR (es.take j) ++ [.string sx, .slice A1 x.f.now.length c1, .slice A2 x.f.lasts.length c2, .slice A3 x.bs.length c3] ++ entR (es.drop j) = entR (es.take j ++ x :: es.drop j) by rw [← EC.out, entR_append, List.append_assoc]; rfl)
        have e0 := (keeps_alloc W (.cells #[] 155)).cellOf c0
        obtain ⟨DA, hDA⟩ : ∃ DA, DA = dropA4 (some ⟨g, 0, none⟩) c j := ⟨_, rfl⟩
        rw [← hDA] at AT2 hsl
        clear hDA d0 d2 AT0
        go_wp2_with (first
          | (at_builtin; refine wpList_app _ rfl _ _ 142 rfl W.heap.size 155 i0 (.agg #[.string ⟨#[]⟩, .slice none 0 0, .slice none 0 0, .slice none 0 0]) 4 88 Tryz.underlying142 hi hz0 hz1 hz2 rfl (by decide) _ 0 [] rfl OZ.out _ (some ⟨g, 0, none⟩) j c (entR (es.take j)) rfl L1.out (AT1.out.keep K1.out) ON1.out (by unfold maxLen; omega) (by omega) (by simp) ?_; intro v6 w6 o6 g6 b6; have k6 : Keeps W w6 := Below.grown KE.out g6 KE.out.size (fun g hg => (OZ.out.lt g hg).1); rw [Nat.zero_add, List.nil_append] at o6; have O6 := Lib.hid o6; have BF6 := BF.keep k6; have f0 := BF6.cell 0 rfl; have f1 := BF6.cell 1 rfl; have f2 := BF6.cell 2 rfl; have f3 := BF6.cell 3 rfl; have K6 := Lib.hid k6; have S6 := k6.size; clear o6 g6 b6 e0 c0)
          | (at_builtin; refine wpList_app _ rfl _ _ 142 rfl W.heap.size 155 i0 (.agg #[.string ⟨#[]⟩, .slice none 0 0, .slice none 0 0, .slice none 0 0]) 4 88 Tryz.underlying142 hi hz0 hz1 hz2 rfl (by decide) _ j _ rfl (O6.out.keep (keeps_alloc w6 _)) _ (some ⟨w6.heap.size, 0, none⟩) 1 1 [.string sx, .slice A1 x.f.now.length c1, .slice A2 x.f.lasts.length c2, .slice A3 x.bs.length c3] rfl rfl (At.new _ _ _ _ (Nat.lt_succ_self _)) ON3.out (by unfold maxLen; omega) (by omega) (by simp; omega) ?_; intro v7 w7 o7 g7 b7; have k7 : Keeps W w7 := Below.grown (keeps_trans K6.out (keeps_alloc w6 _)) g7 (keeps_trans K6.out (keeps_alloc w6 _)).size (fun g hg => (O6.out.lt g hg).1); have O7 := Lib.hid o7; have d0 := CB.out _ (keeps_trans KW.out k7); have K7 := Lib.hid k7; have S7 := k7.size; have KW7 := Lib.hid (keeps_trans KW.out k7); clear o7 g7 b7 f0 f1 f2 f3)
          | (at_builtin; refine wpList_app _ rfl _ _ 142 rfl W.heap.size 155 i0 (.agg #[.string ⟨#[]⟩, .slice none 0 0, .slice none 0 0, .slice none 0 0]) 4 88 Tryz.underlying142 hi hz0 hz1 hz2 rfl (by decide) _ (j + 1) _ rfl O7.out _ DA (n - j) (c - j) (entR (es.drop j)) rfl L2.out (AT2.out.keep KW7.out) ON2.out (by unfold maxLen; omega) (by omega) S7 ?_; intro v8 w8 o8 g8 b8; have k8 : Keeps W w8 := Below.grown K7.out g8 K7.out.size (fun g hg => (O7.out.lt g hg).1); rw [ER.out, ← HN1.out] at o8; obtain ⟨A8, c8, rfl, -⟩ := o8.form; have O8 := Lib.hid o8; have Q8 := Lib.hid (keeps_trans KW.out k8); have d8 := CB.out _ Q8.out; have bx8 := H.out.box.keep Q8.out; have x8 := bx8.frozen 0; have hb8 : b < w8.heap.size := bx8.lt; have BX8 := Lib.hid bx8; clear o8 g8 b8 d0))
        have OB := Only.cell1 w8 ⟨b, 0, none⟩ (.slice A8 N' c8)
        have OWF : Only w (w8.setCell ⟨b, 0, none⟩ (.slice A8 N' c8)) (fun i => i = b) := ((Only.of_keeps Q8.out).weak (T := fun i => i = b) (fun i hi => hi.elim)).trans OB (fun i hi => .inl hi)
        have hBF : Box (w8.setCell ⟨b, 0, none⟩ (.slice A8 N' c8)) b 144 (rdC A8 N' c8 s.q s.armed s.off) := BX8.out.set 0 _
        generalize w8.setCell ⟨b, 0, none⟩ (.slice A8 N' c8) = wF at *
        have RF : Own wF 0 155 4 (.slice A8 N' c8) N' (entR (es.take j ++ x :: es.drop j)) := (O8.out.same (fun kk hk => OB.block kk (O8.out.lt kk hk).2 (fun e => O8.out.ne_box BX8.out disk_file (by rw [hk]; exact congrArg some e)))).base_le (Nat.zero_le _)
        have HO := OWF.weak (T := Core b (.slice (some ⟨g, 0, none⟩) es.length c)) (fun i hi => .inl hi)
        have EN := fun e (q : EntOk w F e) => H.out.ent_only (F' := more w wF F) q HO (fun i hi => .inl hi)
        have FR := H.out.fresh (es' := es.take j ++ x :: es.drop j) (l' := putF s.l x.f) (A' := A8) (c' := c8) (by rw [← HN2.out]; exact hBF) HO (by rw [← HN2.out]; exact RF) (fun kk hk => .inr (by rw [← HN2.out] at hk; have h1 := (O8.out.lt kk hk).1; have h2 := KW.out.size; omega)) (by
          rw [H.out.l, putF_at (es.map (·.f)) x.f j (by rw [List.length_map, ← HN.out]; exact hjle) (fun t g ht hgt => by
            rw [List.getElem?_map] at hgt
            obtain ⟨z, hz, rfl⟩ := Option.map_eq_some_iff.1 hgt
            exact HP.out t z ht hz) (fun g hgt => by
            rw [List.getElem?_map] at hgt
            obtain ⟨z, hz, rfl⟩ := Option.map_eq_some_iff.1 hgt
            exact LAST.out z hz), List.map_append, List.map_cons, List.map_take, List.map_drop]) (fun e he => by
          rcases List.mem_append.1 he with h1 | h1
          · exact EN e (H.out.ents e (List.mem_of_mem_take h1))
          · rcases List.mem_cons.1 h1 with rfl | h1
            · exact EN _ HE.out
            · exact EN e (H.out.ents e (List.mem_of_mem_drop h1))) (H.out.lok.put HG.out HF.out HU.out)
        go_returns
        exact ⟨rfl, ⟨A8, c8, _, FR.1⟩, FR.2⟩
    · have hjn2 : j = n := by omega
      have LAST := Lib.hid (show ∀ z, es[j]? = some z → ¬ z.f.name < x.f.name from fun z hz => by
        have := (List.getElem?_eq_some_iff.1 hz).1
        have := HN.out
        omega)
      have hle1 : decide (j < n) = false := decide_eq_false hlt
      have hle2 : decide ((j : Int) < (n : Int)) = false := decide_eq_false (by omega)
      have hjle : j ≤ n := hj
      have QS := Lib.hid (fun (V : World) (k : Keeps (w.alloc (.cells #[.string sx, .slice A1 x.f.now.length c1, .slice A2 x.f.lasts.length c2, .slice A3 x.bs.length c3] 155)) V) => And.intro (CB.out _ (keeps_trans k0 k)) (show V.cell? ⟨w.heap.size, 0, none⟩ = some (.string sx) from (bf.keep k).cell 0 rfl))
      clear hlt hj hjn2
      obtain ⟨d0, d2⟩ := QS.out _ HK.out
      go_wp2_with fail
      go_quiet (fail)
      have hkW := Lib.hid (keeps_trans HK.out (keeps_drewN wr nq))
      generalize wr.drewN nq = W at *
      have KW := Lib.hid (keeps_trans k0 hkW.out)
      have hnc : n ≤ c := by have := H.out.cap; have := HN.out; omega
      have hjc : (j : Int) ≤ (c : Int) := by omega
      have hji : (j : Int) ≤ (n : Int) := by omega
      have c0 := CB.out _ KW.out
      have BF := bf.keep hkW.out
      have hlt1 : w.heap.size < W.heap.size := BF.lt
      have hbW : b < W.heap.size := Nat.lt_of_lt_of_le hbl KW.out.size
      have OZ := Lib.hid (own_empty W 155 4)
      have K1 := Lib.hid (keeps_trans KW.out (keeps_alloc W (.cells #[] 155)))
      have KE := Lib.hid (keeps_alloc W (.cells #[] 155))
      have AT0 := Lib.hid (show At w w.heap.size A (entR es) from H.out.row_at)
      have AT1 := Lib.hid (show At w w.heap.size A (entR (es.take j)) by rw [entR_take]; exact AT0.out.take (j * 4))
      have AT2 := Lib.hid (show At w w.heap.size (dropA4 A c j) (entR (es.drop j)) by rw [entR_drop]; exact AT0.out.dropA4 (by rw [entR_length, ← HN.out]) hnc)
      have L1 := Lib.hid (show (entR (es.take j)).length = j * 4 by rw [entR_length, List.length_take, ← HN.out]; omega)
      have L2 := Lib.hid (show (entR (es.drop j)).length = (n - j) * 4 by rw [entR_length, List.length_drop, ← HN.out])
      have ON1 := Lib.hid (fun u (hu : u ∈ entR (es.take j)) => H.out.one u (by rw [entR_take] at hu; exact List.mem_of_mem_take hu))
      have ON2 := Lib.hid (fun u (hu : u ∈ entR (es.drop j)) => H.out.one u (by rw [entR_drop] at hu; exact List.mem_of_mem_drop hu))
      have ON3 := Lib.hid (HE.out.one)
      rw [EC.out] at ON3
      obtain ⟨N', hN'⟩ : ∃ N', N' = j + 1 + (n - j) := ⟨_, rfl⟩
      have HN1 := Lib.hid hN'
      have HN2 := Lib.hid (show N' = (es.take j ++ x :: es.drop j).length by rw [hN', List.length_append, List.length_cons, List.length_take, List.length_drop, ← HN.out]; omega)
      have NB : N' ≤ 70002 := by omega
      clear hN'
      have hsl := run_from4 (P := Tryz.prog) 142 155 Tryz.underlying142 size_rf A n c j hjle
      have ER := Lib.hid (show entR (es.take j) ++ [.string sx, .slice A1 x.f.now.length c1, .slice A2 x.f.lasts.length c2, .slice A3 x.bs.length c3] ++ entR (es.drop j) = entR (es.take j ++ x :: es.drop j) by rw [← EC.out, entR_append, List.append_assoc]; rfl)
      have e0 := (keeps_alloc W (.cells #[] 155)).cellOf c0
      obtain ⟨DA, hDA⟩ : ∃ DA, DA = dropA4 A c j := ⟨_, rfl⟩
      rw [← hDA] at AT2 hsl
      clear hDA d0 d2 AT0
      go_wp2_with (first
        | (at_builtin; refine wpList_app _ rfl _ _ 142 rfl W.heap.size 155 i0 (.agg #[.string ⟨#[]⟩, .slice none 0 0, .slice none 0 0, .slice none 0 0]) 4 88 Tryz.underlying142 hi hz0 hz1 hz2 rfl (by decide) _ 0 [] rfl OZ.out _ A j c (entR (es.take j)) rfl L1.out (AT1.out.keep K1.out) ON1.out (by unfold maxLen; omega) (by omega) (by simp) ?_; intro v6 w6 o6 g6 b6; have k6 : Keeps W w6 := Below.grown KE.out g6 KE.out.size (fun g hg => (OZ.out.lt g hg).1); rw [Nat.zero_add, List.nil_append] at o6; have O6 := Lib.hid o6; have BF6 := BF.keep k6; have f0 := BF6.cell 0 rfl; have f1 := BF6.cell 1 rfl; have f2 := BF6.cell 2 rfl; have f3 := BF6.cell 3 rfl; have K6 := Lib.hid k6; have S6 := k6.size; clear o6 g6 b6 e0 c0)
        | (at_builtin; refine wpList_app _ rfl _ _ 142 rfl W.heap.size 155 i0 (.agg #[.string ⟨#[]⟩, .slice none 0 0, .slice none 0 0, .slice none 0 0]) 4 88 Tryz.underlying142 hi hz0 hz1 hz2 rfl (by decide) _ j _ rfl (O6.out.keep (keeps_alloc w6 _)) _ (some ⟨w6.heap.size, 0, none⟩) 1 1 [.string sx, .slice A1 x.f.now.length c1, .slice A2 x.f.lasts.length c2, .slice A3 x.bs.length c3] rfl rfl (At.new _ _ _ _ (Nat.lt_succ_self _)) ON3.out (by unfold maxLen; omega) (by omega) (by simp; omega) ?_; intro v7 w7 o7 g7 b7; have k7 : Keeps W w7 := Below.grown (keeps_trans K6.out (keeps_alloc w6 _)) g7 (keeps_trans K6.out (keeps_alloc w6 _)).size (fun g hg => (O6.out.lt g hg).1); have O7 := Lib.hid o7; have d0 := CB.out _ (keeps_trans KW.out k7); have K7 := Lib.hid k7; have S7 := k7.size; have KW7 := Lib.hid (keeps_trans KW.out k7); clear o7 g7 b7 f0 f1 f2 f3)
        | (at_builtin; refine wpList_app _ rfl _ _ 142 rfl W.heap.size 155 i0 (.agg #[.string ⟨#[]⟩, .slice none 0 0, .slice none 0 0, .slice none 0 0]) 4 88 Tryz.underlying142 hi hz0 hz1 hz2 rfl (by decide) _ (j + 1) _ rfl O7.out _ DA (n - j) (c - j) (entR (es.drop j)) rfl L2.out (AT2.out.keep KW7.out) ON2.out (by unfold maxLen; omega) (by omega) S7 ?_; intro v8 w8 o8 g8 b8; have k8 : Keeps W w8 := Below.grown K7.out g8 K7.out.size (fun g hg => (O7.out.lt g hg).1); rw [ER.out, ← HN1.out] at o8; obtain ⟨A8, c8, rfl, -⟩ := o8.form; have O8 := Lib.hid o8; have Q8 := Lib.hid (keeps_trans KW.out k8); have d8 := CB.out _ Q8.out; have bx8 := H.out.box.keep Q8.out; have x8 := bx8.frozen 0; have hb8 : b < w8.heap.size := bx8.lt; have BX8 := Lib.hid bx8; clear o8 g8 b8 d0))
      have OB := Only.cell1 w8 ⟨b, 0, none⟩ (.slice A8 N' c8)
      have OWF : Only w (w8.setCell ⟨b, 0, none⟩ (.slice A8 N' c8)) (fun i => i = b) := ((Only.of_keeps Q8.out).weak (T := fun i => i = b) (fun i hi => hi.elim)).trans OB (fun i hi => .inl hi)
      have hBF : Box (w8.setCell ⟨b, 0, none⟩ (.slice A8 N' c8)) b 144 (rdC A8 N' c8 s.q s.armed s.off) := BX8.out.set 0 _
      generalize w8.setCell ⟨b, 0, none⟩ (.slice A8 N' c8) = wF at *
      have RF : Own wF 0 155 4 (.slice A8 N' c8) N' (entR (es.take j ++ x :: es.drop j)) := (O8.out.same (fun kk hk => OB.block kk (O8.out.lt kk hk).2 (fun e => O8.out.ne_box BX8.out disk_file (by rw [hk]; exact congrArg some e)))).base_le (Nat.zero_le _)
      have HO := OWF.weak (T := Core b (.slice A es.length c)) (fun i hi => .inl hi)
      have EN := fun e (q : EntOk w F e) => H.out.ent_only (F' := more w wF F) q HO (fun i hi => .inl hi)
      have FR := H.out.fresh (es' := es.take j ++ x :: es.drop j) (l' := putF s.l x.f) (A' := A8) (c' := c8) (by rw [← HN2.out]; exact hBF) HO (by rw [← HN2.out]; exact RF) (fun kk hk => .inr (by rw [← HN2.out] at hk; have h1 := (O8.out.lt kk hk).1; have h2 := KW.out.size; omega)) (by
        rw [H.out.l, putF_at (es.map (·.f)) x.f j (by rw [List.length_map, ← HN.out]; exact hjle) (fun t g ht hgt => by
          rw [List.getElem?_map] at hgt
          obtain ⟨z, hz, rfl⟩ := Option.map_eq_some_iff.1 hgt
          exact HP.out t z ht hz) (fun g hgt => by
          rw [List.getElem?_map] at hgt
          obtain ⟨z, hz, rfl⟩ := Option.map_eq_some_iff.1 hgt
          exact LAST.out z hz), List.map_append, List.map_cons, List.map_take, List.map_drop]) (fun e he => by
        rcases List.mem_append.1 he with h1 | h1
        · exact EN e (H.out.ents e (List.mem_of_mem_take h1))
        · rcases List.mem_cons.1 h1 with rfl | h1
          · exact EN _ HE.out
          · exact EN e (H.out.ents e (List.mem_of_mem_drop h1))) (H.out.lok.put HG.out HF.out HU.out)
      go_returns
      exact ⟨rfl, ⟨A8, c8, _, FR.1⟩, FR.2⟩
end
end Go.Proofs.YtkhfffflegiapaaGreatDoor
/- The reference's disk: Create, Remove, Rename. -/
namespace Go.Proofs.YtkhfffflegiapaaGreatDoor
open Go.RowKit
set_option linter.unusedSimpArgs false
set_option linter.unusedVariables false
set_option maxRecDepth 100000

section
variable {w w' : World} {b : Nat} {F : Nat → Prop} {s : Ds} {A : Option Addr} {c : Nat} {es : List Ent}
theorem Turns.more_trans {w w1 w2 : World} {F : Nat → Prop} (h : Turns w w1 F F) (k : Turns w1 w2 F (more w1 w2 F)) : Turns w w2 F (more w1 w2 F) := h.trans k
def newE (nm : List UInt8) : Ent := ⟨⟨nm, [], [], fun _ => false⟩, [], .slice none 0 0, .slice none 0 0, .slice none 0 0⟩
theorem newE_ok (w : World) (F : Nat → Prop) (nm : List UInt8) : EntOk w F (newE nm) := ⟨Own.nil _ _ _ _, Own.nil _ _ _ _, Own.nil _ _ _ _, fun k => by simp [newE], Nat.zero_le _, fun g hg => by simp [newE, Value.ownBlock] at hg, fun g hg => by simp [newE, Value.ownBlock] at hg, fun g hg => by simp [newE, Value.ownBlock] at hg⟩
set_option maxHeartbeats 4000000 in
theorem Rk.create_any (h : Rk w b F s A c es) (hm : es.length ≤ 70000) (nm : List UInt8) (hnm : nm.length ≤ maxLen) :
    Calls Tryz.prog 111 #[dpt b, strV nm] w fun e w' => e = .returned (.int .i64 ((createS s nm).2 : Int)) ∧ ∃ F', Rd w' b F' (createS s nm).1 ∧ Turns w w' F F' := by
  have H := Lib.hid h
  have GO := Lib.hid h.gone
  have NM := Lib.hid (fun V => refName_any nm hnm V)
  cases ho : (goneS s).off with
  | true =>
    have e : createS s nm = (goneS s, 6) := by unfold createS; rw [ho]; rfl
    rw [e]
    rw [ho] at GO
    unfold dpt strV at *
    clear h e
    go_enter Tryz.func111, Tryz.ntmps111
    go_wp2_with fail
    refine GO.out.mono ?_
    rintro e w1 ⟨rfl, hR, hO⟩
    have R1 := Lib.hid hR
    have T1 := Lib.hid (H.out.turn_b hO)
    clear hR hO
    go_wp2_with fail
    go_ret
    exact ⟨rfl, F, ⟨A, c, es, R1.out⟩, T1.out⟩
  | false =>
    rw [ho] at GO
    cases hn : nameOk nm with
    | false =>
      have e : createS s nm = (goneS s, 1) := by unfold createS; rw [ho, hn]; rfl
      rw [e]
      rw [hn] at NM
      unfold dpt strV at *
      clear h e
      go_enter Tryz.func111, Tryz.ntmps111
      go_wp2_with fail
      refine GO.out.mono ?_
      rintro e w1 ⟨rfl, hR, hO⟩
      have R1 := Lib.hid hR
      have T1 := Lib.hid (H.out.turn_b hO)
      clear hR hO
      go_wp2_with fail
      refine (NM.out _).mono ?_
      rintro e w' ⟨rfl, rfl⟩
      go_wp2_with fail
      go_ret
      exact ⟨rfl, F, ⟨A, c, es, R1.out⟩, T1.out⟩
    | true =>
      rw [hn] at NM
      cases hg : getF s.l nm with
      | some f =>
        have e : createS s nm = (goneS s, 4) := by unfold createS; rw [ho, hn, hg]; rfl
        rw [e]
        unfold dpt strV at *
        clear h e
        go_enter Tryz.func111, Tryz.ntmps111
        go_wp2_with fail
        refine GO.out.mono ?_
        rintro e w1 ⟨rfl, hR, hO⟩
        have R1 := Lib.hid hR
        have T1 := Lib.hid (H.out.turn_b hO)
        clear hR hO
        go_wp2_with fail
        refine (NM.out _).mono ?_
        rintro e w' ⟨rfl, rfl⟩
        go_wp2_with fail
        obtain ⟨k, x, hx, -, -, at0⟩ := R1.out.at_some hm (nm := nm) (f := f) (by rw [gone_l]; exact hg)
        refine at0.mono ?_
        rintro e w' ⟨rfl, rfl⟩
        clear at0
        go_wp2_with fail
        go_ret
        exact ⟨rfl, F, ⟨A, c, es, R1.out⟩, T1.out⟩
      | none =>
        have e : createS s nm = ({ goneS s with l := putF s.l ⟨nm, [], [], fun _ => false⟩ }, 0) := by unfold createS; rw [ho, hn, hg]; rfl
        rw [e]
        unfold dpt strV at *
        clear h e
        go_enter Tryz.func111, Tryz.ntmps111
        go_wp2_with fail
        refine GO.out.mono ?_
        rintro e w1 ⟨rfl, hR, hO⟩
        have R1 := Lib.hid hR
        have T1 := Lib.hid (H.out.turn_b hO)
        clear hR hO
        go_wp2_with fail
        refine (NM.out _).mono ?_
        rintro e w' ⟨rfl, rfl⟩
        go_wp2_with fail
        refine (R1.out.at_none hm (nm := nm) (by rw [gone_l]; exact hg)).mono ?_
        rintro e w' ⟨rfl, rfl⟩
        have PU := Lib.hid (R1.out.put_any (by omega) (newE_ok w1 F nm) (by rw [gone_l]; exact hg) (FlOk.fresh hn) (by have := R1.out.lok.used; show usedL (goneS s).l + sect 0 ≤ _; unfold sect; omega))
        unfold dpt entC newE strV at PU
        rw [gone_l] at PU
        go_wp2_with fail
        refine PU.out.mono ?_
        rintro e w2 ⟨rfl, ⟨A', c', es', hR2⟩, hT2⟩
        go_wp2_with fail
        go_ret
        exact ⟨rfl, _, ⟨A', c', es', hR2⟩, T1.out.more_trans hT2⟩
set_option maxHeartbeats 4000000 in
theorem Rk.remove_any (h : Rk w b F s A c es) (hm : es.length ≤ 70000) (nm : List UInt8) (hnm : nm.length ≤ maxLen) :
    Calls Tryz.prog 119 #[dpt b, strV nm] w fun e w' => e = .returned (.int .i64 ((removeS s nm).2 : Int)) ∧ ∃ F', Rd w' b F' (removeS s nm).1 ∧ Turns w w' F F' := by
  have H := Lib.hid h
  have GO := Lib.hid h.gone
  have NM := Lib.hid (fun V => refName_any nm hnm V)
  cases ho : (goneS s).off with
  | true =>
    have e : removeS s nm = (goneS s, 6) := by unfold removeS; rw [ho]; rfl
    rw [e]
    rw [ho] at GO
    unfold dpt strV at *
    clear h e
    go_enter Tryz.func119, Tryz.ntmps119
    go_wp2_with fail
    refine GO.out.mono ?_
    rintro e w1 ⟨rfl, hR, hO⟩
    have R1 := Lib.hid hR
    have T1 := Lib.hid (H.out.turn_b hO)
    clear hR hO
    go_wp2_with fail
    go_ret
    exact ⟨rfl, F, ⟨A, c, es, R1.out⟩, T1.out⟩
  | false =>
    rw [ho] at GO
    cases hn : nameOk nm with
    | false =>
      have e : removeS s nm = (goneS s, 1) := by unfold removeS; rw [ho, hn]; rfl
      rw [e]
      rw [hn] at NM
      unfold dpt strV at *
      clear h e
      go_enter Tryz.func119, Tryz.ntmps119
      go_wp2_with fail
      refine GO.out.mono ?_
      rintro e w1 ⟨rfl, hR, hO⟩
      have R1 := Lib.hid hR
      have T1 := Lib.hid (H.out.turn_b hO)
      clear hR hO
      go_wp2_with fail
      refine (NM.out _).mono ?_
      rintro e w' ⟨rfl, rfl⟩
      go_wp2_with fail
      go_ret
      exact ⟨rfl, F, ⟨A, c, es, R1.out⟩, T1.out⟩
    | true =>
      rw [hn] at NM
      cases hg : getF s.l nm with
      | none =>
        have e : removeS s nm = (goneS s, 3) := by unfold removeS; rw [ho, hn, hg]; rfl
        rw [e]
        unfold dpt strV at *
        clear h e
        go_enter Tryz.func119, Tryz.ntmps119
        go_wp2_with fail
        refine GO.out.mono ?_
        rintro e w1 ⟨rfl, hR, hO⟩
        have R1 := Lib.hid hR
        have T1 := Lib.hid (H.out.turn_b hO)
        clear hR hO
        go_wp2_with fail
        refine (NM.out _).mono ?_
        rintro e w' ⟨rfl, rfl⟩
        go_wp2_with fail
        refine (R1.out.at_none hm (nm := nm) (by rw [gone_l]; exact hg)).mono ?_
        rintro e w' ⟨rfl, rfl⟩
        go_wp2_with fail
        go_ret
        exact ⟨rfl, F, ⟨A, c, es, R1.out⟩, T1.out⟩
      | some f =>
        have e : removeS s nm = ({ goneS s with l := delF s.l nm }, 0) := by unfold removeS; rw [ho, hn, hg]; rfl
        rw [e]
        unfold dpt strV at *
        clear h e
        go_enter Tryz.func119, Tryz.ntmps119
        go_wp2_with fail
        refine GO.out.mono ?_
        rintro e w1 ⟨rfl, hR, hO⟩
        have R1 := Lib.hid hR
        have T1 := Lib.hid (H.out.turn_b hO)
        clear hR hO
        go_wp2_with fail
        refine (NM.out _).mono ?_
        rintro e w' ⟨rfl, rfl⟩
        go_wp2_with fail
        obtain ⟨k, x, hx, -, hxn, at0⟩ := R1.out.at_some hm (nm := nm) (f := f) (by rw [gone_l]; exact hg)
        refine at0.mono ?_
        rintro e w' ⟨rfl, rfl⟩
        have TK := Lib.hid (R1.out.take_any (by omega) hx)
        unfold dpt at TK
        rw [gone_l, hxn] at TK
        clear at0
        have hki : (k : Int) ≤ 70000 := by have := (List.getElem?_eq_some_iff.1 hx).1; omega
        go_wp2_with fail
        refine TK.out.mono ?_
        rintro e w2 ⟨rfl, ⟨A', c', hR2⟩, hT2, -⟩
        go_wp2_with fail
        go_ret
        exact ⟨rfl, _, ⟨A', c', _, hR2⟩, T1.out.more_trans hT2⟩
end
end Go.Proofs.YtkhfffflegiapaaGreatDoor
/- The reference's disk: Rename. -/
namespace Go.Proofs.YtkhfffflegiapaaGreatDoor
open Go.RowKit
set_option linter.unusedSimpArgs false
set_option linter.unusedVariables false
set_option maxRecDepth 100000

theorem delF_no {l : List Fl} {nm : List UInt8} (h : getF l nm = none) : delF l nm = l := by
  unfold delF
  rw [List.filter_eq_self]
  intro g hg
  exact decide_eq_true (getF_none h g hg)
section
variable {w w' : World} {b : Nat} {F : Nat → Prop} {s : Ds} {A : Option Addr} {c : Nat} {es : List Ent}
theorem EntOk.named {x : Ent} (h : EntOk w F x) (nm : List UInt8) : EntOk w F { x with f := { x.f with name := nm } } := ⟨h.now, h.lasts, h.loose, h.flag, h.few, h.fn, h.fl, h.fo⟩
end
end Go.Proofs.YtkhfffflegiapaaGreatDoor
