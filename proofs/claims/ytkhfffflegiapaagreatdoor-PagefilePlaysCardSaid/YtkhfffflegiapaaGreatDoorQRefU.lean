/- The reference's disk: Sync. -/
import Derived.Test.YtkhfffflegiapaaGreatDoorQRefT
import Derived.Test.YtkhfffflegiapaaGreatDoorQDkG
namespace Go.Proofs.YtkhfffflegiapaaGreatDoor
open Go.RowKit
set_option linter.unusedSimpArgs false
set_option linter.unusedVariables false
set_option maxRecDepth 100000

section
variable {w w' wF : World} {b : Nat} {F : Nat → Prop} {s : Ds} {A : Option Addr} {c : Nat} {es : List Ent}
/-- a file is another one now, its name the same -/
theorem Rk.upd (h : Rk w b F s A c es) {k : Nat} {e e' : Ent} (hk : es[k]? = some e) (ho : Only w wF (Core b (.slice A es.length c))) (hb : Box wF b 144 (rdC A es.length c s.q s.armed s.off)) (hr : Own wF 0 155 4 (.slice A es.length c) es.length (entR (es.set k e')))
    (he' : EntOk wF (more w wF F) e') (hn : e'.f.name = e.f.name) (hl : LOk (setF s.l e'.f)) : Rk wF b (more w wF F) { s with l := setF s.l e'.f } A c (es.set k e') ∧ Turns w wF F (more w wF F) := by
  have hlen : (es.set k e').length = es.length := List.length_set
  refine h.fresh (es' := es.set k e') (by rw [hlen]; exact hb) ho (by rw [hlen]; exact hr) (fun i hi => .inl (h.fA i (by rw [hlen] at hi; exact hi))) (by rw [h.l]; exact setF_set hk h.nodup hn) (fun x hx => ?_) hl
  rcases List.mem_or_eq_of_mem_set hx with h1 | h1
  · exact h.ents_only ho (fun i hi => .inl hi) x h1
  · rw [h1]; exact he'
theorem Rk.got (h : Rk w b F s A c es) {k : Nat} {e : Ent} (hk : es[k]? = some e) : getF s.l e.f.name = some e.f := getF_of_mem (names_nodup h.lok.rise) (by rw [h.l]; exact List.mem_map.2 ⟨e, List.mem_of_getElem? hk, rfl⟩)
/-- the row's cells, written -/
theorem Own.put2 {g n c : Nat} {es : List Ent} (h : Own w 0 155 4 (.slice (some ⟨g, 0, none⟩) n c) n (entR es)) {k : Nat} {e e' : Ent} (hk : es[k]? = some e) {j : Nat} (hj : j < 4) (v : Value) (he : entC e' = (entC e).set j v) :
    Own (w.setCell ⟨g, k * 4 + j, none⟩ v) 0 155 4 (.slice (some ⟨g, 0, none⟩) n c) n (entR (es.set k e')) := by
  have hlt := (List.getElem?_eq_some_iff.1 hk).1
  have := h.store (j := k * 4 + j) (by rw [entR_length]; omega) v
  rwa [entR_set es k j e e' v hk hj he] at this
theorem set_get {es : List Ent} {k : Nat} {e : Ent} (hk : es[k]? = some e) (e' : Ent) : (es.set k e')[k]? = some e' := by
  rw [List.getElem?_set, if_pos rfl, if_pos (List.getElem?_eq_some_iff.1 hk).1]
theorem row_disk {g n c : Nat} {xs : List Value} {cs : Array Value} (h : Own w 0 155 4 (.slice (some ⟨g, 0, none⟩) n c) n xs) (hb : Box w b 144 cs) : b ≠ g := fun e => h.ne_box hb disk_file (by rw [e]; rfl)
theorem Own.far {base n size : Nat} {e t : TypeId} {v : Value} {xs : List Value} (h : Own w base e size v n xs) {g m c : Nat} {ys : List Value} {size' : Nat} (hr : Own w 0 t size' (.slice (some ⟨g, 0, none⟩) m c) m ys) (hne : e ≠ t) (i : Nat) (u : Value) : Own (w.setCell ⟨g, i, none⟩ u) base e size v n xs :=
  h.same fun k hk => Below.heap_setCell w ⟨g, i, none⟩ u k (fun e' => by
    rcases h.apart hr hne with e1 | e1
    · rw [e1] at hk; cases hk
    · exact e1 (by rw [hk]; exact congrArg some (show k = g from e')))
theorem own_len {base size m N : Nat} {e : TypeId} {v : Value} {xs : List Value} (h : m = N) (o : Own w base e size v m xs) : Own w base e size v N xs := by rw [← h]; exact o
set_option maxHeartbeats 8000000 in
theorem Rk.sync_any (h : Rk w b F s A c es) (hm : es.length ≤ 70000) (nm : List UInt8) (hnm : nm.length ≤ maxLen) :
    Calls Tryz.prog 118 #[dpt b, strV nm] w fun e w' => e = .returned (.int .i64 ((syncS s nm).2 : Int)) ∧ ∃ F', Rd w' b F' (syncS s nm).1 ∧ Turns w w' F F' := by
  obtain ⟨i1, hi1, hy0, hy1, hy2⟩ := info_parts info_b8
  have H := Lib.hid h
  have GO := Lib.hid h.gone
  have NM := Lib.hid (fun V => refName_any nm hnm V)
  cases ho : (goneS s).off with
  | true =>
    have e : syncS s nm = (goneS s, 6) := by unfold syncS; rw [ho]; rfl
    rw [e]
    rw [ho] at GO
    unfold dpt strV at *
    clear h e
    go_enter Tryz.func118, Tryz.ntmps118
    go_wp2_with fail
    refine GO.out.mono ?_
    rintro e w1 ⟨rfl, hR, hO⟩
    have R1 := Lib.hid hR
    have T1 := Lib.hid (H.out.turn_b hO)
    clear hR hO
    go_wp2_with fail
    go_ret
    exact ⟨rfl, F, ⟨A, c, es, R1.out⟩, T1.out⟩
  | false =>
    rw [ho] at GO
    cases hn : nameOk nm with
    | false =>
      have e : syncS s nm = (goneS s, 1) := by unfold syncS; rw [ho, hn]; rfl
      rw [e]
      rw [hn] at NM
      unfold dpt strV at *
      clear h e
      go_enter Tryz.func118, Tryz.ntmps118
      go_wp2_with fail
      refine GO.out.mono ?_
      rintro e w1 ⟨rfl, hR, hO⟩
      have R1 := Lib.hid hR
      have T1 := Lib.hid (H.out.turn_b hO)
      clear hR hO
      go_wp2_with fail
      refine (NM.out _).mono ?_
      rintro e w' ⟨rfl, rfl⟩
      go_wp2_with fail
      go_ret
      exact ⟨rfl, F, ⟨A, c, es, R1.out⟩, T1.out⟩
    | true =>
      rw [hn] at NM
      cases hg : Proofs.YtkhfffflegiapaaGreatDoor.getF s.l nm with
      | none =>
        have e : syncS s nm = (goneS s, 3) := by unfold syncS; rw [ho, hn, hg]; rfl
        rw [e]
        unfold dpt strV at *
        clear h e
        go_enter Tryz.func118, Tryz.ntmps118
        go_wp2_with fail
        refine GO.out.mono ?_
        rintro e w1 ⟨rfl, hR, hO⟩
        have R1 := Lib.hid hR
        have T1 := Lib.hid (H.out.turn_b hO)
        clear hR hO
        go_wp2_with fail
        refine (NM.out _).mono ?_
        rintro e w' ⟨rfl, rfl⟩
        go_wp2_with fail
        refine (R1.out.at_none hm (nm := nm) (by rw [gone_l]; exact hg)).mono ?_
        rintro e w' ⟨rfl, rfl⟩
        go_wp2_with fail
        go_ret
        exact ⟨rfl, F, ⟨A, c, es, R1.out⟩, T1.out⟩
      | some f =>
        have e : syncS s nm = ({ goneS s with l := setF s.l (syncF f) }, 0) := by unfold syncS; rw [ho, hn, hg]; rfl
        rw [e]
        unfold dpt strV at *
        clear h e ho
        go_enter Tryz.func118, Tryz.ntmps118
        go_wp2_with fail
        refine GO.out.mono ?_
        rintro e w1 ⟨rfl, hR, hO⟩
        have R1 := Lib.hid hR
        have T1 := Lib.hid (H.out.turn_b hO)
        clear hR hO
        go_wp2_with fail
        refine (NM.out _).mono ?_
        rintro e w' ⟨rfl, rfl⟩
        go_wp2_with fail
        obtain ⟨k, x, hx, rfl, hxn, at0⟩ := R1.out.at_some hm (nm := nm) (f := f) (by rw [gone_l]; exact hg)
        refine at0.mono ?_
        rintro e w' ⟨rfl, rfl⟩
        clear at0
        obtain ⟨fo, eo⟩ := R1.out.ok hx
        obtain ⟨g, rfl, q1, -, hgl⟩ := R1.out.cell hx 1 (by decide)
        obtain ⟨g', hg', q2, r2, -⟩ := R1.out.cell hx 2 (by decide)
        obtain rfl : g = g' := by injection hg' with e; injection e
        obtain ⟨g', hg2', q3, r3, -⟩ := R1.out.cell hx 3 (by decide)
        obtain rfl : g = g' := by injection hg2' with e; injection e
        obtain ⟨A1, c1, e1, -⟩ := eo.now.form
        have q1' : w1.cell? ⟨g, k * 4 + 1, none⟩ = some (.slice A1 x.f.now.length c1) := by rw [q1, ← e1]; rfl
        have q2' : w1.cell? ⟨g, k * 4 + 2, none⟩ = some x.lv := q2
        have q3' : w1.cell? ⟨g, k * 4 + 3, none⟩ = some x.ov := q3
        have hBs : Bs w1 A1 x.f.now := by have := eo.now; rw [e1] at this; exact this.at_
        obtain ⟨n, hn2⟩ : ∃ n, n = es.length := ⟨_, rfl⟩
        have HN := Lib.hid hn2
        obtain ⟨m, hm2⟩ : ∃ m, m = x.f.now.length := ⟨_, rfl⟩
        have HM := Lib.hid hm2
        have c0 : w1.cell? ⟨b, 0, none⟩ = some (.slice (some ⟨g, 0, none⟩) n c) := by rw [hn2]; exact R1.out.box.cell 0 rfl
        have hki : (k : Int) < (n : Int) := by have := (List.getElem?_eq_some_iff.1 hx).1; omega
        have ni : (n : Int) ≤ 70000 := by omega
        have mi : m ≤ 16777216 := by have := fo.size; omega
        have hbg : b ≠ g := row_disk R1.out.row R1.out.box
        have hbl := R1.out.box.lt
        rw [← hm2] at q1'
        have k0 := keeps_trans (keeps_drew w1) (keeps_alloc w1.drew (.cells #[] 5))
        have B2 := Lib.hid (hBs.keep k0)
        have O0 := Lib.hid (own_empty w1.drew 5 1)
        have lcel := Lib.hid (cel_length x.f.now)
        have QS := Lib.hid (fun (V : World) (kk : Keeps w1 V) => And.intro (kk.cellOf c0) (kk.cellOf q1'))
        have QT := Lib.hid (fun (V : World) (kk : Keeps w1 V) (u : Value) => show (V.setCell ⟨g, k * 4 + 2, none⟩ u).cell? ⟨b, 0, none⟩ = some (.slice (some ⟨g, 0, none⟩) n c) ∧ (V.setCell ⟨g, k * 4 + 2, none⟩ u).cell? ⟨g, k * 4 + 1, none⟩ = some (.slice A1 m c1) from
          ⟨(World.cell?_setCell_other _ _ _ _ (by intro e; injection e with e1 e2; exact hbg e1.symm)).trans (kk.cellOf c0), (World.cell?_setCell_other _ _ _ _ (by intro e; injection e with e1 e2; omega)).trans (kk.cellOf q1')⟩)
        have Q2 := Lib.hid (fun (V : World) (kk : Keeps w1 V) => And.intro (kk.cellOf q2') (show V.frozen? ⟨g, k * 4 + 2, none⟩ = false from ((R1.out.keep kk).cell hx 2 (by decide)).elim (fun gg hh => by
          have e : g = gg := by have := hh.1; injection this with e; injection e
          rw [e]; exact hh.2.2.1)))
        have Q3 := Lib.hid (fun (V : World) (kk : Keeps w1 V) => And.intro (kk.cellOf q3') (show V.frozen? ⟨g, k * 4 + 3, none⟩ = false from ((R1.out.keep kk).cell hx 3 (by decide)).elim (fun gg hh => by
          have e : g = gg := by have := hh.1; injection this with e; injection e
          rw [e]; exact hh.2.2.1)))
        have HX := Lib.hid hx
        have FO := Lib.hid fo
        have EO := Lib.hid eo
        have HXN := Lib.hid hxn
        clear hx fo eo q1 q2 q3 q1' q2' q3' r2 r3 hBs hg' hg2' hn2 hm2 hxn hg
        go_wp2_with fail
        go_region_held3 (fun V => V.cell? ⟨b, 0, none⟩ = some (.slice (some ⟨g, 0, none⟩) n c) ∧ V.cell? ⟨g, k * 4 + 1, none⟩ = some (.slice A1 m c1)) (first | exact QS.out _ (by first | assumption | exact keeps_refl _ | exact keeps_drew _ | exact k0) | exact QT.out _ (by assumption) _) (first
          | ((refine step_appD _ rfl (.tmp 23) (.tmp 31) 22 rfl w1.heap.size 5 i1 (.int .u8 0) 1 1 Tryz.underlying22 hi1 hy0 hy1 hy2 rfl (by decide) _ 0 [] (by simp [Act.eval, Act.put]) O0.out _ A1 m c1 (cel x.f.now) (by simp [Act.eval, Act.put]) (by rw [lcel.out, ← HM.out, Nat.mul_one]) B2.out (cel_one _) (by unfold maxLen; omega) (by omega) (by simp) ?_); intro v6 w6 hown6 hgrow6 hblk6; have k6 : Keeps w1 w6 := Below.grown k0 hgrow6 k0.size (fun g hg => (O0.out.lt g hg).1); have O6 := Lib.hid (show Own w6 w1.heap.size 5 1 v6 m (cel x.f.now) by simpa using hown6); obtain ⟨A6, c6, rfl, -⟩ := O6.out.form; obtain ⟨z2, y2⟩ := Q2.out _ k6; clear hown6 hgrow6 hblk6))
        have K6 := Lib.hid k6
        have RW0 := R1.out.row.keep k6
        have RW1 := Own.put2 RW0 HX.out (j := 2) (by decide) (.slice A6 m c6) (e' := { x with lv := .slice A6 m c6 }) rfl
        obtain ⟨g9, hg9, z3, y3, -⟩ := RW1.cell (j := k * 4 + 3) (by rw [entR_length, List.length_set]; have := (List.getElem?_eq_some_iff.1 HX.out).1; omega)
        obtain rfl : g = g9 := by injection hg9 with e; injection e
        rw [entR_get (set_get HX.out _) 3 (by decide)] at z3
        have z3' : (w6.setCell ⟨g, k * 4 + 2, none⟩ (.slice A6 m c6)).cell? ⟨g, k * 4 + 3, none⟩ = some x.ov := z3
        have d0 := (QT.out _ k6 (.slice A6 m c6)).1
        have FIN := Lib.hid (show Rk ((w6.setCell ⟨g, k * 4 + 2, none⟩ (.slice A6 m c6)).setCell ⟨g, k * 4 + 3, none⟩ (.slice none 0 0)) b (more w1 ((w6.setCell ⟨g, k * 4 + 2, none⟩ (.slice A6 m c6)).setCell ⟨g, k * 4 + 3, none⟩ (.slice none 0 0)) F) { goneS s with l := setF s.l (syncF x.f) } (some ⟨g, 0, none⟩) c (es.set k ⟨syncF x.f, [], x.nv, .slice A6 m c6, .slice none 0 0⟩) ∧ Turns w1 ((w6.setCell ⟨g, k * 4 + 2, none⟩ (.slice A6 m c6)).setCell ⟨g, k * 4 + 3, none⟩ (.slice none 0 0)) F (more w1 ((w6.setCell ⟨g, k * 4 + 2, none⟩ (.slice A6 m c6)).setCell ⟨g, k * 4 + 3, none⟩ (.slice none 0 0)) F) from by
          have RW2 := Own.put2 RW1 (set_get HX.out _) (j := 3) (by decide) (.slice none 0 0) (e' := ⟨syncF x.f, [], x.nv, .slice A6 m c6, .slice none 0 0⟩) rfl
          rw [List.set_set] at RW2
          have OW : Only w1 ((w6.setCell ⟨g, k * 4 + 2, none⟩ (.slice A6 m c6)).setCell ⟨g, k * 4 + 3, none⟩ (.slice none 0 0)) (Core b (.slice (some ⟨g, 0, none⟩) es.length c)) := (((Only.of_keeps k6).weak (fun i hi => hi.elim)).trans (Only.cell1 w6 ⟨g, k * 4 + 2, none⟩ _) (fun i hi => .inl (.inr (by rw [hi]; rfl)))).trans (Only.cell1 _ ⟨g, k * 4 + 3, none⟩ _) (fun i hi => .inl (.inr (by rw [hi]; rfl)))
          have O6F := ((O6.out.far RW0 u8_file (k * 4 + 2) (.slice A6 m c6)).far RW1 u8_file (k * 4 + 3) (.slice none 0 0))
          have BXF := ((R1.out.box.keep k6).far (p := ⟨g, k * 4 + 2, none⟩) hbg (.slice A6 m c6)).far (p := ⟨g, k * 4 + 3, none⟩) hbg (.slice none 0 0)
          have EN := R1.out.ent_only (F' := more w1 ((w6.setCell ⟨g, k * 4 + 2, none⟩ (.slice A6 m c6)).setCell ⟨g, k * 4 + 3, none⟩ (.slice none 0 0)) F) EO.out OW (fun i hi => .inl hi)
          have U := R1.out.upd HX.out (e' := ⟨syncF x.f, [], x.nv, .slice A6 m c6, .slice none 0 0⟩) OW BXF RW2 ⟨EN.now, own_len HM.out (O6F.base_le (Nat.zero_le _)), Own.nil _ _ _ _, fun k => by simp [syncF], Nat.zero_le _, EN.fn, fun gg hgg => .inr ⟨(O6.out.lt gg hgg).1, (O6F.lt gg hgg).2⟩, fun gg hgg => by simp [Value.ownBlock] at hgg⟩ rfl (R1.out.lok.set (show Proofs.YtkhfffflegiapaaGreatDoor.getF (goneS s).l (syncF x.f).name = some x.f from R1.out.got HX.out) FO.out.sync (by have := R1.out.lok.used; show usedL _ + sect x.f.now.length ≤ 1048576 + sect x.f.now.length; omega))
          rw [gone_l] at U
          exact U)
        clear z2 y2 z3 RW0 RW1 QT Q2 QS Q3
        go_wp2_with fail
        go_ret
        exact ⟨rfl, _, ⟨_, _, _, FIN.out.1⟩, T1.out.trans FIN.out.2⟩
end
end Go.Proofs.YtkhfffflegiapaaGreatDoor
/- The reference's disk: Flip. -/
namespace Go.Proofs.YtkhfffflegiapaaGreatDoor
open Go.RowKit
set_option linter.unusedSimpArgs false
set_option linter.unusedVariables false
set_option maxRecDepth 100000

/-- between two stores: only the disk's own block and its row were written -/
structure Mid (w W : World) (b g c : Nat) (s : Ds) (n : Nat) (es : List Ent) : Prop where
  only : Only w W (Core b (.slice (some ⟨g, 0, none⟩) n c))
  box : Box W b 144 (rdC (some ⟨g, 0, none⟩) n c s.q s.armed s.off)
  row : Own W 0 155 4 (.slice (some ⟨g, 0, none⟩) n c) n (entR es)
section
variable {w W W' : World} {b g c n : Nat} {F : Nat → Prop} {s : Ds} {es : List Ent}
theorem Rk.mid (h : Rk w b F s (some ⟨g, 0, none⟩) c es) (hn : n = es.length) : Mid w w b g c s n es := by
  subst hn
  exact ⟨Only.refl _ _, h.box, h.row⟩
theorem Mid.keep (h : Mid w W b g c s n es) (k : Keeps W W') : Mid w W' b g c s n es := ⟨h.only.keep k, h.box.keep k, h.row.keep k⟩
theorem Mid.ne (h : Mid w W b g c s n es) : b ≠ g := row_disk h.row h.box
theorem Mid.put (h : Mid w W b g c s n es) {k : Nat} {e e' : Ent} (hk : es[k]? = some e) {j : Nat} (hj : j < 4) (v : Value) (he : entC e' = (entC e).set j v) :
    Mid w (W.setCell ⟨g, k * 4 + j, none⟩ v) b g c s n (es.set k e') :=
  ⟨h.only.trans (Only.cell1 W ⟨g, k * 4 + j, none⟩ v) (fun i hi => .inl (.inr (by rw [hi]; rfl))), h.box.far (p := ⟨g, k * 4 + j, none⟩) h.ne v, Own.put2 h.row hk hj v he⟩
theorem Mid.c0 (h : Mid w W b g c s n es) : W.cell? ⟨b, 0, none⟩ = some (.slice (some ⟨g, 0, none⟩) n c) := h.box.cell 0 rfl
theorem Mid.cell (h : Mid w W b g c s n es) {k : Nat} {e : Ent} (hk : es[k]? = some e) (j : Nat) (hj : j < 4) : W.cell? ⟨g, k * 4 + j, none⟩ = (entC e)[j]? ∧ W.frozen? ⟨g, k * 4 + j, none⟩ = false := by
  obtain ⟨g9, hg9, z9, y9, -⟩ := h.row.cell (j := k * 4 + j) (by rw [entR_length]; have := (List.getElem?_eq_some_iff.1 hk).1; omega)
  obtain rfl : g = g9 := by injection hg9 with e; injection e
  rw [entR_get hk j hj] at z9
  exact ⟨z9, y9⟩
theorem Mid.far8 (h : Mid w W b g c s n es) {base m : Nat} {v : Value} {xs : List Value} (o : Own W base 5 1 v m xs) (i : Nat) (u : Value) : Own (W.setCell ⟨g, i, none⟩ u) base 5 1 v m xs := o.far h.row u8_file i u
theorem Mid.farb (h : Mid w W b g c s n es) {base m : Nat} {v : Value} {xs : List Value} (o : Own W base 4 1 v m xs) (i : Nat) (u : Value) : Own (W.setCell ⟨g, i, none⟩ u) base 4 1 v m xs := o.far h.row bool_file i u
theorem Mid.fin {k : Nat} {e e' : Ent} (R : Rk w b F s (some ⟨g, 0, none⟩) c es) (hk : es[k]? = some e) (hn : n = es.length) (h : Mid w W b g c s n (es.set k e')) (he' : EntOk W (more w W F) e') (hnm : e'.f.name = e.f.name) (hl : LOk (setF s.l e'.f)) :
    Rk W b (more w W F) { s with l := setF s.l e'.f } (some ⟨g, 0, none⟩) c (es.set k e') ∧ Turns w W F (more w W F) := by
  subst hn
  exact R.upd hk h.only h.box h.row he' hnm hl
theorem Mid.ent {e : Ent} (R : Rk w b F s (some ⟨g, 0, none⟩) c es) (hn : n = es.length) {es' : List Ent} (h : Mid w W b g c s n es') (he : EntOk w F e) : EntOk W (more w W F) e := by
  subst hn
  exact R.ent_only he h.only (fun i hi => .inl hi)
theorem mid_new (h : Mid w W b g c s n es) {base : Nat} (hb : w.heap.size ≤ base) {t : TypeId} {v : Value} {m : Nat} {xs : List Value} (o : Own W base t 1 v m xs) : ∀ i, v.ownBlock = some i → more w W F i :=
  fun i hi => .inr ⟨Nat.le_trans hb (o.lt i hi).1, (o.lt i hi).2⟩
theorem keeps_store {W : World} {base m : Nat} {t : TypeId} {A : Option Addr} {cap : Nat} {xs : List Value} {g j : Nat} (k : Keeps w W) (o : Own W base t 1 (.slice (some ⟨g, 0, none⟩) m cap) m xs) (hb : w.heap.size ≤ base) (u : Value) : Keeps w (W.setCell ⟨g, j, none⟩ u) := by
  have := (o.lt g rfl).1
  exact ((Only.of_keeps k).trans (Only.cell1 W ⟨g, j, none⟩ u) (fun i hi => .inr (by rw [hi]; show w.heap.size ≤ g; omega))).below (S := fun _ => False) (B := w.heap.size) (fun k hk => hk.elim) (Nat.le_refl _)
theorem setF_setF (l : List Fl) {f f' : Fl} (hn : f'.name = f.name) : setF (setF l f) f' = setF l f' := by
  unfold setF
  rw [List.map_map]
  apply List.map_congr_left
  intro x _
  simp only [Function.comp]
  by_cases e : x.name = f.name
  · rw [if_pos e, if_pos hn.symm, if_pos (by rw [hn]; exact e)]
  · rw [if_neg e]
end
section
variable {w w' wF : World} {b : Nat} {F : Nat → Prop} {s : Ds} {A : Option Addr} {c : Nat} {es : List Ent}
set_option maxHeartbeats 8000000 in
theorem Rk.flip_any (h : Rk w b F s A c es) (hm : es.length ≤ 70000) (nm : List UInt8) (i : Int) (m : UInt8) (hnm : nm.length ≤ maxLen) (h1 : -9223372036854775808 ≤ i) (h2 : i ≤ 9223372036854775807) :
    Calls Tryz.prog 124 #[dpt b, strV nm, .int .i64 i, .int .u8 (m.toNat : Int)] w fun e w' => e = .returned (.int .i64 ((flipS s nm i m).2 : Int)) ∧ ∃ F', Rd w' b F' (flipS s nm i m).1 ∧ Turns w w' F F' := by
  obtain ⟨i1, hi1, hy0, hy1, hy2⟩ := info_parts info_b8
  have H := Lib.hid h
  have c3 : w.cell? ⟨b, 3, none⟩ = some (.bool s.off) := h.box.cell 3 rfl
  have hl := h.box.lt
  have NM := Lib.hid (refName_any nm hnm w)
  have RD := Lib.hid (show Rd w b F s from ⟨A, c, es, h⟩)
  cases ho : s.off with
  | true =>
    have e : flipS s nm i m = (s, 6) := by unfold flipS; rw [ho]; rfl
    rw [e]
    rw [ho] at c3
    unfold dpt strV
    clear h e
    generalize m.toNat = mm at *
    go_enter Tryz.func124, Tryz.ntmps124
    go_wp2_with fail
    go_ret
    exact ⟨rfl, F, RD.out, Turns.refl _ _⟩
  | false =>
    rw [ho] at c3
    cases hn : nameOk nm with
    | false =>
      have e : flipS s nm i m = (s, 1) := by unfold flipS; rw [ho, if_neg (by simp), if_pos (.inl hn)]
      rw [e]
      rw [hn] at NM
      unfold dpt strV
      clear h e
      generalize m.toNat = mm at *
      go_enter Tryz.func124, Tryz.ntmps124
      go_wp2_with fail
      refine NM.out.mono ?_
      rintro e w' ⟨rfl, rfl⟩
      go_wp2_with fail
      go_ret
      exact ⟨rfl, F, RD.out, Turns.refl _ _⟩
    | true =>
      rw [hn] at NM
      by_cases hm0 : m = 0
      · have e : flipS s nm i m = (s, 1) := by unfold flipS; rw [ho, if_neg (by simp), if_pos (.inr (.inl hm0))]
        rw [e]
        have hz : ((m.toNat : Int) == 0) = true := by rw [hm0]; rfl
        unfold dpt strV
        clear h e hm0
        generalize m.toNat = mm at *
        go_enter Tryz.func124, Tryz.ntmps124
        go_wp2_with fail
        refine NM.out.mono ?_
        rintro e w' ⟨rfl, rfl⟩
        go_wp2_with fail
        go_ret
        exact ⟨rfl, F, RD.out, Turns.refl _ _⟩
      · have hz : ((m.toNat : Int) == 0) = false := by
          rw [beq_eq_false_iff_ne]
          intro e
          exact hm0 (UInt8.toNat_inj.1 (by have : m.toNat = 0 := by omega
                                           rw [this]; rfl))
        by_cases hi : i < 0
        · have e : flipS s nm i m = (s, 1) := by unfold flipS; rw [ho, if_neg (by simp), if_pos (.inr (.inr hi))]
          rw [e]
          unfold dpt strV
          clear h e hm0
          generalize m.toNat = mm at *
          go_enter Tryz.func124, Tryz.ntmps124
          go_wp2_with fail
          refine NM.out.mono ?_
          rintro e w' ⟨rfl, rfl⟩
          go_wp2_with fail
          go_ret
          exact ⟨rfl, F, RD.out, Turns.refl _ _⟩
        · obtain ⟨j, rfl⟩ := Int.eq_ofNat_of_zero_le (show 0 ≤ i by omega)
          have hnb : ¬ (nameOk nm = false ∨ m = 0 ∨ (j : Int) < 0) := by rw [hn]; simp [hm0]
          clear hi h1
          cases hg : getF s.l nm with
          | none =>
            have e : flipS s nm (j : Int) m = (s, 3) := by unfold flipS; rw [ho, if_neg (by simp), if_neg hnb, hg]
            rw [e]
            have AT := Lib.hid (h.at_none hm hg)
            unfold dpt strV at *
            clear h e hm0 hnb
            generalize m.toNat = mm at *
            go_enter Tryz.func124, Tryz.ntmps124
            go_wp2_with fail
            refine NM.out.mono ?_
            rintro e w' ⟨rfl, rfl⟩
            go_wp2_with fail
            refine AT.out.mono ?_
            rintro e w' ⟨rfl, rfl⟩
            go_wp2_with fail
            go_ret
            exact ⟨rfl, F, RD.out, Turns.refl _ _⟩
          | some f =>
            obtain ⟨k, x, hx, rfl, hxn, at0⟩ := h.at_some hm hg
            have AT := Lib.hid at0
            clear at0
            obtain ⟨fo, eo⟩ := h.ok hx
            obtain ⟨g, rfl, q0, -, hgl⟩ := h.cell hx 0 (by decide)
            obtain ⟨g', hg', q1, r1, -⟩ := h.cell hx 1 (by decide)
            obtain rfl : g = g' := by injection hg' with e; injection e
            obtain ⟨g', hg2', q2, r2, -⟩ := h.cell hx 2 (by decide)
            obtain rfl : g = g' := by injection hg2' with e; injection e
            obtain ⟨g', hg3', q3, r3, -⟩ := h.cell hx 3 (by decide)
            obtain rfl : g = g' := by injection hg3' with e; injection e
            obtain ⟨A1, c1, e1, hc1, hcm1, -⟩ := eo.now.form
            obtain ⟨A2, c2, e2, hc2, hcm2, -⟩ := eo.lasts.form
            obtain ⟨A3, c3, e3, hc3, hcm3, -⟩ := eo.loose.form
            obtain ⟨n, hn2⟩ : ∃ n, n = es.length := ⟨_, rfl⟩
            have HN := Lib.hid hn2
            obtain ⟨m1, hm1⟩ : ∃ m, m = x.f.now.length := ⟨_, rfl⟩
            obtain ⟨m2, hm2⟩ : ∃ m, m = x.f.lasts.length := ⟨_, rfl⟩
            obtain ⟨m3, hm3⟩ : ∃ m, m = x.bs.length := ⟨_, rfl⟩
            rw [← hm1] at e1 hc1
            rw [← hm2] at e2 hc2
            rw [← hm3] at e3 hc3
            have HM1 := Lib.hid hm1
            have HM2 := Lib.hid hm2
            have HM3 := Lib.hid hm3
            have EC := Lib.hid (show entC x = [.string (str x.f.name), .slice A1 m1 c1, .slice A2 m2 c2, .slice A3 m3 c3] by unfold entC strV; rw [e1, e2, e3])
            rw [EC.out] at q0 q1 q2 q3
            have q0' : w.cell? ⟨g, k * 4, none⟩ = some (.string (str x.f.name)) := q0
            have q1' : w.cell? ⟨g, k * 4 + 1, none⟩ = some (.slice A1 m1 c1) := q1
            have q2' : w.cell? ⟨g, k * 4 + 2, none⟩ = some (.slice A2 m2 c2) := q2
            have q3' : w.cell? ⟨g, k * 4 + 3, none⟩ = some (.slice A3 m3 c3) := q3
            have hB1 : Bs w A1 x.f.now := by have := eo.now; rw [e1] at this; exact (own_len hm1.symm this).at_
            have hB2 : Bs w A2 x.f.lasts := by have := eo.lasts; rw [e2] at this; exact (own_len hm2.symm this).at_
            have hB3 : At w w.heap.size A3 (bolC x.bs) := by have := eo.loose; rw [e3] at this; exact (own_len hm3.symm this).at_
            have c0 : w.cell? ⟨b, 0, none⟩ = some (.slice (some ⟨g, 0, none⟩) n c) := by rw [hn2]; exact h.box.cell 0 rfl
            have hki : (k : Int) < (n : Int) := by have := (List.getElem?_eq_some_iff.1 hx).1; omega
            have ni : (n : Int) ≤ 70000 := by omega
            have mi1 : m1 ≤ 16777216 := by have := fo.size; omega
            have mi2 : m2 ≤ m1 := by have := fo.lasts; omega
            have mi3 : m3 ≤ sect m1 := by have h1 := eo.few; rw [← hm1, ← hm3] at h1; exact h1
            have MI1 := Lib.hid mi1
            have MI2 := Lib.hid mi2
            have MI3 := Lib.hid mi3
            have hbg : b ≠ g := row_disk h.row h.box
            have hbl := h.box.lt
            have HBG := Lib.hid hbg
            have HBL := Lib.hid hbl
            have HGL := Lib.hid hgl
            generalize hsx : str x.f.name = sx at *
            have KF := Lib.hid (keeps_alloc w (.cells #[.string sx, .slice A1 m1 c1, .slice A2 m2 c2, .slice A3 m3 c3] 155))
            have BF := Lib.hid (Box.new w 155 #[.string sx, .slice A1 m1 c1, .slice A2 m2 c2, .slice A3 m3 c3])
            have HSX := Lib.hid hsx
            have HX := Lib.hid hx
            have FO := Lib.hid fo
            have EO := Lib.hid eo
            have HXN := Lib.hid hxn
            have HB1 := Lib.hid hB1
            have HB2 := Lib.hid hB2
            have HB3 := Lib.hid hB3
            have HC1 := Lib.hid hc1
            have HC2 := Lib.hid hc2
            have HC3 := Lib.hid hc3
            have E1 := Lib.hid e1
            have E2 := Lib.hid e2
            have E3 := Lib.hid e3
            have LC1 := Lib.hid (show (cel x.f.now).length = m1 by rw [cel_length]; exact hm1.symm)
            have LC2 := Lib.hid (show (cel x.f.lasts).length = m2 by rw [cel_length]; exact hm2.symm)
            have LC3 := Lib.hid (show (bolC x.bs).length = m3 by rw [bolC_length]; exact hm3.symm)
            have hgf : g ≠ w.heap.size := by omega
            have hbf : b ≠ w.heap.size := by omega
            have HGF := Lib.hid hgf
            have HBF := Lib.hid hbf
            clear fo eo q0 q1 q2 q3 r1 r2 r3 hg' hg2' hg3' hn2 hm1 hm2 hm3 hxn hB1 hB2 hB3 e1 e2 e3 hx hsx hc1 hc2 hc3 hcm1 hcm2 hcm3 hgl hbl hbg hgf hbf mi1 mi2 mi3
            by_cases hlen : x.f.now.length ≤ j
            · have e : flipS s nm (j : Int) m = (s, 1) := by unfold flipS; rw [ho, if_neg (by simp), if_neg hnb, hg]; simp [hlen]
              rw [e]
              have hji : (m1 : Int) ≤ (j : Int) := by have := HM1.out; omega
              unfold dpt strV at *
              clear h e hm0 hnb hlen
              generalize m.toNat = mm at *
              go_enter Tryz.func124, Tryz.ntmps124
              go_wp2_with fail
              refine NM.out.mono ?_
              rintro e w' ⟨rfl, rfl⟩
              go_wp2_with fail
              refine AT.out.mono ?_
              rintro e w' ⟨rfl, rfl⟩
              go_wp2_with fail
              go_ret
              exact ⟨rfl, F, ⟨_, _, _, H.out.keep KF.out⟩, Turns.of_keeps KF.out⟩
            · have e : flipS s nm (j : Int) m = ({ s with l := setF s.l (flipF x.f j m) }, 0) := by unfold flipS; rw [ho, if_neg (by simp), if_neg hnb, hg]; simp [hlen]
              rw [e]
              have hj1 : j < m1 := by have := HM1.out; omega
              have hji : (j : Int) < (m1 : Int) := by omega
              have JL := Lib.hid (show j < x.f.now.length by omega)
              have hx1 := u8_xor_nat (x.f.now.getD j 0).toNat m.toNat (UInt8.toNat_lt _) (UInt8.toNat_lt _)
              rw [← UInt8.toNat_xor] at hx1
              have hx2 := u8_xor_nat (x.f.lasts.getD j 0).toNat m.toNat (UInt8.toNat_lt _) (UInt8.toNat_lt _)
              rw [← UInt8.toNat_xor] at hx2
              obtain ⟨x1, hX1⟩ : ∃ x1, x1 = (x.f.now.getD j 0).toNat := ⟨_, rfl⟩
              obtain ⟨y1, hY1⟩ : ∃ y1, y1 = (x.f.now.getD j 0 ^^^ m).toNat := ⟨_, rfl⟩
              obtain ⟨x2, hX2⟩ : ∃ x2, x2 = (x.f.lasts.getD j 0).toNat := ⟨_, rfl⟩
              obtain ⟨y2, hY2⟩ : ∃ y2, y2 = (x.f.lasts.getD j 0 ^^^ m).toNat := ⟨_, rfl⟩
              rw [← hX1, ← hY1] at hx1
              rw [← hX2, ← hY2] at hx2
              have oz := own_empty (w.alloc (.cells #[.string sx, .slice A1 m1 c1, .slice A2 m2 c2, .slice A3 m3 c3] 155)) 5 1
              rw [show (w.alloc (.cells #[.string sx, .slice A1 m1 c1, .slice A2 m2 c2, .slice A3 m3 c3] 155)).heap.size = w.heap.size + 1 by simp] at oz
              have OZ := Lib.hid oz
              have K0 := Lib.hid (keeps_trans KF.out (keeps_alloc (w.alloc (.cells #[.string sx, .slice A1 m1 c1, .slice A2 m2 c2, .slice A3 m3 c3] 155)) (.cells #[] 5)))
              have K1 := Lib.hid (keeps_alloc (w.alloc (.cells #[.string sx, .slice A1 m1 c1, .slice A2 m2 c2, .slice A3 m3 c3] 155)) (.cells #[] 5))
              have S0 := Lib.hid (show (w.alloc (.cells #[.string sx, .slice A1 m1 c1, .slice A2 m2 c2, .slice A3 m3 c3] 155)).heap.size = w.heap.size + 1 by simp)
              have GY1 := Lib.hid (show (cel x.f.now)[j]? = some (.int .u8 (x1 : Int)) by rw [hX1]; exact cel_get x.f.now JL.out)
              have FL1 := Lib.hid (show (cel x.f.now).set j (.int .u8 (y1 : Int)) = cel (flipB x.f.now j m) by rw [hY1]; exact cel_flip x.f.now j m)
              have GY2 := Lib.hid (fun (q : j < x.f.lasts.length) => show (cel x.f.lasts)[j]? = some (.int .u8 (x2 : Int)) by rw [hX2]; exact cel_get x.f.lasts q)
              have FL2 := Lib.hid (show (cel x.f.lasts).set j (.int .u8 (y2 : Int)) = cel (flipB x.f.lasts j m) by rw [hY2]; exact cel_flip x.f.lasts j m)
              clear hX1 hY1 hX2 hY2
              have ML := Lib.hid (flipB_len x.f.now j m)
              have ML2 := Lib.hid (flipB_len x.f.lasts j m)
              -- what came of it all
              have DONE : ∀ (W : World) (lv' : Value) (v : Value), Mid w W b g c s n (es.set k ⟨flipF x.f j m, x.bs, v, lv', .slice A3 m3 c3⟩) → Own W w.heap.size 5 1 v m1 (cel (flipB x.f.now j m)) → Own W 0 5 1 lv' m2 (cel (flipB x.f.lasts j m)) → (∀ i, lv'.ownBlock = some i → more w W F i) →
                  ∃ F', Rd W b F' { s with l := setF s.l (flipF x.f j m) } ∧ Turns w W F F' := fun W lv' v M o1 o2 ho2 => by
                have EN := M.ent H.out HN.out EO.out
                have U := M.fin (e' := ⟨flipF x.f j m, x.bs, v, lv', .slice A3 m3 c3⟩) H.out HX.out HN.out
                  ⟨own_len (by rw [HM1.out]; exact (flipB_len _ _ _).symm) (o1.base_le (Nat.zero_le _)), own_len (by rw [HM2.out]; exact (flipB_len _ _ _).symm) o2, by have := EN.loose; rw [E3.out] at this; exact this, EN.flag, by have := EN.few; show x.bs.length ≤ sect (flipB x.f.now j m).length; rw [flipB_len]; exact this,
                   mid_new M (Nat.le_refl _) o1, ho2, by have := EN.fo; rw [E3.out] at this; exact this⟩ rfl
                  (H.out.lok.set (f := x.f) (f' := flipF x.f j m) (H.out.got HX.out) (FO.out.flip j m) (by show usedL s.l + sect (flipB x.f.now j m).length ≤ _; rw [flipB_len]; have := H.out.lok.used; omega))
                exact ⟨_, ⟨_, _, _, U.1⟩, U.2⟩
              have DN := Lib.hid DONE
              clear DONE
              unfold dpt strV at *
              clear h e hm0 hnb hlen oz
              have EN1 := Lib.hid (fun (v : Value) => show entC ⟨flipF x.f j m, x.bs, v, .slice A2 m2 c2, .slice A3 m3 c3⟩ = (entC x).set 1 v by
                rw [EC.out, ← HSX.out]; rfl)
              have FLB2 := Lib.hid (show ∀ (B : Nat) (W : World) (v : Value), j < m2 → Own W B 5 1 v m2 (cel x.f.lasts) → ∃ g6 c6, v = .slice (some ⟨g6, 0, none⟩) m2 c6 ∧ W.cell? ⟨g6, j, none⟩ = some (.int .u8 (x2 : Int)) ∧ W.frozen? ⟨g6, j, none⟩ = false ∧ Own (W.setCell ⟨g6, j, none⟩ (.int .u8 (y2 : Int))) B 5 1 (.slice (some ⟨g6, 0, none⟩) m2 c6) m2 (cel (flipB x.f.lasts j m)) ∧ B ≤ g6 from fun B W v hjm o => by
                obtain ⟨A6, c6, rfl, -⟩ := o.form
                obtain ⟨g6, rfl, z1, z2, -⟩ := o.cell (j := j) (by rw [LC2.out]; exact hjm)
                rw [GY2.out (by rw [← HM2.out]; exact hjm)] at z1
                have st := o.store (j := j) (by rw [LC2.out]; exact hjm) (.int .u8 (y2 : Int))
                rw [FL2.out] at st
                exact ⟨g6, c6, rfl, z1, z2, st, (o.lt g6 rfl).1⟩)
              have FLB := Lib.hid (show ∀ (W : World) (v : Value), Own W (w.heap.size + 1) 5 1 v m1 (cel x.f.now) → ∃ g6 c6, v = .slice (some ⟨g6, 0, none⟩) m1 c6 ∧ W.cell? ⟨g6, j, none⟩ = some (.int .u8 (x1 : Int)) ∧ W.frozen? ⟨g6, j, none⟩ = false ∧ Own (W.setCell ⟨g6, j, none⟩ (.int .u8 (y1 : Int))) (w.heap.size + 1) 5 1 (.slice (some ⟨g6, 0, none⟩) m1 c6) m1 (cel (flipB x.f.now j m)) ∧ w.heap.size + 1 ≤ g6 from fun W v o => by
                obtain ⟨A6, c6, rfl, -⟩ := o.form
                obtain ⟨g6, rfl, z1, z2, -⟩ := o.cell (j := j) (by rw [LC1.out]; exact hj1)
                rw [GY1.out] at z1
                have st := o.store (j := j) (by rw [LC1.out]; exact hj1) (.int .u8 (y1 : Int))
                rw [FL1.out] at st
                exact ⟨g6, c6, rfl, z1, z2, st, (o.lt g6 rfl).1⟩)
              by_cases hl2 : j < m2
              · have hli : (j : Int) < (m2 : Int) := by omega
                generalize m.toNat = mm at *
                go_enter Tryz.func124, Tryz.ntmps124
                go_wp2_with fail
                refine NM.out.mono ?_
                rintro e w' ⟨rfl, rfl⟩
                go_wp2_with fail
                refine AT.out.mono ?_
                rintro e w' ⟨rfl, rfl⟩
                go_wp2_with (first
                  | (at_builtin; refine wpList_app _ rfl _ _ 22 rfl w6.heap.size 5 i1 (.int .u8 0) 1 1 Tryz.underlying22 hi1 hy0 hy1 hy2 rfl (by decide) _ 0 [] rfl OZ6.out _ A2 m2 c2 (cel x.f.lasts) rfl (by rw [LC2.out, Nat.mul_one]) B6.out (cel_one _) (by have := MI1.out; have := MI2.out; unfold maxLen; omega) (by have := MI1.out; have := MI2.out; omega) (by simp) ?_; intro v8 w8 o8 g8' b8; have k8 : Keeps ((w6.setCell ⟨g6, j, none⟩ (.int .u8 (y1 : Int))).setCell ⟨g, k * 4 + 1, none⟩ (.slice (some ⟨g6, 0, none⟩) m1 c6)) w8 := Below.grown K6.out g8' K6.out.size (fun g hg => by have := (OZ6.out.lt g hg).1; rw [SZ6.out]; exact this); rw [Nat.zero_add, List.nil_append] at o8; obtain ⟨g8, c8, rfl, z5, fz5, o9, hg8⟩ := FLB2.out _ w8 v8 hl2 o8; have kV : Keeps ((w6.setCell ⟨g6, j, none⟩ (.int .u8 (y1 : Int))).setCell ⟨g, k * 4 + 1, none⟩ (.slice (some ⟨g6, 0, none⟩) m1 c6)) (w8.setCell ⟨g8, j, none⟩ (.int .u8 (y2 : Int))) := keeps_store (A := none) k8 o8 (by rw [SZ6.out]; exact Nat.le_refl _) _; have MV := MP'.out.keep kV; have d5 := MV.c0; obtain ⟨z6, fz6⟩ := MV.cell (set_get HX.out _) 2 (by decide); have z6' : (w8.setCell ⟨g8, j, none⟩ (.int .u8 (y2 : Int))).cell? ⟨g, k * 4 + 2, none⟩ = some (.slice A2 m2 c2) := z6; have MQ := MV.put (e' := ⟨flipF x.f j m, x.bs, .slice (some ⟨g6, 0, none⟩) m1 c6, .slice (some ⟨g8, 0, none⟩) m2 c8, .slice A3 m3 c3⟩) (set_get HX.out _) (j := 2) (by decide) (.slice (some ⟨g8, 0, none⟩) m2 c8) rfl; rw [List.set_set] at MQ; have O7' := Lib.hid (MV.far8 (O7.out.keep kV) (k * 4 + 2) (.slice (some ⟨g8, 0, none⟩) m2 c8)); have O9 := Lib.hid (MV.far8 o9 (k * 4 + 2) (.slice (some ⟨g8, 0, none⟩) m2 c8)); have MQ' := Lib.hid MQ; have HG8 := Lib.hid hg8; clear z6 o8 o9 g8' b8 k8 kV MV MQ hg8)
                  | (at_builtin; refine wpList_app _ rfl _ _ 22 rfl (w.heap.size + 1) 5 i1 (.int .u8 0) 1 1 Tryz.underlying22 hi1 hy0 hy1 hy2 rfl (by decide) _ 0 [] rfl OZ.out _ A1 m1 c1 (cel x.f.now) rfl (by rw [LC1.out, Nat.mul_one]) (HB1.out.keep K0.out) (cel_one _) (by have := MI1.out; unfold maxLen; omega) (by have := MI1.out; omega) (by simp) ?_; intro v6 w6 o6 g6' b6; have k6 : Keeps (w.alloc (.cells #[.string sx, .slice A1 m1 c1, .slice A2 m2 c2, .slice A3 m3 c3] 155)) w6 := Below.grown K1.out g6' K1.out.size (fun g hg => by have := (OZ.out.lt g hg).1; rw [S0.out]; exact this); rw [Nat.zero_add, List.nil_append] at o6; obtain ⟨g6, c6, rfl, z1, fz1, o7, hg6⟩ := FLB.out w6 v6 o6; have kW : Keeps (w.alloc (.cells #[.string sx, .slice A1 m1 c1, .slice A2 m2 c2, .slice A3 m3 c3] 155)) (w6.setCell ⟨g6, j, none⟩ (.int .u8 (y1 : Int))) := keeps_store (A := none) k6 o6 (by rw [S0.out]; exact Nat.le_refl _) _; have MW := (H.out.mid HN.out).keep (keeps_trans KF.out kW); have d0 := MW.c0; obtain ⟨z2, fz2⟩ := MW.cell HX.out 1 (by decide); rw [EC.out] at z2; have z2' : (w6.setCell ⟨g6, j, none⟩ (.int .u8 (y1 : Int))).cell? ⟨g, k * 4 + 1, none⟩ = some (.slice A1 m1 c1) := z2; have MP := MW.put (e' := ⟨flipF x.f j m, x.bs, .slice (some ⟨g6, 0, none⟩) m1 c6, .slice A2 m2 c2, .slice A3 m3 c3⟩) HX.out (j := 1) (by decide) (.slice (some ⟨g6, 0, none⟩) m1 c6) (EN1.out _); have BX := (BF.out.keep kW).far (p := ⟨g, k * 4 + 1, none⟩) (fun e => HGF.out e.symm) (.slice (some ⟨g6, 0, none⟩) m1 c6); have f2 := BX.cell 2 rfl; have O7 := Lib.hid (MW.far8 o7 (k * 4 + 1) (.slice (some ⟨g6, 0, none⟩) m1 c6)); have MW' := Lib.hid MW; have MP' := Lib.hid MP; have BX' := Lib.hid BX; have S6 := Lib.hid k6.size; have HG6 := Lib.hid hg6; have EN6 := MP.ent H.out HN.out EO.out; have HE6 := Lib.hid EN6; have sz6 : ((w6.setCell ⟨g6, j, none⟩ (.int .u8 (y1 : Int))).setCell ⟨g, k * 4 + 1, none⟩ (.slice (some ⟨g6, 0, none⟩) m1 c6)).heap.size = w6.heap.size := (by simp); have SZ6 := Lib.hid sz6; have oz6 := own_empty ((w6.setCell ⟨g6, j, none⟩ (.int .u8 (y1 : Int))).setCell ⟨g, k * 4 + 1, none⟩ (.slice (some ⟨g6, 0, none⟩) m1 c6)) 5 1; rw [sz6] at oz6; have OZ6 := Lib.hid oz6; have K6 := Lib.hid (keeps_alloc ((w6.setCell ⟨g6, j, none⟩ (.int .u8 (y1 : Int))).setCell ⟨g, k * 4 + 1, none⟩ (.slice (some ⟨g6, 0, none⟩) m1 c6)) (.cells #[] 5)); have B6 := Lib.hid (show Bs (((w6.setCell ⟨g6, j, none⟩ (.int .u8 (y1 : Int))).setCell ⟨g, k * 4 + 1, none⟩ (.slice (some ⟨g6, 0, none⟩) m1 c6)).alloc (.cells #[] 5)) A2 x.f.lasts from Bs.keep (show Bs ((w6.setCell ⟨g6, j, none⟩ (.int .u8 (y1 : Int))).setCell ⟨g, k * 4 + 1, none⟩ (.slice (some ⟨g6, 0, none⟩) m1 c6)) A2 x.f.lasts by have := EN6.lasts; rw [E2.out, ← HM2.out] at this; exact this.at_) K6.out); have f2b := (BX.keep K6.out).cell 2 rfl; clear EN6 sz6 oz6; clear z2 o6 o7 g6' b6 k6 kW MW MP BX hg6))
                go_ret
                exact ⟨rfl, DN.out _ _ _ MQ'.out (O7'.out.base_le (by omega)) (O9.out.base_le (Nat.zero_le _)) (mid_new MQ'.out (by have := S6.out; rw [S0.out] at this; omega) O9.out)⟩
              · have hli : (m2 : Int) ≤ (j : Int) := by omega
                generalize m.toNat = mm at *
                go_enter Tryz.func124, Tryz.ntmps124
                go_wp2_with fail
                refine NM.out.mono ?_
                rintro e w' ⟨rfl, rfl⟩
                go_wp2_with fail
                refine AT.out.mono ?_
                rintro e w' ⟨rfl, rfl⟩
                go_wp2_with (at_builtin; refine wpList_app _ rfl _ _ 22 rfl (w.heap.size + 1) 5 i1 (.int .u8 0) 1 1 Tryz.underlying22 hi1 hy0 hy1 hy2 rfl (by decide) _ 0 [] rfl OZ.out _ A1 m1 c1 (cel x.f.now) rfl (by rw [LC1.out, Nat.mul_one]) (HB1.out.keep K0.out) (cel_one _) (by have := MI1.out; unfold maxLen; omega) (by have := MI1.out; omega) (by simp) ?_; intro v6 w6 o6 g6' b6; have k6 : Keeps (w.alloc (.cells #[.string sx, .slice A1 m1 c1, .slice A2 m2 c2, .slice A3 m3 c3] 155)) w6 := Below.grown K1.out g6' K1.out.size (fun g hg => by have := (OZ.out.lt g hg).1; rw [S0.out]; exact this); rw [Nat.zero_add, List.nil_append] at o6; obtain ⟨g6, c6, rfl, z1, fz1, o7, hg6⟩ := FLB.out w6 v6 o6; have kW : Keeps (w.alloc (.cells #[.string sx, .slice A1 m1 c1, .slice A2 m2 c2, .slice A3 m3 c3] 155)) (w6.setCell ⟨g6, j, none⟩ (.int .u8 (y1 : Int))) := keeps_store (A := none) k6 o6 (by rw [S0.out]; exact Nat.le_refl _) _; have MW := (H.out.mid HN.out).keep (keeps_trans KF.out kW); have d0 := MW.c0; obtain ⟨z2, fz2⟩ := MW.cell HX.out 1 (by decide); rw [EC.out] at z2; have z2' : (w6.setCell ⟨g6, j, none⟩ (.int .u8 (y1 : Int))).cell? ⟨g, k * 4 + 1, none⟩ = some (.slice A1 m1 c1) := z2; have MP := MW.put (e' := ⟨flipF x.f j m, x.bs, .slice (some ⟨g6, 0, none⟩) m1 c6, .slice A2 m2 c2, .slice A3 m3 c3⟩) HX.out (j := 1) (by decide) (.slice (some ⟨g6, 0, none⟩) m1 c6) (EN1.out _); have BX := (BF.out.keep kW).far (p := ⟨g, k * 4 + 1, none⟩) (fun e => HGF.out e.symm) (.slice (some ⟨g6, 0, none⟩) m1 c6); have f2 := BX.cell 2 rfl; have O7 := Lib.hid (MW.far8 o7 (k * 4 + 1) (.slice (some ⟨g6, 0, none⟩) m1 c6)); have MW' := Lib.hid MW; have MP' := Lib.hid MP; have BX' := Lib.hid BX; have S6 := Lib.hid k6.size; have HG6 := Lib.hid hg6; have EN6 := MP.ent H.out HN.out EO.out; have HE6 := Lib.hid EN6; have sz6 : ((w6.setCell ⟨g6, j, none⟩ (.int .u8 (y1 : Int))).setCell ⟨g, k * 4 + 1, none⟩ (.slice (some ⟨g6, 0, none⟩) m1 c6)).heap.size = w6.heap.size := (by simp); have SZ6 := Lib.hid sz6; have oz6 := own_empty ((w6.setCell ⟨g6, j, none⟩ (.int .u8 (y1 : Int))).setCell ⟨g, k * 4 + 1, none⟩ (.slice (some ⟨g6, 0, none⟩) m1 c6)) 5 1; rw [sz6] at oz6; have OZ6 := Lib.hid oz6; have K6 := Lib.hid (keeps_alloc ((w6.setCell ⟨g6, j, none⟩ (.int .u8 (y1 : Int))).setCell ⟨g, k * 4 + 1, none⟩ (.slice (some ⟨g6, 0, none⟩) m1 c6)) (.cells #[] 5)); have B6 := Lib.hid (show Bs (((w6.setCell ⟨g6, j, none⟩ (.int .u8 (y1 : Int))).setCell ⟨g, k * 4 + 1, none⟩ (.slice (some ⟨g6, 0, none⟩) m1 c6)).alloc (.cells #[] 5)) A2 x.f.lasts from Bs.keep (show Bs ((w6.setCell ⟨g6, j, none⟩ (.int .u8 (y1 : Int))).setCell ⟨g, k * 4 + 1, none⟩ (.slice (some ⟨g6, 0, none⟩) m1 c6)) A2 x.f.lasts by have := EN6.lasts; rw [E2.out, ← HM2.out] at this; exact this.at_) K6.out); have f2b := (BX.keep K6.out).cell 2 rfl; clear EN6 sz6 oz6; clear z2 o6 o7 g6' b6 k6 kW MW MP BX hg6)
                go_ret
                exact ⟨rfl, DN.out _ _ _ MP'.out (O7.out.base_le (by omega)) (by have := HE6.out.lasts; rw [E2.out, ← HM2.out] at this; rw [flip_far _ _ _ (by have := HM2.out; omega)]; exact this) (by have := HE6.out.fl; rw [E2.out] at this; exact this)⟩
end
end Go.Proofs.YtkhfffflegiapaaGreatDoor
