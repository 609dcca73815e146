/- Package pool: Pin, Unpin. -/
import Derived.Test.YtkhfffflegiapaaGreatDoorQPoolT
import Derived.Test.YtkhfffflegiapaaGreatDoorQPoolRep
namespace Go.Proofs.YtkhfffflegiapaaGreatDoor
open Go.RowKit
set_option linter.unusedSimpArgs false
set_option linter.unusedVariables false
set_option maxRecDepth 100000

section
variable {K : DiskOk} {w0 w w' : World} {B : PB} {X X' : PX} {Fd Fp Fd' Fp' : Nat → Prop} {sl sl' : List (Option Fx)} {p p' : Pst}
/-- a frame, and the numbers, are other -/
theorem PHave.turned (h : PHave K w0 w B Fd Fp X sl p) {i : Nat} {x : Fx} (hx : sl[i]? = some (some x)) {pins : Nat} {used : Bool} {w2 : World} {t' : PT} (I2 : PIn w2 B X Fp (sl.set i (some (x.with_ pins used))) p.dl t')
    (o : Only w w2 (fun j => j = B.pb ∨ j = x.blk)) (hd : p'.d = p.d) (hdl : p'.dl = p.dl) (hfr : p'.fr = p.fr.set i (some { x.f with pins := pins, used := used })) (ht : t' = tally p'.hand p'.fr p'.mostR p'.mostP) (ok : PstOk p') :
    PHave K w0 w2 B Fd Fp X (sl.set i (some (x.with_ pins used))) p' ∧ Turns w w2 (Both Fd Fp) (Both Fd Fp) := by
  subst ht
  have T : Turns w w2 Fp Fp := Turns.only_in o (fun j e => by
    rcases e with rfl | rfl
    · exact h.I.inP.pb
    · exact (h.I.inP.fr i x hx).1)
  exact h.pool hd (by rw [hdl]; exact I2) T (by rw [hfr, frs_with, h.fr]) ok
theorem pin_count {fr : List (Option Frm)} {i : Nat} {f : Frm} (h : fr[i]? = some (some f)) (pins : Nat) (used : Bool) :
    pinN (fr.set i (some { f with pins := pins, used := used })) + (if 0 < f.pins then 1 else 0) = pinN fr + (if 0 < pins then 1 else 0) := by
  have := cnt_set isPin (some { f with pins := pins, used := used }) h
  simp only [isPin, decide_eq_true_eq] at this
  exact this
theorem res_count {fr : List (Option Frm)} {i : Nat} {f : Frm} (h : fr[i]? = some (some f)) (pins : Nat) (used : Bool) : resN (fr.set i (some { f with pins := pins, used := used })) = resN fr := by
  have := cnt_set (fun o : Option Frm => o.isSome) (some { f with pins := pins, used := used }) h
  simp only [Option.isSome_some, if_true] at this
  unfold resN
  omega
set_option maxHeartbeats 16000000 in
theorem pin_any (PK : PageOk) (h : PHave K w0 w B Fd Fp X sl p) (hZ : K.Z w0) (hS : Sizes w0) {M : Nat} (hb : Bnd M p.fr) (hM : M ≤ 1000000000000) (hM2 : 65536 ≤ M) (hbig : p.mostR ≤ 100000) (hbigP : p.mostP ≤ 100000) (ht : Txt p.fr)
    (nm : List UInt8) (hnm : nm.length ≤ maxLen) (k : Int) (hk : IsI k) :
    Calls Tryz.prog 42 #[.pointer (some ⟨B.pb, 0, none⟩), .string (str nm), .int .i64 k] w (TextV K w0 w B (Both Fd Fp) (pinPl p nm k).1 (pinPl p nm k).2.1 (pinPl p nm k).2.2) := by
  have G := Lib.hid (get_any PK h hZ hS hb hM hM2 hbig nm hnm k hk)
  have TX := Lib.hid (get_txt (K.ok h.D.D) ht nm k)
  have OK := Lib.hid (get_spec h.ok nm k)
  have BN := Lib.hid (get_bnd (K.ok h.D.D) h.ok hb hM2 nm k)
  have PW := Lib.hid (pin_well (K.ok h.D.D) h.ok nm k)
  have HB := Lib.hid hbigP
  unfold pinPl at PW ⊢
  obtain ⟨q, hq⟩ : ∃ q, getP p nm k = q := ⟨_, rfl⟩
  rw [hq] at G TX OK BN PW ⊢
  obtain ⟨q1, i, E⟩ := q
  simp only at TX OK BN PW ⊢
  clear h hb ht hq hbigP
  generalize str nm = sv at *
  by_cases hE : E = 0
  · subst hE
    rw [if_neg (by simp)] at PW ⊢
    go_enter Tryz.func42, Tryz.ntmps42
    go_wp2_with fail
    refine G.out.mono ?_
    rintro e w2 ⟨v, rfl, Fd1, Fp1, X1, s1, h1, t1, f1, -⟩
    obtain ⟨x, hx, rfl⟩ := f1 rfl
    simp only at hx h1
    have hfx : q1.fr[i]? = some (some x.f) := by rw [h1.fr]; exact frs_of hx
    have hil := (List.getElem?_eq_some_iff.1 hx).1
    have hmp : q1.mostP = p.mostP := OK.out.1.mostP
    have hpn : pinN q1.fr ≤ 4096 := Nat.le_trans List.countP_le_length h1.ok.n.2
    have hpx := (BN.out i x.f hfx).2
    have hpi : (x.f.pins : Int) ≤ 1000000000000 := by omega
    have hp0 : (0 : Int) ≤ (x.f.pins : Int) := by omega
    have c4 : w2.cell? ⟨x.blk, 4, none⟩ = some (.int .i64 (x.f.pins : Int)) := (h1.I.fr i x hx).box.cell 4 rfl
    have hset : (onFr q1 i pinF).fr = q1.fr.set i (some { x.f with pins := x.f.pins + 1, used := x.f.used }) := onFr_set hfx pinF
    have hcnt := pin_count hfx (x.f.pins + 1) x.f.used
    have hres := res_count hfx (x.f.pins + 1) x.f.used
    rw [if_pos (Nat.succ_pos _)] at hcnt
    have TF := Lib.hid (show textF q1.fr i = x.f.b from textF_at hfx)
    have pbx : x.blk ≠ B.pb := cells_ne (h1.I.fr i x hx).box h1.I.box (by decide)
    have RES := Lib.hid (show (s1.set i (some (x.with_ (x.f.pins + 1) x.f.used)))[i]? = some (some (x.with_ (x.f.pins + 1) x.f.used)) from by rw [List.getElem?_set, if_pos rfl, if_pos hil])
    have T1 := Lib.hid t1
    have txt' : Txt (onFr q1 i pinF).fr := on_txt TX.out i (fun f h => h)
    -- what stands behind it all
    have FIN := Lib.hid (fun (w4 : World) (hh : PHave K w0 w4 B Fd1 Fp1 X1 (s1.set i (some (x.with_ (x.f.pins + 1) x.f.used))) { onFr q1 i pinF with mostP := max q1.mostP (pinN (onFr q1 i pinF).fr) }) =>
      show Calls Tryz.prog 55 #[.slice x.A x.f.b.length x.c] w4 (fun e w' => ∃ v, e = .returned v ∧ Own w' w4.heap.size 5 1 v x.f.b.length (cel x.f.b) ∧ Keeps w4 w') from text_any (x := x.with_ (x.f.pins + 1) x.f.used) hh RES.out txt')
    have ce : (x.f.pins : Int) + 1 = ((x.f.pins + 1 : Nat) : Int) := by omega
    by_cases hz : x.f.pins = 0
    · have hzi : ((x.f.pins : Int) == 0) = true := by rw [hz]; rfl
      have AD := Lib.hid (add_any w2 B.pb 7 (pinN q1.fr) q1.mostP (pinN q1.fr + 1) 1 _ (by decide) h1.I.box rfl rfl (by omega) ⟨by omega, by omega, by have := HB.out; omega⟩)
      have ST := Lib.hid (fun (w3 : World) (b3 : Box w3 B.pb 97 (((plC B s1.length (tally q1.hand q1.fr q1.mostR q1.mostP)).setIfInBounds 7 (.int .i64 ((pinN q1.fr + 1 : Nat) : Int))).setIfInBounds (7 + 1) (.int .i64 ((max q1.mostP (pinN q1.fr + 1) : Nat) : Int)))) (o3 : Only w2 w3 (fun c => c = B.pb)) =>
        show PHave K w0 (w3.setCell ⟨x.blk, 4, none⟩ (.int .i64 ((x.f.pins : Int) + 1))) B Fd1 Fp1 X1 (s1.set i (some (x.with_ (x.f.pins + 1) x.f.used))) { onFr q1 i pinF with mostP := max q1.mostP (pinN (onFr q1 i pinF).fr) } ∧ Turns w2 (w3.setCell ⟨x.blk, 4, none⟩ (.int .i64 ((x.f.pins : Int) + 1))) (Both Fd1 Fp1) (Both Fd1 Fp1) ∧ w3.cell? ⟨x.blk, 4, none⟩ = some (.int .i64 (x.f.pins : Int)) ∧ w3.frozen? ⟨x.blk, 4, none⟩ = false ∧ (w3.setCell ⟨x.blk, 4, none⟩ (.int .i64 ((x.f.pins : Int) + 1))).cell? ⟨x.blk, 3, none⟩ = some (.slice x.A x.f.b.length x.c) from by
          rw [ce]
          have I3 := h1.I.numbers (t' := { tally q1.hand q1.fr q1.mostR q1.mostP with pn := pinN q1.fr + 1, pm := max q1.mostP (pinN q1.fr + 1) }) b3 o3
          have bx := (I3.fr i x hx).box
          have I4 := I3.with_ hx (x.f.pins + 1) x.f.used (only_set w3 ⟨x.blk, 4, none⟩ _) (show Box _ x.blk 133 (x.with_ (x.f.pins + 1) x.f.used).cells from Box.set bx 4 _)
          obtain ⟨r1, r2⟩ := h1.turned (p' := { onFr q1 i pinF with mostP := max q1.mostP (pinN (onFr q1 i pinF).fr) }) hx I4 ((o3.more (S' := fun j => j = B.pb ∨ j = x.blk) (fun j e => .inl e)).trans ((only_set w3 ⟨x.blk, 4, none⟩ _).more (S' := fun j => j = B.pb ∨ j = x.blk) (fun j e => .inr e)) (fun j hj => .inl hj)) rfl rfl hset (by
            unfold tally
            simp only
            rw [hset, hres]
            rw [if_neg (by omega)] at hcnt
            rw [show pinN (q1.fr.set i (some { x.f with pins := x.f.pins + 1, used := x.f.used })) = pinN q1.fr + 1 from hcnt]
            rfl) PW.out.ok
          exact ⟨r1, r2, bx.cell 4 rfl, bx.frozen 4, (Box.set bx 4 _).cell 3 rfl⟩)
      have H1B := Lib.hid h1
      clear h1 t1 f1 hx hfx hset hcnt hres hpn txt' hmp hz ce
      generalize hl : x.f.b.length = bl at *
      generalize hbb : x.blk = bb at *
      generalize x.f.pins = pn at *
      have hw : IntKind.i64.wrap ((pn : Int) + 1) = (pn : Int) + 1 := IntWalk.i64_in _ (by omega)
      go_wp2_with fail
      refine AD.out.mono ?_
      rintro e w3 ⟨rfl, b3, o3⟩
      obtain ⟨r1, r2, r3, r4, c3⟩ := ST.out w3 b3 o3
      have R1 := Lib.hid r1
      have R2 := Lib.hid r2
      have CL := Lib.hid (FIN.out _ r1)
      clear b3 o3 r1 r2
      go_wp2_with fail
      refine CL.out.mono ?_
      rintro e w5 ⟨v, rfl, hv, k5⟩
      have K5 := Lib.hid k5
      have HV := Lib.hid hv
      clear hv k5
      go_wp2_with fail
      go_returns
      refine ⟨v, rfl, ?_, Fd1, Fp1, X1, _, R1.out.keep K5.out, (T1.out.trans R2.out).trans (Turns.of_keeps K5.out), fun g hg hF => ?_⟩
      · show Own _ _ _ _ _ (textF q1.fr i).length (cel (textF q1.fr i))
        rw [TF.out, hl]
        exact HV.out.base_le (T1.out.trans R2.out).only.size
      · have h2 := (HV.out.lt g hg).1
        have h3 := R1.out.below g hF
        exact absurd h3 (Nat.not_lt.2 h2)
    · have hzi : ((x.f.pins : Int) == 0) = false := by rw [beq_eq_false_iff_ne]; omega
      have ST := Lib.hid (show PHave K w0 (w2.setCell ⟨x.blk, 4, none⟩ (.int .i64 ((x.f.pins : Int) + 1))) B Fd1 Fp1 X1 (s1.set i (some (x.with_ (x.f.pins + 1) x.f.used))) { onFr q1 i pinF with mostP := max q1.mostP (pinN (onFr q1 i pinF).fr) } ∧ Turns w2 (w2.setCell ⟨x.blk, 4, none⟩ (.int .i64 ((x.f.pins : Int) + 1))) (Both Fd1 Fp1) (Both Fd1 Fp1) ∧ w2.frozen? ⟨x.blk, 4, none⟩ = false ∧ (w2.setCell ⟨x.blk, 4, none⟩ (.int .i64 ((x.f.pins : Int) + 1))).cell? ⟨x.blk, 3, none⟩ = some (.slice x.A x.f.b.length x.c) from by
          rw [ce]
          have bx := (h1.I.fr i x hx).box
          have I4 := h1.I.with_ hx (x.f.pins + 1) x.f.used (only_set w2 ⟨x.blk, 4, none⟩ _) (show Box _ x.blk 133 (x.with_ (x.f.pins + 1) x.f.used).cells from Box.set bx 4 _)
          obtain ⟨r1, r2⟩ := h1.turned (p' := { onFr q1 i pinF with mostP := max q1.mostP (pinN (onFr q1 i pinF).fr) }) hx I4 ((only_set w2 ⟨x.blk, 4, none⟩ _).more (S' := fun j => j = B.pb ∨ j = x.blk) (fun j e => .inr e)) rfl rfl hset (by
            unfold tally
            simp only
            rw [hset, hres]
            rw [if_pos (by omega)] at hcnt
            have e1 : pinN (q1.fr.set i (some { x.f with pins := x.f.pins + 1, used := x.f.used })) = pinN q1.fr := Nat.add_right_cancel hcnt
            rw [e1, Nat.max_eq_left h1.ok.mostP]
            rfl) PW.out.ok
          exact ⟨r1, r2, bx.frozen 4, (Box.set bx 4 _).cell 3 rfl⟩)
      clear h1 t1 f1 hx hfx hset hcnt hres hpn txt' hmp hz ce
      generalize hl : x.f.b.length = bl at *
      generalize hbb : x.blk = bb at *
      generalize x.f.pins = pn at *
      have hw : IntKind.i64.wrap ((pn : Int) + 1) = (pn : Int) + 1 := IntWalk.i64_in _ (by omega)
      obtain ⟨r1, r2, r4, c3⟩ := ST.out
      have R1 := Lib.hid r1
      have R2 := Lib.hid r2
      have CL := Lib.hid (FIN.out _ r1)
      clear r1 r2
      go_wp2_with fail
      refine CL.out.mono ?_
      rintro e w5 ⟨v, rfl, hv, k5⟩
      have K5 := Lib.hid k5
      have HV := Lib.hid hv
      clear hv k5
      go_wp2_with fail
      go_returns
      refine ⟨v, rfl, ?_, Fd1, Fp1, X1, _, R1.out.keep K5.out, (T1.out.trans R2.out).trans (Turns.of_keeps K5.out), fun g hg hF => ?_⟩
      · show Own _ _ _ _ _ (textF q1.fr i).length (cel (textF q1.fr i))
        rw [TF.out, hl]
        exact HV.out.base_le (T1.out.trans R2.out).only.size
      · have h2 := (HV.out.lt g hg).1
        have h3 := R1.out.below g hF
        exact absurd h3 (Nat.not_lt.2 h2)
  · rw [if_pos hE]
    have hne : ((E : Int) != 0) = true := by rw [bne_iff_ne]; omega
    go_enter Tryz.func42, Tryz.ntmps42
    go_wp2_with fail
    refine G.out.mono ?_
    rintro e w2 ⟨v, rfl, Fd1, Fp1, X1, s1, h1, t1, -, -⟩
    have R := Lib.hid (TextV.none (E := E) h1 t1)
    clear h1 t1
    go_wp2_with fail
    go_returns
    exact R.out
end
end Go.Proofs.YtkhfffflegiapaaGreatDoor
/- Package pool: the first map, asked for a page of whatever number. -/
namespace Go.Proofs.YtkhfffflegiapaaGreatDoor
open Go.RowKit
set_option linter.unusedSimpArgs false
set_option linter.unusedVariables false
set_option maxRecDepth 100000

def plI (p : List UInt8 × Int) : Value := .agg #[.string (str p.1), .int .i64 p.2]
section
variable {P : Program} {K S I : TypeId} {f1 f2 : Field}
theorem run_checkPlI (hK : P.underlying K = some (.struct #[f1, f2])) (h1 : f1.name = "Name" ∧ f1.type = S ∧ f1.offset = 0) (h2 : f2.name = "Page" ∧ f2.type = I ∧ f2.offset = 1) (hS : P.underlying S = some .string) (hI : P.underlying I = some (.int .i64)) (em : Bool) (d : Nat) (p : List UInt8 × Int) (w : World) :
    (Instr.checkKey em (d + 1 + 1) K (plI p)).run P w = .ok () w := by
  unfold plI
  have c1 : ∀ w, (Instr.checkKey em (d + 1) S (.string (str p.1))).run P w = .ok () w := fun w => MapKept.run_checkKey hS (by simp [MapKept.IsKey]) em d
  have c2 : ∀ w, (Instr.checkKey em (d + 1) I (.int .i64 p.2)).run P w = .ok () w := fun w => MapKept.run_checkKey hI (by simp [MapKept.IsKey]) em d
  generalize d + 1 = d1 at *
  simp [Instr.checkKey, underlying, hK, h1.1, h1.2.1, h1.2.2, h2.1, h2.2.1, h2.2.2, run_partS hS, run_partI hI, c1, c2]
theorem run_eqPlI (hK : P.underlying K = some (.struct #[f1, f2])) (h1 : f1.name = "Name" ∧ f1.type = S ∧ f1.offset = 0) (h2 : f2.name = "Page" ∧ f2.type = I ∧ f2.offset = 1) (hS : P.underlying S = some .string) (hI : P.underlying I = some (.int .i64)) (hh : P.stoodInHeld K = false) (p q : List UInt8 × Int) (w : World) :
    (Op.equal K (plI p) (plI q)).run P w = .ok (decide (q = p)) w := by
  have hF : P.fieldsOf K = #[f1, f2] := by simp [Program.fieldsOf, hK]
  show (Op.equalIn (9999 + 1) K _ _).run P w = _
  unfold plI
  rw [run_equalIn_struct w 9999 K _ _ (by rw [hF]; exact hK) hh, hF]
  have e1 : ∀ w, (Op.equalIn 9999 S (.string (str p.1)) (.string (str q.1))).run P w = .ok ((str p.1).toList == (str q.1).toList) w := fun w => run_equalIn_string w 9998 S _ _ hS
  have e2 : ∀ w, (Op.equalIn 9999 I (.int .i64 p.2) (.int .i64 q.2)).run P w = .ok (p.2 == q.2) w := fun w => run_equalIn_int w 9998 I .i64 .i64 _ _ hI
  generalize 9999 = d at *
  simp only [Op.eqFields, h1.1, h1.2.1, h1.2.2, h2.1, h2.2.1, h2.2.2, Sem.run_bind, Sem.run_ite, run_partS hS, run_partI hI, Result.andThen_ok, e1, e2]
  rw [str_toList, str_toList]
  by_cases ha : p.1 = q.1
  · by_cases hb : p.2 = q.2
    · have : q = p := Prod.ext ha.symm hb.symm
      simp [ha, hb, this]
    · have : ¬ q = p := fun e => hb (by rw [e])
      simp [ha, hb, this]
  · have : ¬ q = p := fun e => ha (by rw [e])
    simp [ha, this]
end
theorem framesI : MapV Tryz.prog 92 121 115 plI dpt where
  m := Tryz.underlying92
  check em k w := run_checkPlI Tryz.underlying121 ⟨rfl, rfl, rfl⟩ ⟨rfl, rfl, rfl⟩ Tryz.underlying9 Tryz.underlying3 em 9998 k w
  find w k es ks h := by
    have hn : ∀ e es, Instr.findNow (.struct #[{ name := "Name", type := 9, offset := 0, embedded := false, tag := "", pkgPath := "", byteOffset := 0 }, { name := "Page", type := 3, offset := 1, embedded := false, tag := "", pkgPath := "", byteOffset := 16 }]) (plI k) (e :: es) 0 = none := fun _ _ => rfl
    cases es with
    | nil =>
      cases ks with
      | nil => simp [Instr.findKey, underlying, Tryz.underlying121, Instr.findNow]
      | cons => simp at h
    | cons e es =>
      have := findAsk_of (P := Tryz.prog) (K := 121) (kv := plI) (fun a b w => run_eqPlI Tryz.underlying121 ⟨rfl, rfl, rfl⟩ ⟨rfl, rfl, rfl⟩ Tryz.underlying9 Tryz.underlying3 (by kernel_rfl) a b w) k w (e :: es) ks 0 h
      simp only [Instr.findKey, Sem.run_bind, run_underlying Tryz.underlying121, Result.andThen_ok, hn]
      rw [this]
      simp
  bits k := by
    have e1 : (str k.1 == str k.1) = true := (MapKept.bytes_beq _ _).2 rfl
    simp [Instr.sameBits, plI, e1]
  inv := ⟨fun v => match v with
    | .agg ⟨[.string s, .int _ n]⟩ => (s.data.toList, n)
    | _ => ([], 0), fun k => by simp [plI, str_data]⟩
  einv := framesT.einv
def intK (p : (List UInt8 × Nat) × Nat) : (List UInt8 × Int) × Nat := ((p.1.1, (p.1.2 : Int)), p.2)
theorem MapW.toI {w : World} {b : Nat} {l : List ((List UInt8 × Nat) × Nat)} (h : MapW plV dpt w b l) : MapW plI dpt w b (l.map intK) := by
  obtain ⟨⟨es, clock, l0, hp, hb, he, h1, h2⟩, ho⟩ := h
  refine ⟨⟨es, clock, l0.map intK, hp.map _, hb, ?_, h1, h2⟩, ?_⟩
  · unfold EntsV at *
    rw [he, List.map_map]
    rfl
  · have e : (l.map intK).map Prod.fst = (l.map Prod.fst).map fun k => (k.1, (k.2 : Int)) := by
      rw [List.map_map, List.map_map]
      rfl
    rw [e]
    refine List.pairwise_map.2 (List.Pairwise.imp (fun {x y} hne e => hne ?_) ho)
    obtain ⟨a, b⟩ := x
    obtain ⟨c, d⟩ := y
    simp only [Prod.mk.injEq, Int.natCast_inj] at e
    exact Prod.ext e.1 e.2
theorem look_int (l : List ((List UInt8 × Nat) × Nat)) (nm : List UInt8) (k : Int) : lookM (l.map intK) (nm, k) = if k < 0 then none else lookM l (nm, k.toNat) := by
  unfold lookM
  rw [List.find?_map]
  by_cases hk : k < 0
  · rw [if_pos hk, List.find?_eq_none.2 (fun x _ => by
      simp only [Function.comp_apply, intK, decide_eq_true_eq, Prod.mk.injEq, not_and]
      omega)]
    rfl
  · rw [if_neg hk]
    have e : ((fun p : (List UInt8 × Int) × Nat => decide (p.1 = (nm, k))) ∘ intK) = fun p => decide (p.1 = (nm, k.toNat)) := by
      funext x
      obtain ⟨⟨a, b⟩, c⟩ := x
      simp only [Function.comp_apply, intK, Prod.mk.injEq, decide_eq_decide]
      constructor
      · rintro ⟨h1, h2⟩; exact ⟨h1, by omega⟩
      · rintro ⟨h1, h2⟩; exact ⟨h1, by omega⟩
    rw [e, Option.map_map]
    rfl
end Go.Proofs.YtkhfffflegiapaaGreatDoor
/- Package pool: Unpin. -/
namespace Go.Proofs.YtkhfffflegiapaaGreatDoor
open Go.RowKit
set_option linter.unusedSimpArgs false
set_option linter.unusedVariables false
set_option maxRecDepth 100000

section
variable {K : DiskOk} {w0 w w' : World} {B : PB} {X X' : PX} {Fd Fp Fd' Fp' : Nat → Prop} {sl sl' : List (Option Fx)} {p p' : Pst}
set_option maxHeartbeats 16000000 in
theorem unpin_any (h : PHave K w0 w B Fd Fp X sl p) {M : Nat} (hb : Bnd M p.fr) (hM : M ≤ 1000000000000) (hbigP : p.mostP ≤ 100000) (nm : List UInt8) (k : Int) :
    Calls Tryz.prog 44 #[.pointer (some ⟨B.pb, 0, none⟩), .string (str nm), .int .i64 k] w fun e w' => e = .returned (.int .i64 ((unpinPl p nm k).2 : Int)) ∧ Left K w0 w w' B (Both Fd Fp) (unpinPl p nm k).1 := by
  have PW := Lib.hid (unpin_well h.ok nm k)
  have c2 : w.cell? ⟨B.pb, 2, none⟩ = some (.map (some B.wb)) := h.I.box.cell 2 rfl
  have LK : (Instr.lookup 92 (.map (some B.wb)) (.agg #[.string (str nm), .int .i64 k]) false).run Tryz.prog w = .ok (((lookM (X.W.map intK) (nm, k)).map dpt).getD (.pointer none)) w := by
    have := run_lookV (P := Tryz.prog) framesI (z := .pointer none) zeroPf h.I.wher.toI (nm, k) false
    exact this
  rw [look_int] at LK
  have H := Lib.hid h
  have NO : ∀ V, Keeps w V → Left K w0 w V B (Both Fd Fp) p := fun V kk => ⟨Fd, Fp, X, sl, h.keep kk, Turns.of_keeps kk⟩
  have NOH := Lib.hid NO
  unfold unpinPl at PW ⊢
  by_cases hk : k < 0
  · rw [if_pos hk] at LK PW ⊢
    simp only [Option.map_none, Option.getD_none] at LK
    clear h hb NO
    generalize str nm = sv at *
    go_enter Tryz.func44, Tryz.ntmps44
    go_wp2_with fail
    go_returns
    exact ⟨rfl, NOH.out _ (keeps_refl _)⟩
  · rw [if_neg hk] at LK PW ⊢
    obtain ⟨kn, rfl⟩ : ∃ kn : Nat, k = (kn : Int) := ⟨k.toNat, by omega⟩
    rw [Int.toNat_natCast, h.I.look, ← h.fr] at LK
    rw [Int.toNat_natCast] at PW ⊢
    cases e : p.fr.findIdx? (isAt nm kn) with
    | none =>
      rw [if_neg (idx_none.1 e)] at LK
      simp only [Option.map_none, Option.getD_none] at LK
      clear h hb NO PW e hk
      simp only
      generalize str nm = sv at *
      go_enter Tryz.func44, Tryz.ntmps44
      go_wp2_with fail
      go_returns
      exact ⟨rfl, NOH.out _ (keeps_refl _)⟩
    | some i =>
      rw [e] at PW
      simp only at PW ⊢
      obtain ⟨f, hfi, n1, n2⟩ := idx_some e
      have hfp := hfi
      rw [h.fr] at hfi
      obtain ⟨x, hx, rfl⟩ := frs_at hfi
      have hm : some (nm, kn) ∈ keysOf p.fr := mem_keys.2 ⟨i, x.f, hfp, n1, n2⟩
      have hbk : X.bk nm kn = x.blk := by rw [← n1, ← n2]; exact h.I.bk i x hx
      rw [if_pos hm, hbk] at LK
      simp only [Option.map_some, Option.getD_some, dpt] at LK
      have hfo : frmOf p.fr nm kn = some x.f := by
        unfold frmOf
        rw [e]
        show (p.fr[i]?).getD none = _
        rw [hfp]
        rfl
      rw [hfo] at PW ⊢
      simp only [Option.map_some, Option.some.injEq] at PW ⊢
      have c4 : w.cell? ⟨x.blk, 4, none⟩ = some (.int .i64 (x.f.pins : Int)) := (h.I.fr i x hx).box.cell 4 rfl
      have hpx := (hb i x.f hfp).2
      by_cases hz : x.f.pins = 0
      · rw [if_pos hz] at PW ⊢
        have hzi : ((x.f.pins : Int) == 0) = true := by rw [hz]; rfl
        clear h hb NO PW e hk hfi n1 n2 hfp hx hm hbk hfo hz hpx
        generalize str nm = sv at *
        generalize x.f.pins = pn at *
        generalize x.blk = bb at *
        go_enter Tryz.func44, Tryz.ntmps44
        go_wp2_with fail
        go_returns
        exact ⟨rfl, NOH.out _ (keeps_refl _)⟩
      · rw [if_neg hz] at PW ⊢
        have hzi : ((x.f.pins : Int) == 0) = false := by rw [beq_eq_false_iff_ne]; omega
        have hpi : (x.f.pins : Int) ≤ 1000000000000 := by omega
        have hp1 : (1 : Int) ≤ (x.f.pins : Int) := by omega
        have hil := (List.getElem?_eq_some_iff.1 hx).1
        have f4 : w.frozen? ⟨x.blk, 4, none⟩ = false := (h.I.fr i x hx).box.frozen 4
        have ce : (x.f.pins : Int) - 1 = ((x.f.pins - 1 : Nat) : Int) := by omega
        have hset : (onFr p i unpinF).fr = p.fr.set i (some { x.f with pins := x.f.pins - 1, used := x.f.used }) := onFr_set hfp unpinF
        have hcnt := pin_count hfp (x.f.pins - 1) x.f.used
        have hres := res_count hfp (x.f.pins - 1) x.f.used
        rw [if_pos (show 0 < x.f.pins by omega)] at hcnt
        have hpn : pinN p.fr ≤ 4096 := Nat.le_trans List.countP_le_length h.ok.n.2
        have hmp := h.ok.mostP
        have ho1 := only_set w ⟨x.blk, 4, none⟩ (.int .i64 ((x.f.pins : Int) - 1))
        have I1 : PIn (w.setCell ⟨x.blk, 4, none⟩ (.int .i64 ((x.f.pins : Int) - 1))) B X Fp (sl.set i (some (x.with_ (x.f.pins - 1) x.f.used))) p.dl (tally p.hand p.fr p.mostR p.mostP) := by
          rw [ce] at ho1 ⊢
          exact h.I.with_ hx (x.f.pins - 1) x.f.used ho1 (show Box _ x.blk 133 (x.with_ (x.f.pins - 1) x.f.used).cells from Box.set (h.I.fr i x hx).box 4 _)
        have d4 : (w.setCell ⟨x.blk, 4, none⟩ (.int .i64 ((x.f.pins : Int) - 1))).cell? ⟨x.blk, 4, none⟩ = some (.int .i64 ((x.f.pins : Int) - 1)) := (Box.set (h.I.fr i x hx).box 4 _).cell 4 rfl
        by_cases h1 : x.f.pins = 1
        · have h1i : ((x.f.pins : Int) - 1 == 0) = true := by rw [h1]; rfl
          rw [if_neg (show ¬ 0 < x.f.pins - 1 by omega)] at hcnt
          have hpn1 : 1 ≤ pinN p.fr := by omega
          have hnew : pinN (p.fr.set i (some { x.f with pins := x.f.pins - 1, used := x.f.used })) = pinN p.fr - 1 := Nat.eq_sub_of_add_eq hcnt
          have AD := Lib.hid (add_any (w.setCell ⟨x.blk, 4, none⟩ (.int .i64 ((x.f.pins : Int) - 1))) B.pb 7 (pinN p.fr) p.mostP (pinN p.fr - 1) (-1) _ (by decide) I1.box rfl rfl (by omega) ⟨by omega, by omega, by omega⟩)
          have FIN := Lib.hid (fun (w3 : World) (b3 : Box w3 B.pb 97 (((plC B (sl.set i (some (x.with_ (x.f.pins - 1) x.f.used))).length (tally p.hand p.fr p.mostR p.mostP)).setIfInBounds 7 (.int .i64 ((pinN p.fr - 1 : Nat) : Int))).setIfInBounds (7 + 1) (.int .i64 ((max p.mostP (pinN p.fr - 1) : Nat) : Int)))) (o3 : Only (w.setCell ⟨x.blk, 4, none⟩ (.int .i64 ((x.f.pins : Int) - 1))) w3 (fun c => c = B.pb)) =>
            show Left K w0 w w3 B (Both Fd Fp) (onFr p i unpinF) from by
              have em : max p.mostP (pinN p.fr - 1) = p.mostP := Nat.max_eq_left (by omega)
              rw [em] at b3
              have I3 := I1.numbers (t' := { tally p.hand p.fr p.mostR p.mostP with pn := pinN p.fr - 1 }) b3 o3
              obtain ⟨r1, r2⟩ := h.turned (p' := onFr p i unpinF) hx I3 ((ho1.more (S' := fun j => j = B.pb ∨ j = x.blk) (fun j e => .inr e)).trans (o3.more (S' := fun j => j = B.pb ∨ j = x.blk) (fun j e => .inl e)) (fun j hj => .inl hj)) rfl rfl hset (by
                unfold tally
                simp only
                rw [hset, hres, hnew]
                rfl) PW.out.ok
              exact ⟨Fd, Fp, X, _, r1, r2⟩)
          clear h hb NO PW e hk hfi n1 n2 hfp hx hm hbk hfo hz hpx I1 ho1 hset hcnt hres hnew h1 hmp hpn hpn1 hil ce
          generalize str nm = sv at *
          generalize x.blk = bb at *
          generalize x.f.pins = pn at *
          have hw : IntKind.i64.wrap ((pn : Int) - 1) = (pn : Int) - 1 := IntWalk.i64_in _ (by omega)
          go_enter Tryz.func44, Tryz.ntmps44
          go_wp2_with fail
          refine AD.out.mono ?_
          rintro e w3 ⟨rfl, b3, o3⟩
          have R := Lib.hid (FIN.out w3 b3 o3)
          clear b3 o3
          go_wp2_with fail
          go_returns
          exact ⟨rfl, R.out⟩
        · have h1i : ((x.f.pins : Int) - 1 == 0) = false := by rw [beq_eq_false_iff_ne]; omega
          rw [if_pos (show 0 < x.f.pins - 1 by omega)] at hcnt
          have hnew : pinN (p.fr.set i (some { x.f with pins := x.f.pins - 1, used := x.f.used })) = pinN p.fr := Nat.add_right_cancel hcnt
          have FIN := Lib.hid (show Left K w0 w (w.setCell ⟨x.blk, 4, none⟩ (.int .i64 ((x.f.pins : Int) - 1))) B (Both Fd Fp) (onFr p i unpinF) from by
              obtain ⟨r1, r2⟩ := h.turned (p' := onFr p i unpinF) hx I1 (ho1.more (S' := fun j => j = B.pb ∨ j = x.blk) (fun j e => .inr e)) rfl rfl hset (by
                unfold tally
                rw [hset, hres, hnew]
                rfl) PW.out.ok
              exact ⟨Fd, Fp, X, _, r1, r2⟩)
          clear h hb NO PW e hk hfi n1 n2 hfp hx hm hbk hfo hz hpx I1 ho1 hset hcnt hres hnew h1 hmp hpn hil ce
          generalize str nm = sv at *
          generalize x.blk = bb at *
          generalize x.f.pins = pn at *
          have hw : IntKind.i64.wrap ((pn : Int) - 1) = (pn : Int) - 1 := IntWalk.i64_in _ (by omega)
          go_enter Tryz.func44, Tryz.ntmps44
          go_wp2_with fail
          go_returns
          exact ⟨rfl, FIN.out⟩
end
end Go.Proofs.YtkhfffflegiapaaGreatDoor
