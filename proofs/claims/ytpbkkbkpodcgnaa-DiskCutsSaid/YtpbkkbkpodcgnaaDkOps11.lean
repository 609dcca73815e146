/- Package disk: Flip. -/
import Derived.Test.YtpbkkbkpodcgnaaDkOps10
namespace Go.Proofs.Ytpbkkbkpodcgnaa
open Go.RowKit Go.Shelf
set_option linter.unusedSimpArgs false
set_option linter.unusedVariables false
set_option maxRecDepth 100000

section
variable {w w' : World} {b : Nat} {F : Nat → Prop} {s : Ds}
theorem FileAt.row1 {c : Nat → Prop} {k : Nat} {v1 v2 : Value} {now lasts now' : List UInt8} (h : FileAt w c k v1 v2 now lasts) (hg : w.grownBy w' v1.ownBlock) (ho : Own w' 0 5 1 v1 now'.length (cel now')) :
    FileAt w' c k v1 v2 now' lasts ∧ Only w w' c := by
  have hne2 : v2.ownBlock = none ∨ v2.ownBlock ≠ v1.ownBlock := by
    rcases h.ne with e | e
    · cases h2 : v2.ownBlock with
      | none => exact .inl rfl
      | some g => right; rw [e]; simp
    · exact .inr (fun q => e q.symm)
  exact ⟨⟨(hg.block k h.box.lt (fun e => h.own1.not_box h.box file_ne e.symm)).trans h.box, ho, h.own2.grown hg hne2, h.me, h.in1, h.in2, h.ne⟩, ⟨hg.os, hg.tape, hg.output, hg.size, fun i hi hn => hg.block i hi (fun e => hn (h.in1 i e.symm))⟩⟩
theorem grownBy_cell (W : World) (g i : Nat) (v : Value) : W.grownBy (W.setCell ⟨g, i, none⟩ v) (some g) :=
  ⟨rfl, rfl, rfl, by simp, fun k _ hk => Below.heap_setCell _ ⟨g, i, none⟩ _ k (fun e => hk (by rw [e]))⟩
theorem cel_flip (l : List UInt8) (i : Nat) (m : UInt8) : (cel l).set i (.int .u8 ((l.getD i 0 ^^^ m).toNat : Int)) = cel (flipB l i m) := by
  unfold flipB cel
  rw [List.map_set]
theorem flip_far (l : List UInt8) (i : Nat) (m : UInt8) (h : l.length ≤ i) : flipB l i m = l := by
  unfold flipB
  rw [List.set_eq_of_length_le h]
theorem DkX.flip {l : List Fl} {mf ml : Nat} {fb : List UInt8 → Nat} {col : Nat → Option (List UInt8)} (h : DkX w b F l mf ml fb col) {f f' : Fl} (hf : f ∈ l) (hn : f'.name = f.name) (hl : ∀ k, f'.loose k = f.loose k) {v1 v2 : Value} (hO : Only w w' (DkX.own F col f.name)) (hA : FileAt w' (DkX.own F col f.name) (fb f.name) v1 v2 f'.now f'.lasts) :
    ∃ F', DkX w' b F' (setF l f') mf ml fb (paint w col f.name) ∧ Turns w w' F F' :=
  ⟨_, h.turn hf hn hl hO (hA.wide fun i hi => .inl hi), turns_more hO (fun i hi => hi.1)⟩
set_option maxHeartbeats 16000000 in
theorem flip_any (h : Dk w b F s) (nm : List UInt8) (i : Int) (m : UInt8) (hnm : nm.length ≤ maxLen) (h1 : -9223372036854775808 ≤ i) (h2 : i ≤ 9223372036854775807) :
    Calls Try.prog 38 #[dpt b, strV nm, .int .i64 i, .int .u8 (m.toNat : Int)] w fun e w' => e = .returned (.int .i64 ((flipS s nm i m).2 : Int)) ∧ ∃ F', Dk w' b F' (flipS s nm i m).1 ∧ Turns w w' F F' := by
  show Calls _ _ #[.pointer (some ⟨b, 0, none⟩), .string (str nm), _, _] w _
  have H := Lib.hid h
  have P := Lib.hid (power_dk h)
  obtain ⟨mf, ml, fb, col, hb, hx⟩ := h.at_
  have FD := Lib.hid (find_dk hb hx nm hnm)
  cases ho : s.off
  · rw [ho] at P
    by_cases hm : m = 0
    · have e : flipS s nm i m = (s, 1) := by unfold flipS; rw [ho, if_neg (by simp), if_pos (.inr (.inl hm))]
      rw [e]
      have hm0 : ((m.toNat : Int) == 0) = true := by rw [hm]; rfl
      clear e h hb hx FD hm
      generalize m.toNat = mm at *
      go_enter Try.func38, Try.ntmps38
      go_wp2_with (go_at_call 56; refine P.out.mono ?_; rintro e w' ⟨rfl, rfl⟩)
      go_ret
      exact ⟨rfl, F, H.out, Turns.refl _ _⟩
    · have hm0 : ((m.toNat : Int) == 0) = false := by
        rw [beq_eq_false_iff_ne]
        intro e
        exact hm (UInt8.toNat_inj.1 (by have : m.toNat = 0 := by omega
                                        rw [this]; rfl))
      by_cases hi : i < 0
      · have e : flipS s nm i m = (s, 1) := by unfold flipS; rw [ho, if_neg (by simp), if_pos (.inr (.inr hi))]
        rw [e]
        clear e h hb hx FD hm
        generalize m.toNat = mm at *
        go_enter Try.func38, Try.ntmps38
        go_wp2_with (go_at_call 56; refine P.out.mono ?_; rintro e w' ⟨rfl, rfl⟩)
        go_ret
        exact ⟨rfl, F, H.out, Turns.refl _ _⟩
      · obtain ⟨j, rfl⟩ := Int.eq_ofNat_of_zero_le (show 0 ≤ i by omega)
        have hj0 : ¬ (j : Int) < 0 := by omega
        cases hn : nameOk nm
        · have e : flipS s nm (j : Int) m = (s, 1) := by unfold flipS; rw [ho, if_neg (by simp), if_pos (.inl hn)]
          rw [e]
          rw [foundV_bad hn] at FD
          clear e h hb hx hm
          generalize m.toNat = mm at *
          go_enter Try.func38, Try.ntmps38
          go_wp2_with (first
            | (go_at_call 56; refine P.out.mono ?_; rintro e w' ⟨rfl, rfl⟩)
            | (go_at_call 47; refine FD.out.mono ?_; rintro e w' ⟨rfl, rfl⟩))
          go_ret
          exact ⟨rfl, F, H.out, Turns.refl _ _⟩
        · have hnb : ¬ (nameOk nm = false ∨ m = 0 ∨ (j : Int) < 0) := by rw [hn]; simp [hm]
          cases hg : getF s.l nm with
          | none =>
            have e : flipS s nm (j : Int) m = (s, 3) := by unfold flipS; rw [ho, if_neg (by simp), if_neg hnb, hg]
            rw [e]
            rw [foundV_none hn hg] at FD
            clear e h hb hx hm hnb
            generalize m.toNat = mm at *
            go_enter Try.func38, Try.ntmps38
            go_wp2_with (first
              | (go_at_call 56; refine P.out.mono ?_; rintro e w' ⟨rfl, rfl⟩)
              | (go_at_call 47; refine FD.out.mono ?_; rintro e w' ⟨rfl, rfl⟩))
            go_ret
            exact ⟨rfl, F, H.out, Turns.refl _ _⟩
          | some f =>
            rw [foundV_some hn hg] at FD
            have hfm := getF_mem hg
            have HFN := Lib.hid (getF_name hg)
            have hfo := h.ok.files f hfm
            obtain ⟨v1, v2, hA⟩ := hx.each f hfm
            have HA := Lib.hid hA
            obtain ⟨A, cap, rfl, hcap, hcm, -⟩ := hA.own1.form
            obtain ⟨A2, cap2, rfl, hcap2, hcm2, -⟩ := hA.own2.form
            have c0 : w.cell? ⟨fb f.name, 0, none⟩ = some (.slice A f.now.length cap) := hA.box.cell 0 rfl
            have c1 : w.cell? ⟨fb f.name, 1, none⟩ = some (.slice A2 f.lasts.length cap2) := hA.box.cell 1 rfl
            by_cases hlen : f.now.length ≤ j
            · have e : flipS s nm (j : Int) m = (s, 1) := by unfold flipS; rw [ho, if_neg (by simp), if_neg hnb, hg]; simp [hlen]
              rw [e]
              have hji : (f.now.length : Int) ≤ (j : Int) := by omega
              clear e h hb hx hm hnb hA hcap hcm hcap2 hcm2 hfo hlen
              generalize m.toNat = mm at *
              go_enter Try.func38, Try.ntmps38
              go_wp2_with (first
                | (go_at_call 56; refine P.out.mono ?_; rintro e w' ⟨rfl, rfl⟩)
                | (go_at_call 47; refine FD.out.mono ?_; rintro e w' ⟨rfl, rfl⟩))
              go_ret
              exact ⟨rfl, F, H.out, Turns.refl _ _⟩
            · have e : flipS s nm (j : Int) m = ({ s with l := setF s.l (flipF f j m) }, 0) := by unfold flipS; rw [ho, if_neg (by simp), if_neg hnb, hg]; simp [hlen]
              rw [e]
              have hjl : j < f.now.length := by omega
              have hji : (j : Int) < (f.now.length : Int) := by omega
              obtain ⟨g, rfl, ca, fa, -⟩ := hA.own1.cell (j := j) (by rw [cel_length]; exact hjl)
              rw [cel_get f.now hjl] at ca
              have hx1 := u8_xor_nat (f.now.getD j 0).toNat m.toNat (UInt8.toNat_lt _) (UInt8.toNat_lt _)
              rw [← UInt8.toNat_xor] at hx1
              have st1 := hA.own1.store (j := j) (by rw [cel_length]; exact hjl) (.int .u8 ((f.now.getD j 0 ^^^ m).toNat : Int))
              rw [cel_flip] at st1
              have R1 := hA.row1 (w' := w.setCell ⟨g, j, none⟩ (.int .u8 ((f.now.getD j 0 ^^^ m).toNat : Int))) (now' := flipB f.now j m) (grownBy_cell w g j _) (by rw [flipB_len]; exact st1)
              have D0 : ∀ {W : World} {lasts' : List UInt8} {u1 u2 : Value}, FileAt W (DkX.own F col f.name) (fb f.name) u1 u2 (flipB f.now j m) lasts' → lasts' = flipB f.lasts j m → Only w W (DkX.own F col f.name) → ∃ F', Dk W b F' { s with l := setF s.l (flipF f j m) } ∧ Turns w W F F' := fun {W lasts' u1 u2} hF he hO => by
                subst he
                obtain ⟨F', X', T'⟩ := hx.flip (f' := flipF f j m) hfm rfl (fun _ => rfl) hO hF
                exact ⟨F', h.make (h.lok.set (f := f) (f' := flipF f j m) (by show getF _ f.name = _; rw [HFN.out]; exact hg) (hfo.flip j m) (by show usedL s.l + sect (flipB f.now j m).length ≤ _; rw [flipB_len]; have := h.used; omega)) ⟨mf, ml, fb, _, hx.box hb hO, X'⟩, T'⟩
              by_cases hl2 : j < f.lasts.length
              · have hli : (j : Int) < (f.lasts.length : Int) := by omega
                obtain ⟨g2, rfl, cb, fb2, -⟩ := R1.1.own2.cell (j := j) (by rw [cel_length]; exact hl2)
                rw [cel_get f.lasts hl2] at cb
                have hx2 := u8_xor_nat (f.lasts.getD j 0).toNat m.toNat (UInt8.toNat_lt _) (UInt8.toNat_lt _)
                rw [← UInt8.toNat_xor] at hx2
                have st2 := R1.1.own2.store (j := j) (by rw [cel_length]; exact hl2) (.int .u8 ((f.lasts.getD j 0 ^^^ m).toNat : Int))
                rw [cel_flip] at st2
                have R2 := R1.1.row2 (w' := (w.setCell ⟨g, j, none⟩ (.int .u8 ((f.now.getD j 0 ^^^ m).toNat : Int))).setCell ⟨g2, j, none⟩ (.int .u8 ((f.lasts.getD j 0 ^^^ m).toNat : Int))) (lasts' := flipB f.lasts j m) (grownBy_cell _ g2 j _) (by rw [flipB_len]; exact st2)
                have c2 : (w.setCell ⟨g, j, none⟩ (.int .u8 ((f.now.getD j 0 ^^^ m).toNat : Int))).cell? ⟨fb f.name, 1, none⟩ = some (.slice (some ⟨g2, 0, none⟩) f.lasts.length cap2) := R1.1.box.cell 1 rfl
                have FIN := Lib.hid (D0 R2.1 rfl (R1.2.trans R2.2 (fun _ h => .inl h)))
                clear e h hb hx hm hnb hA hcap hcm hcap2 hcm2 hfo hlen st1 st2 R1 R2 D0
                generalize m.toNat = mm at *
                generalize (f.now.getD j 0 ^^^ m).toNat = y1 at *
                generalize (f.lasts.getD j 0 ^^^ m).toNat = y2 at *
                generalize (f.now.getD j 0).toNat = x1 at *
                generalize (f.lasts.getD j 0).toNat = x2 at *
                go_enter Try.func38, Try.ntmps38
                go_wp2_with (first
                  | (go_at_call 56; refine P.out.mono ?_; rintro e w' ⟨rfl, rfl⟩)
                  | (go_at_call 47; refine FD.out.mono ?_; rintro e w' ⟨rfl, rfl⟩))
                go_ret
                exact ⟨rfl, FIN.out⟩
              · have hli : (f.lasts.length : Int) ≤ (j : Int) := by omega
                have c2 : (w.setCell ⟨g, j, none⟩ (.int .u8 ((f.now.getD j 0 ^^^ m).toNat : Int))).cell? ⟨fb f.name, 1, none⟩ = some (.slice A2 f.lasts.length cap2) := R1.1.box.cell 1 rfl
                have FIN := Lib.hid (D0 R1.1 (flip_far f.lasts j m (by omega)).symm R1.2)
                clear e h hb hx hm hnb hA hcap hcm hcap2 hcm2 hfo hlen st1 R1 D0 hl2
                generalize m.toNat = mm at *
                generalize (f.now.getD j 0 ^^^ m).toNat = y1 at *
                generalize (f.now.getD j 0).toNat = x1 at *
                go_enter Try.func38, Try.ntmps38
                go_wp2_with (first
                  | (go_at_call 56; refine P.out.mono ?_; rintro e w' ⟨rfl, rfl⟩)
                  | (go_at_call 47; refine FD.out.mono ?_; rintro e w' ⟨rfl, rfl⟩))
                go_ret
                exact ⟨rfl, FIN.out⟩
  · rw [ho] at P
    have e : flipS s nm i m = (s, 6) := by unfold flipS; rw [ho]; simp
    rw [e]
    clear e h hb hx FD
    generalize m.toNat = mm at *
    go_enter Try.func38, Try.ntmps38
    go_wp2_with (go_at_call 56; refine P.out.mono ?_; rintro e w' ⟨rfl, rfl⟩)
    go_ret
    exact ⟨rfl, F, H.out, Turns.refl _ _⟩
end
end Go.Proofs.Ytpbkkbkpodcgnaa
