/- Package disk: Cut. -/
import Derived.Test.YtpbkkbkpodcgnaaDkOps6
import Derived.BigQuiet
namespace Go.Proofs.Ytpbkkbkpodcgnaa
open Go.RowKit Go.Shelf
set_option linter.unusedSimpArgs false
set_option linter.unusedVariables false
set_option maxRecDepth 100000

section
variable {w w' : World} {b : Nat} {F : Nat → Prop} {s : Ds}
set_option maxHeartbeats 4000000 in
theorem cutC_any (bn bs : Nat) (nm : List UInt8) (n : Nat) (hn : n ≤ 1000000000) (x : Pl) (W : World) (hb : Box W bn 9 #[.string (str nm)]) (hs : Box W bs 3 #[.int .i64 (n : Int)]) :
    Calls Try.prog 50 (#[.agg #[.string (str x.1), .int .i64 (x.2 : Int)]] ++ #[.pointer (some ⟨bn, 0, none⟩), .pointer (some ⟨bs, 0, none⟩)]) W fun e W' => e = .returned (.bool (decide (x.1 = nm ∧ sect n ≤ x.2))) ∧ Keeps W W' := by
  have k := keeps_alloc W (.cells #[.string (str x.1), .int .i64 (x.2 : Int)] 63)
  have c0 := (hb.keep k).cell 0 rfl
  have c1 := (hs.keep k).cell 0 rfl
  have bx := Box.new W 63 #[.string (str x.1), .int .i64 (x.2 : Int)]
  have p0 := bx.cell 0 rfl
  have p1 := bx.cell 1 rfl
  have hbl := hb.lt
  have hsl := hs.lt
  show Calls _ _ #[.agg #[.string (str x.1), .int .i64 (x.2 : Int)], .pointer (some ⟨bn, 0, none⟩), .pointer (some ⟨bs, 0, none⟩)] W _
  have he := str_eq_cases x.1 nm
  have SE := Lib.hid (sectorsOf_any n hn)
  clear hb hs hn
  by_cases h1 : x.1 = nm
  · rw [decide_eq_true h1] at he
    by_cases h2 : sect n ≤ x.2
    · rw [decide_eq_true (And.intro h1 h2)]
      have h3 : (sect n : Int) ≤ (x.2 : Int) := by omega
      clear h1 bx
      generalize sect n = sn at *
      generalize str x.1 = sx at *
      go_enter Try.func50, Try.ntmps50
      go_wp2_with fail
      go_quiet (exact Calls.quiet_of_same ((SE.out _).mono fun _ _ h => ⟨h.1, h.2.symm⟩))
      go_wp2_with fail
      go_ret
      exact ⟨by first | rfl | simp, keeps_trans k (keeps_drewN _ _)⟩
    · rw [decide_eq_false (fun h => h2 h.2)]
      have h3 : (x.2 : Int) < (sect n : Int) := by omega
      have h4 : decide ((sect n : Int) ≤ (x.2 : Int)) = false := decide_eq_false (by omega)
      clear h1 bx h2
      generalize sect n = sn at *
      generalize str x.1 = sx at *
      go_enter Try.func50, Try.ntmps50
      go_wp2_with fail
      go_quiet (exact Calls.quiet_of_same ((SE.out _).mono fun _ _ h => ⟨h.1, h.2.symm⟩))
      go_wp2_with fail
      go_ret
      exact ⟨by first | rfl | (simp [h4]; omega) | simp [h4], keeps_trans k (keeps_drewN _ _)⟩
  · rw [decide_eq_false h1] at he
    rw [decide_eq_false (fun h => h1 h.1)]
    clear h1 bx
    generalize str x.1 = sx at *
    go_enter Try.func50, Try.ntmps50
    go_wp2_with fail
    go_quiet (exact Calls.quiet_of_same ((SE.out _).mono fun _ _ h => ⟨h.1, h.2.symm⟩))
    go_wp2_with fail
    go_ret
    exact ⟨by first | rfl | simp [he], keeps_trans k (keeps_drewN _ _)⟩
theorem forgetCut_any {mf ml q armed : Nat} {off : Bool} (h : Box w b 83 (dkC mf ml q armed off)) {l2 : List (Pl × Unit)} (hm : LooseM w ml l2) (bn bs : Nat) (nm : List UInt8) (n : Nat) (hn : n ≤ 1000000000) (hb : Box w bn 9 #[.string (str nm)]) (hs : Box w bs 3 #[.int .i64 (n : Int)]) (hne : bn ≠ b) (hne2 : bs ≠ b) :
    Calls Try.prog 49 #[.pointer (some ⟨b, 0, none⟩), .func (.func 50) #[] #[.pointer (some ⟨bn, 0, none⟩), .pointer (some ⟨bs, 0, none⟩)]] w fun e w' => e = .returned (.tuple #[]) ∧ LooseM w' ml (l2.filter fun p => !decide (p.1.1 = nm ∧ sect n ≤ p.1.2)) ∧ Only w w' (fun c => c = ml ∨ c = bn ∨ c = bs) := by
  have hne3 : bn ≠ ml := hm.ne hb
  have hne4 : bs ≠ ml := hm.ne hs
  refine forgetK_any h hm 50 _ (enters_of Try.func50 (by kernel_rfl) rfl) (fun p => decide (p.1 = nm ∧ sect n ≤ p.2)) (fun c => c = bn ∨ c = bs) (fun c hc => ?_) ?_
  · rcases hc with rfl | rfl
    · exact ⟨hb.lt, hne, hne3⟩
    · exact ⟨hs.lt, hne2, hne4⟩
  · intro x W hW
    exact cutC_any bn bs nm n hn x W ((hW bn (.inl rfl)).trans hb) ((hW bs (.inr rfl)).trans hs)
set_option maxHeartbeats 16000000 in
theorem cutD_any (h : Dk w b F s) (nm : List UInt8) (n : Int) (hnm : nm.length ≤ maxLen) (h1 : -9223372036854775808 ≤ n) (h2 : n ≤ 9223372036854775807) :
    Calls Try.prog 22 #[dpt b, strV nm, .int .i64 n] w fun e w' => e = .returned (.int .i64 ((cutS s nm n).2 : Int)) ∧ ∃ F', Dk w' b F' (cutS s nm n).1 ∧ Turns w w' F F' := by
  show Calls _ _ #[.pointer (some ⟨b, 0, none⟩), .string (str nm), _] w _
  have k0 := keeps_trans (keeps_alloc w (.cells #[.string (str nm)] 9)) (keeps_alloc (w.alloc (.cells #[.string (str nm)] 9)) (.cells #[.int .i64 n] 3))
  have h0 := h.keep k0
  have hFl := h.lt
  have bx := (Box.new w 9 #[.string (str nm)]).keep (keeps_alloc (w.alloc (.cells #[.string (str nm)] 9)) (.cells #[.int .i64 n] 3))
  have by_ := Box.new (w.alloc (.cells #[.string (str nm)] 9)) 3 #[.int .i64 n]
  simp only [World.size_alloc] at by_
  have BG := Lib.hid (begin_dk h0)
  have TB := Lib.hid (fun (V : World) (hO : Only ((w.alloc (.cells #[.string (str nm)] 9)).alloc (.cells #[.int .i64 n] 3)) V (fun c => c = b)) => (Turns.of_keeps (S := F) k0).trans (h0.turnsB hO))
  have GL := Lib.hid (gone_parts h).1
  have hbw : b < w.heap.size := by
    obtain ⟨mf, ml, fb, col, hb, hx⟩ := h.at_
    exact hb.lt
  have NB := Lib.hid (fun (V : World) (hO : Only ((w.alloc (.cells #[.string (str nm)] 9)).alloc (.cells #[.int .i64 n] 3)) V (fun c => c = b)) => show Box V w.heap.size 9 #[.string (str nm)] ∧ Box V (w.heap.size + 1) 3 #[.int .i64 n] from ⟨(hO.block _ bx.lt (by omega)).trans bx, (hO.block _ by_.lt (by omega)).trans by_⟩)
  clear bx by_
  cases ho : (goneS s).off
  · rw [ho] at BG
    by_cases hneg : n < 0
    · have e : cutS s nm n = (goneS s, 1) := by unfold cutS; rw [ho, if_neg (by simp), if_pos (.inr hneg)]
      rw [e]
      clear e h h0
      go_enter Try.func22, Try.ntmps22
      go_wp2_with (go_at_call 46; refine BG.out.mono ?_; rintro e w1 ⟨rfl, hD, hO⟩; have n0 := (NB.out _ hO).1.cell 0 rfl; have n1 := (NB.out _ hO).2.cell 0 rfl)
      go_ret
      exact ⟨rfl, F, hD, TB.out _ hO⟩
    · obtain ⟨m, rfl⟩ := Int.eq_ofNat_of_zero_le (show 0 ≤ n by omega)
      cases hn : nameOk nm
      · have e : cutS s nm (m : Int) = (goneS s, 1) := by unfold cutS; rw [ho, if_neg (by simp), if_pos (.inl hn)]
        rw [e]
        clear e h h0
        go_enter Try.func22, Try.ntmps22
        go_wp2_with (first
          | (go_at_call 46; refine BG.out.mono ?_; rintro e w1 ⟨rfl, hD, hO⟩; have n0 := (NB.out _ hO).1.cell 0 rfl; have n1 := (NB.out _ hO).2.cell 0 rfl)
          | (go_at_call 47; obtain ⟨mf, ml, fb, col, hb, hx⟩ := hD.at_; refine (find_dk hb hx nm hnm).mono ?_; rw [foundV_bad hn]; rintro e w' ⟨rfl, rfl⟩))
        go_ret
        exact ⟨rfl, F, hD, TB.out _ hO⟩
      · have hnb : ¬ (nameOk nm = false ∨ (m : Int) < 0) := by rw [hn]; simp
        cases hg : getF s.l nm with
        | none =>
          have e : cutS s nm (m : Int) = (goneS s, 3) := by unfold cutS; rw [ho, if_neg (by simp), if_neg hnb, hg]
          rw [e]
          have hg2 : getF (goneS s).l nm = none := by rw [GL.out]; exact hg
          clear e h h0 hnb
          go_enter Try.func22, Try.ntmps22
          go_wp2_with (first
            | (go_at_call 46; refine BG.out.mono ?_; rintro e w1 ⟨rfl, hD, hO⟩; have n0 := (NB.out _ hO).1.cell 0 rfl; have n1 := (NB.out _ hO).2.cell 0 rfl)
            | (go_at_call 47; obtain ⟨mf, ml, fb, col, hb, hx⟩ := hD.at_; refine (find_dk hb hx nm hnm).mono ?_; rw [foundV_none hn hg2]; rintro e w' ⟨rfl, rfl⟩))
          go_ret
          exact ⟨rfl, F, hD, TB.out _ hO⟩
        | some f =>
          have hg2 : getF (goneS s).l nm = some f := by rw [GL.out]; exact hg
          have HFN := Lib.hid (getF_name hg)
          by_cases hlen : f.now.length < m
          · have e : cutS s nm (m : Int) = (goneS s, 1) := by unfold cutS; rw [ho, if_neg (by simp), if_neg hnb, hg]; simp [hlen]
            rw [e]
            have hlt : (f.now.length : Int) < (m : Int) := by omega
            clear e h h0 hnb
            go_enter Try.func22, Try.ntmps22
            go_wp2_with (first
              | (go_at_call 46; refine BG.out.mono ?_; rintro e w1 ⟨rfl, hD, hO⟩; have n0 := (NB.out _ hO).1.cell 0 rfl; have n1 := (NB.out _ hO).2.cell 0 rfl)
              | (go_at_call 47; obtain ⟨mf, ml, fb, col, hb, hx⟩ := hD.at_; refine (find_dk hb hx nm hnm).mono ?_; rw [foundV_some hn hg2]; rintro e w' ⟨rfl, rfl⟩))
            obtain ⟨v1, v2, hA⟩ := hx.each f (getF_mem hg2)
            obtain ⟨A, cap, rfl, hcap, hcm, -⟩ := hA.own1.form
            have c0 : w1.cell? ⟨fb f.name, 0, none⟩ = some (.slice A f.now.length cap) := hA.box.cell 0 rfl
            have HD := Lib.hid hD
            have HO := Lib.hid hO
            clear hb hx hA hcap hcm hD hO
            go_quiet (fail)
            go_wp2_with fail
            go_ret
            exact ⟨rfl, F, HD.out.keep (keeps_drewN _ _), (TB.out _ HO.out).trans (Turns.of_keeps (keeps_drewN _ _))⟩
          · have e : cutS s nm (m : Int) = ({ goneS s with l := setF s.l (cutF f m) }, 0) := by unfold cutS; rw [ho, if_neg (by simp), if_neg hnb, hg]; simp [hlen]
            rw [e]
            rw [← GL.out]
            have hge : (m : Int) ≤ (f.now.length : Int) := by omega
            have HGE := Lib.hid (show m ≤ f.now.length by omega)
            clear e h h0 hnb
            go_enter Try.func22, Try.ntmps22
            go_wp2_with (first
              | (go_at_call 46; refine BG.out.mono ?_; rintro e w1 ⟨rfl, hD, hO⟩; have n0 := (NB.out _ hO).1.cell 0 rfl; have n1 := (NB.out _ hO).2.cell 0 rfl)
              | (go_at_call 47; obtain ⟨mf, ml, fb, col, hb, hx⟩ := hD.at_; refine (find_dk hb hx nm hnm).mono ?_; rw [foundV_some hn hg2]; rintro e w' ⟨rfl, rfl⟩))
            have hfm := getF_mem hg2
            have hfo := hD.ok.files f hfm
            obtain ⟨v1, v2, hA⟩ := hx.each f hfm
            have HA := Lib.hid hA
            obtain ⟨A, cap, rfl, hcap, hcm, -⟩ := hA.own1.form
            have c0 : w1.cell? ⟨fb f.name, 0, none⟩ = some (.slice A f.now.length cap) := hA.box.cell 0 rfl
            have HB := Lib.hid hb
            have HX := Lib.hid hx
            have HO := Lib.hid hO
            have HD := Lib.hid hD
            have HFO := Lib.hid hfo
            have HFM := Lib.hid hfm
            have hls : w.heap.size + 1 < w1.heap.size := (NB.out _ hO).2.lt
            clear hb hx hD hA hfo hfm hcm hcap
            go_quiet (fail)
            have k9 := keeps_drewN w1 nq
            generalize w1.drewN nq = wq at *
            have m0 : wq.cell? ⟨w.heap.size + 1, 0, none⟩ = some (.int .i64 (m : Int)) := ((NB.out _ HO.out).2.keep k9).cell 0 rfl
            have CA := Lib.hid (cut_any (HA.out.keep k9) m HGE.out HFO.out.size (Nat.le_trans HFO.out.lasts HFO.out.size))
            have K9 := Lib.hid k9
            clear k9 c0 n0 n1
            go_wp2_with (go_at_call 48; refine CA.out.mono ?_; rintro e w4 ⟨rfl, u1, u2, F4, O4⟩)
            have X1 := HX.out.keep K9.out
            have X4 := X1.turn (f' := { f with now := f.now.take m, lasts := f.lasts.take m }) HFM.out rfl (fun _ => rfl) O4 F4
            have T4 : Turns w1 w4 F (more wq w4 F) := (Turns.of_keeps K9.out).trans (turns_more O4 (fun i hi => hi.1))
            have Bq : Box wq b 83 (dkC mf ml (goneS s).q (goneS s).armed (goneS s).off) := HB.out.keep K9.out
            have B4 : Box w4 b 83 (dkC mf ml (goneS s).q (goneS s).armed (goneS s).off) := X1.box Bq O4
            have nF : ∀ i, w.heap.size ≤ i → ¬ F i := fun i hi e => by have := hFl _ e; omega
            have hlq : w.heap.size + 1 < wq.heap.size := Nat.lt_of_lt_of_le hls K9.out.size
            have N4 : Box w4 w.heap.size 9 #[.string (str nm)] := (O4.block _ (by omega) (fun e => nF _ (Nat.le_refl _) e.1)).trans ((NB.out _ HO.out).1.keep K9.out)
            have N5 : Box w4 (w.heap.size + 1) 3 #[.int .i64 (m : Int)] := (O4.block _ hlq (fun e => nF _ (by omega) e.1)).trans ((NB.out _ HO.out).2.keep K9.out)
            obtain ⟨l4, hm4, hmem⟩ := X4.loose
            have FG := Lib.hid (forgetCut_any B4 hm4 w.heap.size (w.heap.size + 1) nm m (by have := HGE.out; have := HFO.out.size; omega) N4 N5 (by omega) (by omega))
            have FIN := Lib.hid (show ∀ w5, LooseM w5 ml (l4.filter fun p => !decide (p.1.1 = nm ∧ sect m ≤ p.1.2)) → Only w4 w5 (fun c => c = ml ∨ c = w.heap.size ∨ c = w.heap.size + 1) → Dk w5 b (more wq w4 F) { goneS s with l := setF (goneS s).l (cutF f m) } ∧ Turns w w5 F (more wq w4 F) from fun w5 hL5 hO5 => by
              have nF4 : ∀ i, w.heap.size ≤ i → i ≤ w.heap.size + 1 → ¬ more wq w4 F i := fun i hi hi2 e => by
                rcases e with e | e
                · exact nF i hi e
                · omega
              have X5 := X4.remark (f2 := cutF f m) rfl rfl rfl ⟨_, hL5, fun p => by
                rw [filt_keys (fun q => !decide (q.1 = nm ∧ sect m ≤ q.2)), hmem p, looseIn_set (f := f) (f' := { f with now := f.now.take m, lasts := f.lasts.take m }) HX.out.nodup HFM.out rfl (fun _ => rfl) p, looseIn_set2 (f := f) (f' := cutF f m) HX.out.nodup HFM.out rfl p]
                simp only [Bool.not_eq_true', decide_eq_false_iff_not]
                rw [HFN.out]
                constructor
                · rintro ⟨h1, h2⟩
                  by_cases e : p.1 = nm
                  · refine .inr ⟨e, ?_⟩
                    have h3 := (looseIn_one HX.out.nodup HFM.out (p := p) (by rw [HFN.out]; exact e)).1 h1
                    show (f.loose p.2 && decide (p.2 < sect m)) = true
                    rw [h3, Bool.true_and]
                    exact decide_eq_true (by
                      by_cases q : sect m ≤ p.2
                      · exact absurd ⟨e, q⟩ h2
                      · omega)
                  · exact .inl ⟨e, h1⟩
                · rintro (⟨h1, h2⟩ | ⟨h1, h2⟩)
                  · exact ⟨h2, fun q => h1 q.1⟩
                  · have h3 : (f.loose p.2 && decide (p.2 < sect m)) = true := h2
                    rw [Bool.and_eq_true, decide_eq_true_eq] at h3
                    exact ⟨(looseIn_one HX.out.nodup HFM.out (p := p) (by rw [HFN.out]; exact h1)).2 h3.1, fun q => by omega⟩⟩ (hO5.weak fun i hi => by
                rcases hi with hi | hi | hi
                · exact .inl hi
                · exact .inr (by rw [hi]; exact nF4 _ (Nat.le_refl _) (by omega))
                · exact .inr (by rw [hi]; exact nF4 _ (by omega) (Nat.le_refl _)))
              have hne : b ≠ ml := hm4.ne B4
              refine ⟨HD.out.make (HD.out.lok.set (f := f) (f' := cutF f m) (by show getF _ f.name = _; rw [HFN.out]; exact hg2) (HFO.out.cut HGE.out) (by
                have h1 := HD.out.used
                have h2 : (f.now.take m).length ≤ f.now.length := by rw [List.length_take]; omega
                have h3 := sect_le h2
                show usedL (goneS s).l + sect (f.now.take m).length ≤ _
                omega)) ⟨mf, ml, fb, _, (hO5.block b B4.lt (fun e => ?_)).trans B4, X5⟩, ⟨((TB.out _ HO.out).trans T4).only.trans hO5 (fun i hi => ?_), ((TB.out _ HO.out).trans T4).next⟩⟩
              · rcases e with e | e | e
                · exact hne e
                · omega
                · omega
              · rcases hi with hi | hi | hi
                · exact .inl (by rw [hi]; exact HX.out.nl.1)
                · exact .inr (by omega)
                · exact .inr (by omega))
            clear F4 O4 X1 X4 T4 Bq B4 N4 N5 hm4 hmem nF hlq m0
            go_wp2_with (go_at_call 49; refine FG.out.mono ?_; rintro e w5 ⟨rfl, hL5, hO5⟩)
            have FF := FIN.out w5 hL5 hO5
            go_ret
            exact ⟨rfl, _, FF.1, FF.2⟩
  · rw [ho] at BG
    have e : cutS s nm n = (goneS s, 6) := by unfold cutS; rw [ho]; simp
    rw [e]
    clear e h h0
    go_enter Try.func22, Try.ntmps22
    go_wp2_with (go_at_call 46; refine BG.out.mono ?_; rintro e w1 ⟨rfl, hD, hO⟩)
    go_ret
    exact ⟨rfl, F, hD, TB.out _ hO⟩
end
end Go.Proofs.Ytpbkkbkpodcgnaa
