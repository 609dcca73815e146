/- Package disk: Write. -/
import Derived.Test.YtpbkkbkpodcgnaaDkOps9
namespace Go.Proofs.Ytpbkkbkpodcgnaa
open Go.RowKit Go.Shelf
set_option linter.unusedSimpArgs false
set_option linter.unusedVariables false
set_option maxRecDepth 100000

section
variable {w w' : World} {b : Nat} {F : Nat → Prop} {s : Ds}
theorem writeS_room (s : Ds) (nm : List UInt8) (off : Nat) (l : List UInt8) {f : Fl} (ho : (goneS s).off = false) (hn : nameOk nm = true) (hg : getF s.l nm = some f) :
    writeS s nm (off : Int) l = if roomE s f.now.length off l.length = 0 then ({ goneS s with l := setF s.l (writeF f off l) }, 0) else (goneS s, roomE s f.now.length off l.length) := by
  unfold writeS roomE
  rw [ho, if_neg (by simp), if_neg (by rw [hn]; simp), hg]
  simp only [Int.toNat_natCast]
  by_cases h1 : f.now.length < off
  · simp [h1]
  · rw [if_neg h1, if_neg h1]
    by_cases h2 : 16777216 < off + l.length
    · simp [h2]
    · rw [if_neg h2, if_neg h2]
      by_cases h3 : sect f.now.length < sect (max f.now.length (off + l.length)) ∧ s.q < usedL s.l + (sect (max f.now.length (off + l.length)) - sect f.now.length)
      · rw [if_pos h3, if_pos h3]; simp
      · rw [if_neg h3, if_neg h3]; simp
theorem room_zero {s : Ds} {len off n : Nat} (h : roomE s len off n = 0) : off ≤ len ∧ off + n ≤ 16777216 ∧ ¬ (sect len < sect (max len (off + n)) ∧ s.q < usedL s.l + (sect (max len (off + n)) - sect len)) := by
  unfold roomE at h
  by_cases h1 : len < off
  · rw [if_pos h1] at h; cases h
  · rw [if_neg h1] at h
    by_cases h2 : 16777216 < off + n
    · rw [if_pos h2] at h; cases h
    · rw [if_neg h2] at h
      refine ⟨by omega, by omega, fun h3 => ?_⟩
      rw [if_pos h3] at h
      cases h
theorem room_val (s : Ds) (len off n : Nat) : roomE s len off n ≤ 9 := by
  unfold roomE
  split
  · decide
  · split
    · decide
    · split <;> decide
theorem Bs.turns {A : Option Addr} {l : List UInt8} {F' : Nat → Prop} (h : Bs w A l) (ht : Turns w w' F F') (hF : ∀ ad, A = some ad → ¬ F ad.block) : Bs w' A l := Turns.at_ ht h hF
set_option maxHeartbeats 16000000 in
theorem write_any (h : Dk w b F s) (nm : List UInt8) (off : Int) (A : Option Addr) (n c : Nat) (l : List UInt8) (hnm : nm.length ≤ maxLen) (h1 : -9223372036854775808 ≤ off) (h2 : off ≤ 9223372036854775807)
    (hB : Bs w A l) (hAF : ∀ ad, A = some ad → ¬ F ad.block) (hnl : n = l.length) (hnc : n ≤ c) (hn7 : n ≤ 70000) :
    Calls Try.prog 23 #[dpt b, strV nm, .int .i64 off, .slice A n c] w fun e w' => e = .returned (.int .i64 ((writeS s nm off l).2 : Int)) ∧ ∃ F', Dk w' b F' (writeS s nm off l).1 ∧ Turns w w' F F' := by
  show Calls _ _ #[.pointer (some ⟨b, 0, none⟩), .string (str nm), _, _] w _
  have BG := Lib.hid (begin_dk h)
  have TB := Lib.hid (fun (V : World) (hO : Only w V (fun c => c = b)) => h.turnsB hO)
  have GP := Lib.hid (gone_parts h)
  have HBS := Lib.hid hB
  have HAF := Lib.hid hAF
  have HNL := Lib.hid hnl
  have HNC := Lib.hid hnc
  have HN7 := Lib.hid hn7
  clear hB hAF hnl hnc hn7
  cases ho : (goneS s).off
  · rw [ho] at BG
    by_cases hneg : off < 0
    · have e : writeS s nm off l = (goneS s, 1) := by unfold writeS; rw [ho, if_neg (by simp), if_pos (.inr hneg)]
      rw [e]
      clear e h
      go_enter Try.func23, Try.ntmps23
      go_wp2_with (go_at_call 46; refine BG.out.mono ?_; rintro e w1 ⟨rfl, hD, hO⟩)
      go_ret
      exact ⟨rfl, F, hD, TB.out _ hO⟩
    · obtain ⟨o, rfl⟩ := Int.eq_ofNat_of_zero_le (show 0 ≤ off by omega)
      have hon : ¬ (o : Int) < 0 := by omega
      cases hn : nameOk nm
      · have e : writeS s nm (o : Int) l = (goneS s, 1) := by unfold writeS; rw [ho, if_neg (by simp), if_pos (.inl hn)]
        rw [e]
        clear e h
        go_enter Try.func23, Try.ntmps23
        go_wp2_with (first
          | (go_at_call 46; refine BG.out.mono ?_; rintro e w1 ⟨rfl, hD, hO⟩)
          | (go_at_call 47; obtain ⟨mf, ml, fb, col, hb, hx⟩ := hD.at_; refine (find_dk hb hx nm hnm).mono ?_; rw [foundV_bad hn]; rintro e w' ⟨rfl, rfl⟩))
        go_ret
        exact ⟨rfl, F, hD, TB.out _ hO⟩
      · cases hg : getF s.l nm with
        | none =>
          have e : writeS s nm (o : Int) l = (goneS s, 3) := by unfold writeS; rw [ho, if_neg (by simp), if_neg (by rw [hn]; simp), hg]
          rw [e]
          have hg2 : getF (goneS s).l nm = none := by rw [GP.out.1]; exact hg
          clear e h
          go_enter Try.func23, Try.ntmps23
          go_wp2_with (first
            | (go_at_call 46; refine BG.out.mono ?_; rintro e w1 ⟨rfl, hD, hO⟩)
            | (go_at_call 47; obtain ⟨mf, ml, fb, col, hb, hx⟩ := hD.at_; refine (find_dk hb hx nm hnm).mono ?_; rw [foundV_none hn hg2]; rintro e w' ⟨rfl, rfl⟩))
          go_ret
          exact ⟨rfl, F, hD, TB.out _ hO⟩
        | some f =>
          have hg2 : getF (goneS s).l nm = some f := by rw [GP.out.1]; exact hg
          have HFN := Lib.hid (getF_name hg)
          have e := writeS_room s nm o l ho hn hg
          have er : roomE (goneS s) f.now.length o l.length = roomE s f.now.length o l.length := by unfold roomE; rw [GP.out.1, GP.out.2.1]
          by_cases hr : roomE s f.now.length o l.length = 0
          · rw [if_pos hr] at e
            rw [e]
            rw [hr] at er
            obtain ⟨r1, r2, r3⟩ := room_zero er
            have ROOM := Lib.hid (And.intro r1 (And.intro r2 r3))
            rw [← GP.out.1]
            clear e h hr r1 r2 r3
            go_enter Try.func23, Try.ntmps23
            go_wp2_with (first
              | (go_at_call 46; refine BG.out.mono ?_; rintro e w1 ⟨rfl, hD, hO⟩)
              | (go_at_call 47; obtain ⟨mf, ml, fb, col, hb, hx⟩ := hD.at_; refine (find_dk hb hx nm hnm).mono ?_; rw [foundV_some hn hg2]; rintro e w' ⟨rfl, rfl⟩; obtain ⟨v1, v2, hA⟩ := hx.each f (getF_mem hg2); have hfo := hD.ok.files f (getF_mem hg2))
              | (go_at_call 51; refine (checkRoom_any hD hA hfo.size o n (by omega) HN7.out).mono ?_; rw [HNL.out, er]; rintro e w3 ⟨rfl, k3⟩))
            have hfm := getF_mem hg2
            have X3 := hx.keep k3
            have B3 : Box w3 b 83 (dkC mf ml (goneS s).q (goneS s).armed (goneS s).off) := hb.keep k3
            have T3 : Turns w w3 F F := (TB.out _ hO).trans (Turns.of_keeps k3)
            have PU := Lib.hid (put_any (hA.keep k3) o ROOM.out.1 hfo.size A l.length c l (HBS.out.turns T3 HAF.out) rfl (by rw [← HNL.out]; exact HNC.out) (by rw [← HNL.out]; exact HN7.out) (fun ad ea hh => HAF.out ad ea hh.1))
            have HX3 := Lib.hid X3
            have HB3 := Lib.hid B3
            have HT3 := Lib.hid T3
            have HD := Lib.hid hD
            have HFO := Lib.hid hfo
            have HFM := Lib.hid hfm
            have hol : (o : Int) ≤ 16777216 := by have := ROOM.out.1; have := hfo.size; omega
            have hll : (l.length : Int) ≤ 70000 := by have := HN7.out; have := HNL.out; omega
            have HOL := Lib.hid (And.intro hol hll)
            clear hb hx hA hD hfo hfm X3 B3 T3 k3 hO
            go_wp2_with (go_at_call 52; refine PU.out.mono ?_; rintro e w4 ⟨rfl, u1, F4, O4⟩)
            have X4 := HX3.out.turn (f' := { f with now := layB f.now o l }) HFM.out rfl (fun _ => rfl) O4 F4
            have T4 : Turns w w4 F (more w3 w4 F) := HT3.out.trans (turns_more O4 (fun i hi => hi.1))
            have B4 : Box w4 b 83 (dkC mf ml (goneS s).q (goneS s).armed (goneS s).off) := HX3.out.box HB3.out O4
            obtain ⟨l4, hm4, hmem⟩ := X4.loose
            have LO := Lib.hid (loosen_any B4 hm4 nm o l.length (by have := HOL.out; omega) (by have := HOL.out; omega))
            have FIN := Lib.hid (show ∀ w5 l3, LooseM w5 ml l3 → (∀ p, p ∈ l3.map Prod.fst ↔ p ∈ l4.map Prod.fst ∨ (p.1 = nm ∧ 0 < l.length ∧ o / 64 ≤ p.2 ∧ p.2 ≤ (o + l.length - 1) / 64)) → Only w4 w5 (fun c => c = ml) → Dk w5 b (more w3 w4 F) { goneS s with l := setF (goneS s).l (writeF f o l) } ∧ Turns w w5 F (more w3 w4 F) from fun w5 l3 hL5 hk5 hO5 => by
              have X5 := X4.remark (f2 := writeF f o l) rfl rfl rfl ⟨l3, hL5, fun p => by
                rw [hk5 p, hmem p, looseIn_set (f := f) (f' := { f with now := layB f.now o l }) HX3.out.nodup HFM.out rfl (fun _ => rfl) p, looseIn_set2 (f := f) (f' := writeF f o l) HX3.out.nodup HFM.out rfl p]
                have hwl : (writeF f o l).loose p.2 = true ↔ (f.loose p.2 = true ∨ (0 < l.length ∧ o / 64 ≤ p.2 ∧ p.2 ≤ (o + l.length - 1) / 64)) := by
                  show (f.loose p.2 || (decide (0 < l.length) && decide (o / 64 ≤ p.2) && decide (p.2 ≤ (o + l.length - 1) / 64))) = true ↔ _
                  simp only [Bool.or_eq_true, Bool.and_eq_true, decide_eq_true_eq, and_assoc]
                rw [hwl, HFN.out]
                constructor
                · rintro (h1 | ⟨h1, h2⟩)
                  · by_cases e : p.1 = nm
                    · exact .inr ⟨e, .inl ((looseIn_one HX3.out.nodup HFM.out (p := p) (by rw [HFN.out]; exact e)).1 h1)⟩
                    · exact .inl ⟨e, h1⟩
                  · exact .inr ⟨h1, .inr h2⟩
                · rintro (⟨h1, h2⟩ | ⟨h1, h2 | h2⟩)
                  · exact .inl h2
                  · exact .inl ((looseIn_one HX3.out.nodup HFM.out (p := p) (by rw [HFN.out]; exact h1)).2 h2)
                  · exact .inr ⟨h1, h2⟩⟩ (hO5.weak fun i hi => .inl hi)
              have hne : b ≠ ml := hm4.ne B4
              have hlw : (writeF f o l).now.length = max f.now.length (o + l.length) := layB_length f.now o l ROOM.out.1
              refine ⟨HD.out.make (HD.out.lok.set (f := f) (f' := writeF f o l) (by show getF _ f.name = _; rw [HFN.out]; exact hg2) (HFO.out.write ROOM.out.1 ROOM.out.2.1) (by
                rw [hlw]
                have h1 := HD.out.used
                have h2 := ROOM.out.2.2
                have h3 := HD.out.ok.q
                have h4 := sect_le (show f.now.length ≤ max f.now.length (o + l.length) by omega)
                omega)) ⟨mf, ml, fb, _, (hO5.block b B4.lt hne).trans B4, X5⟩, ⟨T4.only.trans hO5 (fun i hi => .inl (by rw [hi]; exact HX3.out.nl.1)), T4.next⟩⟩)
            clear F4 O4 X4 T4 B4 hm4 hmem
            go_wp2_with (go_at_call 53; refine LO.out.mono ?_; rintro e w5 ⟨rfl, l3, hL5, hk5, hO5⟩)
            have FF := FIN.out w5 l3 hL5 hk5 hO5
            go_ret
            exact ⟨rfl, _, FF.1, FF.2⟩
          · rw [if_neg hr] at e
            rw [e]
            have hr9 := room_val s f.now.length o l.length
            rw [← er] at hr hr9 ⊢
            clear e h
            generalize hrr : roomE (goneS s) f.now.length o l.length = rr at *
            have hri : ((rr : Int) == 0) = false := by rw [beq_eq_false_iff_ne]; omega
            have hri2 : ((rr : Int) != 0) = true := by rw [bne_iff_ne]; omega
            go_enter Try.func23, Try.ntmps23
            go_wp2_with (first
              | (go_at_call 46; refine BG.out.mono ?_; rintro e w1 ⟨rfl, hD, hO⟩)
              | (go_at_call 47; obtain ⟨mf, ml, fb, col, hb, hx⟩ := hD.at_; refine (find_dk hb hx nm hnm).mono ?_; rw [foundV_some hn hg2]; rintro e w' ⟨rfl, rfl⟩; obtain ⟨v1, v2, hA⟩ := hx.each f (getF_mem hg2); have hfo := hD.ok.files f (getF_mem hg2))
              | (go_at_call 51; refine (checkRoom_any hD hA hfo.size o n (by omega) HN7.out).mono ?_; rw [HNL.out, hrr]; rintro e w3 ⟨rfl, k3⟩))
            go_ret
            exact ⟨by rw [er]; rfl, F, hD.keep k3, (TB.out _ hO).trans (Turns.of_keeps k3)⟩
  · rw [ho] at BG
    have e : writeS s nm off l = (goneS s, 6) := by unfold writeS; rw [ho]; simp
    rw [e]
    clear e h
    go_enter Try.func23, Try.ntmps23
    go_wp2_with (go_at_call 46; refine BG.out.mono ?_; rintro e w1 ⟨rfl, hD, hO⟩)
    go_ret
    exact ⟨rfl, F, hD, TB.out _ hO⟩
end
end Go.Proofs.Ytpbkkbkpodcgnaa
