/- Package disk: how much room there is; which sectors become loose; Write. -/
import Derived.Test.YtpbkkbkpodcgnaaDkOps7
namespace Go.Proofs.Ytpbkkbkpodcgnaa
open Go.RowKit Go.Shelf
set_option linter.unusedSimpArgs false
set_option linter.unusedVariables false
set_option maxRecDepth 100000

section
variable {w w' : World} {b : Nat} {F : Nat → Prop} {s : Ds}
def roomE (s : Ds) (len off count : Nat) : Nat := if len < off then 1 else if 16777216 < off + count then 9 else if sect len < sect (max len (off + count)) ∧ s.q < usedL s.l + (sect (max len (off + count)) - sect len) then 5 else 0
set_option maxHeartbeats 8000000 in
theorem checkRoom_any (h : Dk w b F s) {k : Nat} {v1 v2 : Value} {now lasts : List UInt8} {c : Nat → Prop} (hA : FileAt w c k v1 v2 now lasts) (hn : now.length ≤ 16777216) (off count : Nat) (ho : off ≤ 9223372036854775807) (hc : count ≤ 70000) :
    Calls Try.prog 51 #[.pointer (some ⟨b, 0, none⟩), .pointer (some ⟨k, 0, none⟩), .int .i64 (off : Int), .int .i64 (count : Int)] w fun e w' => e = .returned (.int .i64 (roomE s now.length off count : Int)) ∧ Keeps w w' := by
  obtain ⟨A, cap, rfl, hcap, hcm, -⟩ := hA.own1.form
  have c0 : w.cell? ⟨k, 0, none⟩ = some (.slice A now.length cap) := hA.box.cell 0 rfl
  have hkl := hA.lt
  obtain ⟨mf, ml, fb, col, hb, hx⟩ := h.at_
  have q2 : w.cell? ⟨b, 2, none⟩ = some (.int .i64 (s.q : Int)) := hb.cell 2 rfl
  have hbl := hb.lt
  have HQ := h.ok.q
  have HU := h.used
  have US := Lib.hid (fun (V : World) (kp : Keeps w V) => show Calls Try.prog 17 #[.pointer (some ⟨b, 0, none⟩)] V (fun e w' => e = .returned (.int .i64 (usedL s.l : Int)) ∧ Keeps V w') from used_any (h.keep kp))
  have QS := Lib.hid (fun (V : World) (kp : Keeps w V) => show V.cell? ⟨b, 2, none⟩ = some (.int .i64 (s.q : Int)) from kp.cellOf q2)
  clear hb hx hA hcm hcap h
  generalize hln : now.length = len at *
  clear hln
  by_cases h1 : len < off
  · have e : roomE s len off count = 1 := by unfold roomE; rw [if_pos h1]
    rw [e]
    have h1' : (len : Int) < (off : Int) := by omega
    clear e h1 HQ HU
    go_enter Try.func51, Try.ntmps51
    go_wp2_with fail
    go_ret
    exact ⟨rfl, keeps_refl _⟩
  · by_cases h2 : 16777216 < off + count
    · have e : roomE s len off count = 9 := by unfold roomE; rw [if_neg h1, if_pos h2]
      rw [e]
      have h1' : (off : Int) ≤ (len : Int) := by omega
      have h1b : (off : Int) ≤ 16777216 := by omega
      have h2' : (16777216 : Int) - (off : Int) < (count : Int) := by omega
      clear e h1 h2 HQ HU hn ho hc
      go_enter Try.func51, Try.ntmps51
      go_wp2_with fail
      go_ret
      exact ⟨rfl, keeps_refl _⟩
    · obtain ⟨sa, hsa⟩ : ∃ sa, sa = sect (off + count) := ⟨_, rfl⟩
      obtain ⟨sb, hsb⟩ : ∃ sb, sb = sect len := ⟨_, rfl⟩
      have e : roomE s len off count = if sb < sa ∧ s.q < usedL s.l + (sa - sb) then 5 else 0 := by
        unfold roomE
        rw [if_neg h1, if_neg h2]
        by_cases hm : off + count ≤ len
        · have := sect_le hm
          rw [Nat.max_eq_left hm, if_neg (by omega), if_neg (by omega)]
        · rw [Nat.max_eq_right (by omega), hsa, hsb]
      rw [e]
      have S1 := Lib.hid (sectorsOf_any (off + count) (by omega))
      have S2 := Lib.hid (sectorsOf_any len (by omega))
      rw [← hsa] at S1
      rw [← hsb] at S2
      have hsum : ((off + count : Nat) : Int) = (off : Int) + (count : Int) := by omega
      rw [hsum] at S1
      have b1 : (sa : Int) ≤ 262144 := by rw [hsa]; unfold sect; omega
      have b2 : (sb : Int) ≤ 262144 := by rw [hsb]; unfold sect; omega
      have h1' : (off : Int) ≤ (len : Int) := by omega
      have h1b : (off : Int) ≤ 16777216 := by omega
      have h2b : (count : Int) ≤ 70000 := by omega
      have h2' : (count : Int) ≤ (16777216 : Int) - (off : Int) := by omega
      obtain ⟨us, hus⟩ : ∃ us, us = usedL s.l := ⟨_, rfl⟩
      obtain ⟨qq, hqq⟩ : ∃ qq, qq = s.q := ⟨_, rfl⟩
      rw [← hus] at US HU ⊢
      rw [← hqq] at QS q2 HQ ⊢
      have b3 : (us : Int) ≤ 1048576 := by omega
      have b4 : (qq : Int) ≤ 1048576 := by omega
      clear e h1 h2 hn ho hc hsa hsb hsum hus hqq HQ HU
      by_cases h3 : sb < sa
      · have h3' : (0 : Int) < (sa : Int) - (sb : Int) := by omega
        have hdb : (sa : Int) - (sb : Int) ≤ 262144 := by omega
        have hw : IntKind.i64.wrap ((us : Int) + ((sa : Int) - (sb : Int))) = (us : Int) + ((sa : Int) - (sb : Int)) := by simp [IntKind.wrap, IntKind.bits, IntKind.signed]; omega
        by_cases h4 : qq < us + (sa - sb)
        · rw [if_pos ⟨h3, h4⟩]
          have h4' : (qq : Int) < (us : Int) + ((sa : Int) - (sb : Int)) := by omega
          clear h3 h4
          go_enter Try.func51, Try.ntmps51
          go_wp2_with fail
          go_quiet (first | (go_at_call_of 45 (Value.int .i64 ((off : Int) + (count : Int))); exact Calls.quiet_of_same ((S1.out _).mono fun _ _ h => ⟨h.1, h.2.symm⟩)) | (go_at_call_of 45 (Value.int .i64 (len : Int)); exact Calls.quiet_of_same ((S2.out _).mono fun _ _ h => ⟨h.1, h.2.symm⟩)))
          have k9 := keeps_drewN w nq
          have q9 := QS.out _ k9
          generalize w.drewN nq = wq at *
          have KQ := Lib.hid k9
          clear k9 q2 c0
          go_wp2_with fail
          generalize ((sa : Int) - (sb : Int)) = dd at *
          clear h1' h1b h2b h2' b1 b2
          go_region_held3 (fun V => V.cell? ⟨b, 2, none⟩ = some (.int .i64 (qq : Int)) ∧ Keeps w V) (first | exact ⟨QS.out _ (by first | assumption | exact KQ.out | exact keeps_trans KQ.out (keeps_drew _)), by first | assumption | exact KQ.out | exact keeps_trans KQ.out (keeps_drew _)⟩ | assumption) (first | (go_at_call 17; refine (US.out _ (by first | assumption | exact KQ.out | exact keeps_trans KQ.out (keeps_drew _))).mono ?_; rintro ee w1 ⟨rfl, hk1⟩; have hk2 := keeps_trans (keeps_trans KQ.out (keeps_drew _)) hk1))
          go_wp2_with fail
          go_ret
          exact ⟨rfl, by first | assumption | exact keeps_trans hk2 (keeps_drew _)⟩
        · rw [if_neg (fun h => h4 h.2)]
          have h4' : decide ((qq : Int) < (us : Int) + ((sa : Int) - (sb : Int))) = false := decide_eq_false (by omega)
          clear h3 h4
          go_enter Try.func51, Try.ntmps51
          go_wp2_with fail
          go_quiet (first | (go_at_call_of 45 (Value.int .i64 ((off : Int) + (count : Int))); exact Calls.quiet_of_same ((S1.out _).mono fun _ _ h => ⟨h.1, h.2.symm⟩)) | (go_at_call_of 45 (Value.int .i64 (len : Int)); exact Calls.quiet_of_same ((S2.out _).mono fun _ _ h => ⟨h.1, h.2.symm⟩)))
          have k9 := keeps_drewN w nq
          have q9 := QS.out _ k9
          generalize w.drewN nq = wq at *
          have KQ := Lib.hid k9
          clear k9 q2 c0
          go_wp2_with fail
          generalize ((sa : Int) - (sb : Int)) = dd at *
          clear h1' h1b h2b h2' b1 b2
          go_region_held3 (fun V => V.cell? ⟨b, 2, none⟩ = some (.int .i64 (qq : Int)) ∧ Keeps w V) (first | exact ⟨QS.out _ (by first | assumption | exact KQ.out | exact keeps_trans KQ.out (keeps_drew _)), by first | assumption | exact KQ.out | exact keeps_trans KQ.out (keeps_drew _)⟩ | assumption) (first | (go_at_call 17; refine (US.out _ (by first | assumption | exact KQ.out | exact keeps_trans KQ.out (keeps_drew _))).mono ?_; rintro ee w1 ⟨rfl, hk1⟩; have hk2 := keeps_trans (keeps_trans KQ.out (keeps_drew _)) hk1))
          go_wp2_with fail
          go_ret
          exact ⟨rfl, by first | assumption | exact keeps_trans hk2 (keeps_drew _)⟩
      · rw [if_neg (fun h => h3 h.1)]
        have h3' : decide (sb < sa) = false := decide_eq_false h3
        clear h3
        go_enter Try.func51, Try.ntmps51
        go_wp2_with fail
        go_quiet (first | (go_at_call_of 45 (Value.int .i64 ((off : Int) + (count : Int))); exact Calls.quiet_of_same ((S1.out _).mono fun _ _ h => ⟨h.1, h.2.symm⟩)) | (go_at_call_of 45 (Value.int .i64 (len : Int)); exact Calls.quiet_of_same ((S2.out _).mono fun _ _ h => ⟨h.1, h.2.symm⟩)))
        have k9 := keeps_drewN w nq
        generalize w.drewN nq = wq at *
        have KQ := Lib.hid k9
        clear k9 q2 c0
        go_wp2_with fail
        go_quiet (fail)
        go_wp2_with fail
        go_ret
        exact ⟨rfl, keeps_trans KQ.out (keeps_drewN _ _)⟩
end
end Go.Proofs.Ytpbkkbkpodcgnaa
