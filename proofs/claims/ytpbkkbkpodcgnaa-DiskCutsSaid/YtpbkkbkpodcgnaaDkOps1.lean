/- Package disk: calls that turn no file. -/
import Derived.Test.YtpbkkbkpodcgnaaDkForget
namespace Go.Proofs.Ytpbkkbkpodcgnaa
open Go.RowKit Go.Shelf
set_option linter.unusedSimpArgs false
set_option linter.unusedVariables false
set_option maxRecDepth 100000

section
variable {w w' : World} {b : Nat} {F : Nat → Prop} {s : Ds}
theorem gone_parts (h : Dk w b F s) : (goneS s).l = s.l ∧ (goneS s).q = s.q ∧ (goneS s).armed = fuseA s.armed ∧ (goneS s).off = fuseO s.armed s.off := by
  have hd := h.dead
  unfold goneS fuseA fuseO
  by_cases h0 : 0 < s.armed
  · rw [if_pos h0, if_pos h0]
    have : s.off = false := by
      cases ho : s.off with
      | false => rfl
      | true => have := hd ho; omega
    simp [this]
  · rw [if_neg h0, if_neg h0]
    refine ⟨rfl, rfl, ?_, rfl⟩
    omega
theorem begin_dk (h : Dk w b F s) : Calls Try.prog 46 #[.pointer (some ⟨b, 0, none⟩)] w fun e w' => e = .returned (.int .i64 (pwr (goneS s).off)) ∧ Dk w' b F (goneS s) ∧ Only w w' (fun c => c = b) := by
  obtain ⟨g1, g2, g3, g4⟩ := gone_parts h
  obtain ⟨mf, ml, fb, col, hb, hx⟩ := h.at_
  refine (begin_any hb h.armed).mono ?_
  rintro e w' ⟨rfl, hb', hO⟩
  refine ⟨by rw [g4], ⟨⟨by rw [g1]; exact h.ok.rise, by rw [g1]; exact h.ok.files, by rw [g2]; exact h.ok.q⟩, ?_, ?_, by rw [g1]; exact h.used, mf, ml, fb, col, by rw [g2, g3, g4]; exact hb', by rw [g1]; exact hx.setB hb hO⟩, hO⟩
  · rw [g3, g4]
    unfold fuseO fuseA
    intro ho
    split at ho
    · have := of_decide_eq_true ho; omega
    · have := h.dead ho; omega
  · rw [g3]
    unfold fuseA
    have := h.armed
    omega
theorem Dk.turnsB (h : Dk w b F s) (hO : Only w w' (fun c => c = b)) : Turns w w' F F := by
  obtain ⟨mf, ml, fb, col, hb, hx⟩ := h.at_
  exact ⟨hO.weak (fun i hi => by rw [hi]; exact hx.nb.1), fun _ hi => .inl hi⟩
theorem power_dk (h : Dk w b F s) : Calls Try.prog 56 #[.pointer (some ⟨b, 0, none⟩)] w fun e w' => e = .returned (.int .i64 (pwr s.off)) ∧ w = w' := by
  obtain ⟨mf, ml, fb, col, hb, hx⟩ := h.at_
  exact checkPower_any hb
/-- a file that is looked for -/
def foundV (s : Ds) (fb : List UInt8 → Nat) (nm : List UInt8) : Value × Int := if nameOk nm = false then (.pointer none, 1) else match getF s.l nm with
  | none => (.pointer none, 3)
  | some f => (.pointer (some ⟨fb f.name, 0, none⟩), 0)
theorem find_dk {mf ml : Nat} {fb : List UInt8 → Nat} {col : Nat → Option (List UInt8)} {q armed : Nat} {off : Bool} (hb : Box w b 83 (dkC mf ml q armed off)) (hx : DkX w b F s.l mf ml fb col) (nm : List UInt8) (hnm : nm.length ≤ maxLen) :
    Calls Try.prog 47 #[.pointer (some ⟨b, 0, none⟩), .string (str nm)] w fun e w' => e = .returned (.tuple #[(foundV s fb nm).1, .int .i64 (foundV s fb nm).2]) ∧ w = w' := by
  refine find_any hb hx.files nm hnm _ _ ?_
  rw [hx.find]
  unfold findA foundV
  by_cases h : nameOk nm = false
  · rw [if_pos h, if_pos h]
  · rw [if_neg h, if_neg h]
    cases getF s.l nm <;> rfl
theorem dead_any (h : Dk w b F s) : Calls Try.prog 18 #[dpt b] w fun e w' => e = .returned (.bool s.off) ∧ Keeps w w' := by
  obtain ⟨mf, ml, fb, col, hb, hx⟩ := h.at_
  have c4 : w.cell? ⟨b, 4, none⟩ = some (.bool s.off) := hb.cell 4 rfl
  show Calls _ _ #[.pointer (some ⟨b, 0, none⟩)] w _
  clear h hb hx
  cases hs : s.off
  · rw [hs] at c4
    go_enter Try.func18, Try.ntmps18
    go_wp2_with fail
    go_ret
    exact ⟨rfl, keeps_refl _⟩
  · rw [hs] at c4
    go_enter Try.func18, Try.ntmps18
    go_wp2_with fail
    go_ret
    exact ⟨rfl, keeps_refl _⟩
theorem only_cell (w : World) (b i : Nat) (v : Value) : Only w (w.setCell ⟨b, i, none⟩ v) (fun c => c = b) := ⟨rfl, rfl, rfl, by simp, fun j _ hn => Below.heap_setCell _ ⟨b, i, none⟩ _ j hn⟩
theorem quota_any (h : Dk w b F s) (n : Int) (h1 : -9223372036854775808 ≤ n) (h2 : n ≤ 9223372036854775807) : Calls Try.prog 37 #[dpt b, .int .i64 n] w fun e w' => e = .returned (.int .i64 ((quotaS s n).2 : Int)) ∧ ∃ F', Dk w' b F' (quotaS s n).1 ∧ Turns w w' F F' := by
  have H := Lib.hid h
  obtain ⟨mf, ml, fb, col, hb, hx⟩ := h.at_
  have f2 := hb.frozen 2
  have c2 : w.cell? ⟨b, 2, none⟩ = some (.int .i64 (s.q : Int)) := hb.cell 2 rfl
  have hl := hb.lt
  have IQ := Lib.hid (isQuota_any n)
  show Calls _ _ #[.pointer (some ⟨b, 0, none⟩), _] w _
  by_cases hq : 0 ≤ n ∧ n ≤ 1048576
  · have e : quotaS s n = ({ s with q := n.toNat }, 0) := by unfold quotaS; rw [if_neg (by omega)]
    rw [e]
    rw [decide_eq_true hq] at IQ
    have B2 := hb.set 2 (.int .i64 n)
    have FIN := Lib.hid (show Dk (w.setCell ⟨b, 2, none⟩ (.int .i64 n)) b F { s with q := n.toNat } ∧ Turns w (w.setCell ⟨b, 2, none⟩ (.int .i64 n)) F F from
      ⟨⟨⟨h.ok.rise, h.ok.files, by show n.toNat ≤ 1048576; omega⟩, h.dead, h.armed, h.used, mf, ml, fb, col, by
        have e2 : ((n.toNat : Nat) : Int) = n := by omega
        have : dkC mf ml n.toNat s.armed s.off = (dkC mf ml s.q s.armed s.off).setIfInBounds 2 (.int .i64 n) := by unfold dkC; rw [e2]; rfl
        rw [this]
        exact B2, hx.setB hb (only_cell w b 2 _)⟩, h.turnsB (only_cell w b 2 _)⟩)
    clear h hb hx B2 e hq
    go_enter Try.func37, Try.ntmps37
    go_wp2_with (go_at_call 57; refine (IQ.out _).mono ?_; rintro e w' ⟨rfl, rfl⟩)
    go_ret
    exact ⟨rfl, F, FIN.out⟩
  · have e : quotaS s n = (s, 1) := by unfold quotaS; rw [if_pos (by omega)]
    rw [e]
    rw [decide_eq_false hq] at IQ
    clear h hb hx e hq
    go_enter Try.func37, Try.ntmps37
    go_wp2_with (go_at_call 57; refine (IQ.out _).mono ?_; rintro e w' ⟨rfl, rfl⟩)
    go_ret
    exact ⟨rfl, F, H.out, Turns.refl _ _⟩
theorem arm_any (h : Dk w b F s) (n : Int) (h1 : -9223372036854775808 ≤ n) (h2 : n ≤ 9223372036854775807) : Calls Try.prog 20 #[dpt b, .int .i64 n] w fun e w' => e = .returned (.int .i64 ((armS s n).2 : Int)) ∧ ∃ F', Dk w' b F' (armS s n).1 ∧ Turns w w' F F' := by
  have H := Lib.hid h
  obtain ⟨mf, ml, fb, col, hb, hx⟩ := h.at_
  have f3 := hb.frozen 3
  have c3 : w.cell? ⟨b, 3, none⟩ = some (.int .i64 (s.armed : Int)) := hb.cell 3 rfl
  have c4 : w.cell? ⟨b, 4, none⟩ = some (.bool s.off) := hb.cell 4 rfl
  have hl := hb.lt
  show Calls _ _ #[.pointer (some ⟨b, 0, none⟩), _] w _
  by_cases hn : n < 0
  · have e : armS s n = (s, 1) := by unfold armS; rw [if_pos hn]
    rw [e]
    clear h hb hx e
    go_enter Try.func20, Try.ntmps20
    go_wp2_with fail
    go_ret
    exact ⟨rfl, F, H.out, Turns.refl _ _⟩
  · cases ho : s.off
    · have e : armS s n = ({ s with armed := n.toNat }, 0) := by unfold armS; rw [if_neg hn, ho]; simp
      rw [e]
      rw [ho] at c4
      have B2 := hb.set 3 (.int .i64 n)
      have FIN := Lib.hid (show Dk (w.setCell ⟨b, 3, none⟩ (.int .i64 n)) b F { s with armed := n.toNat } ∧ Turns w (w.setCell ⟨b, 3, none⟩ (.int .i64 n)) F F from
        ⟨⟨⟨h.ok.rise, h.ok.files, h.ok.q⟩, (fun hh => by
            have hh2 : s.off = true := hh
            rw [ho] at hh2
            cases hh2), by show n.toNat ≤ 9223372036854775807; omega, h.used, mf, ml, fb, col, by
          have e2 : ((n.toNat : Nat) : Int) = n := by omega
          have : dkC mf ml s.q n.toNat s.off = (dkC mf ml s.q s.armed s.off).setIfInBounds 3 (.int .i64 n) := by unfold dkC; rw [e2]; rfl
          show Box _ b _ (dkC mf ml s.q n.toNat s.off)
          rw [this]
          exact B2, hx.setB hb (only_cell w b 3 _)⟩, h.turnsB (only_cell w b 3 _)⟩)
      clear h hb hx B2 e
      go_enter Try.func20, Try.ntmps20
      go_wp2_with fail
      go_ret
      exact ⟨rfl, F, by have := FIN.out; rw [ho] at this; exact this⟩
    · have e : armS s n = (s, 6) := by unfold armS; rw [if_neg hn, ho]; simp
      rw [e]
      rw [ho] at c4
      clear h hb hx e
      go_enter Try.func20, Try.ntmps20
      go_wp2_with fail
      go_ret
      exact ⟨rfl, F, H.out, Turns.refl _ _⟩
set_option maxHeartbeats 4000000 in
theorem size_any (h : Dk w b F s) (nm : List UInt8) (hnm : nm.length ≤ maxLen) : Calls Try.prog 31 #[dpt b, strV nm] w fun e w' => e = .returned (.tuple #[.int .i64 ((sizeS s nm).1 : Int), .int .i64 ((sizeS s nm).2 : Int)]) ∧ Keeps w w' := by
  obtain ⟨mf, ml, fb, col, hb, hx⟩ := h.at_
  have P := Lib.hid (power_dk h)
  have FD := Lib.hid (find_dk hb hx nm hnm)
  show Calls _ _ #[.pointer (some ⟨b, 0, none⟩), .string (str nm)] w _
  cases ho : s.off
  · rw [ho] at P
    cases hn : nameOk nm
    · have e : sizeS s nm = (0, 1) := by unfold sizeS; rw [ho, hn]; simp
      have e2 : foundV s fb nm = (.pointer none, 1) := by unfold foundV; rw [if_pos hn]
      rw [e]
      rw [e2] at FD
      clear h hb hx e e2
      go_enter Try.func31, Try.ntmps31
      go_wp2_with (first
        | (go_at_call 56; refine P.out.mono ?_; rintro e w' ⟨rfl, rfl⟩)
        | (go_at_call 47; refine FD.out.mono ?_; rintro e w' ⟨rfl, rfl⟩))
      exact bodyPost_ret (v := .tuple #[.int .i64 0, .int .i64 1]) (by simp [results, Try.results31, go_sem]) rfl ⟨rfl, keeps_refl _⟩
    · cases hg : getF s.l nm with
      | none =>
        have e : sizeS s nm = (0, 3) := by unfold sizeS; rw [ho, hn, hg]; simp
        have e2 : foundV s fb nm = (.pointer none, 3) := by unfold foundV; rw [if_neg (by rw [hn]; simp), hg]
        rw [e]
        rw [e2] at FD
        clear h hb hx e e2
        go_enter Try.func31, Try.ntmps31
        go_wp2_with (first
          | (go_at_call 56; refine P.out.mono ?_; rintro e w' ⟨rfl, rfl⟩)
          | (go_at_call 47; refine FD.out.mono ?_; rintro e w' ⟨rfl, rfl⟩))
        exact bodyPost_ret (v := .tuple #[.int .i64 0, .int .i64 3]) (by simp [results, Try.results31, go_sem]) rfl ⟨rfl, keeps_refl _⟩
      | some f =>
        have e : sizeS s nm = (f.now.length, 0) := by unfold sizeS; rw [ho, hn, hg]; simp
        have e2 : foundV s fb nm = (.pointer (some ⟨fb f.name, 0, none⟩), 0) := by unfold foundV; rw [if_neg (by rw [hn]; simp), hg]
        rw [e]
        rw [e2] at FD
        obtain ⟨v1, v2, q⟩ := hx.each f (getF_mem hg)
        obtain ⟨A, cap, rfl, -⟩ := q.own1.form
        have c0 := q.box.cell 0 rfl
        clear h hb hx e e2 q
        go_enter Try.func31, Try.ntmps31
        go_wp2_with (first
          | (go_at_call 56; refine P.out.mono ?_; rintro e w' ⟨rfl, rfl⟩)
          | (go_at_call 47; refine FD.out.mono ?_; rintro e w' ⟨rfl, rfl⟩))
        exact bodyPost_ret (v := .tuple #[.int .i64 (f.now.length : Int), .int .i64 0]) (by simp [results, Try.results31, go_sem]) rfl ⟨rfl, keeps_refl _⟩
  · rw [ho] at P
    have e : sizeS s nm = (0, 6) := by unfold sizeS; rw [ho]; simp
    rw [e]
    clear h hb hx e
    go_enter Try.func31, Try.ntmps31
    go_wp2_with (go_at_call 56; refine P.out.mono ?_; rintro e w' ⟨rfl, rfl⟩)
    exact bodyPost_ret (v := .tuple #[.int .i64 0, .int .i64 6]) (by simp [results, Try.results31, go_sem, pwr]) rfl ⟨rfl, keeps_refl _⟩
end
end Go.Proofs.Ytpbkkbkpodcgnaa
