/- Package disk: Read, Create; how much room there is; which sectors become loose. -/
import Derived.Test.YtpbkkbkpodcgnaaDkOps2
namespace Go.Proofs.Ytpbkkbkpodcgnaa
open Go.RowKit Go.Shelf
set_option linter.unusedSimpArgs false
set_option linter.unusedVariables false
set_option maxRecDepth 100000

section
variable {w w' : World} {b : Nat} {F : Nat → Prop} {s : Ds}
theorem foundV_bad {fb : List UInt8 → Nat} {nm : List UInt8} (h : nameOk nm = false) : foundV s fb nm = (.pointer none, 1) := by unfold foundV; rw [if_pos h]
theorem foundV_none {fb : List UInt8 → Nat} {nm : List UInt8} (h : nameOk nm = true) (hg : getF s.l nm = none) : foundV s fb nm = (.pointer none, 3) := by unfold foundV; rw [if_neg (by rw [h]; simp), hg]
theorem foundV_some {fb : List UInt8 → Nat} {nm : List UInt8} {f : Fl} (h : nameOk nm = true) (hg : getF s.l nm = some f) : foundV s fb nm = (.pointer (some ⟨fb f.name, 0, none⟩), 0) := by unfold foundV; rw [if_neg (by rw [h]; simp), hg]
theorem getF_ok (h : Dk w b F s) {nm : List UInt8} {f : Fl} (hg : getF s.l nm = some f) : nameOk nm = true := by
  have h1 := (h.ok.files f (getF_mem hg)).name
  rwa [getF_name hg] at h1
set_option maxHeartbeats 8000000 in
theorem read_any (h : Dk w b F s) (nm : List UInt8) (off n : Int) (hnm : nm.length ≤ maxLen) (h1 : -9223372036854775808 ≤ off) (h2 : off ≤ 9223372036854775807) (h3 : -9223372036854775808 ≤ n) (h4 : n ≤ 9223372036854775807) :
    Calls Try.prog 28 #[dpt b, strV nm, .int .i64 off, .int .i64 n] w fun e w' => ∃ v, e = .returned (.tuple #[v, .int .i64 ((readS s nm off n).2 : Int)]) ∧ Own w' w.heap.size 5 1 v (readS s nm off n).1.length (cel (readS s nm off n).1) ∧ Keeps w w' := by
  have H := Lib.hid h
  obtain ⟨mf, ml, fb, col, hb, hx⟩ := h.at_
  have P := Lib.hid (power_dk h)
  have FD := Lib.hid (find_dk hb hx nm hnm)
  show Calls _ _ #[.pointer (some ⟨b, 0, none⟩), .string (str nm), _, _] w _
  have NIL := Lib.hid (fun (V : World) => Own.nil V w.heap.size 5 1)
  cases ho : s.off
  · rw [ho] at P
    by_cases hneg : off < 0 ∨ n < 0
    · have e : readS s nm off n = ([], 1) := by unfold readS; rw [ho]; simp; omega
      rw [e]
      clear h hb hx e FD
      rcases hneg with hn | hn
      · go_enter Try.func28, Try.ntmps28
        go_wp2_with (go_at_call 56; refine P.out.mono ?_; rintro e w' ⟨rfl, rfl⟩)
        exact bodyPost_ret (v := .tuple #[.slice none 0 0, .int .i64 1]) (by simp [results, Try.results28, go_sem]) rfl ⟨_, rfl, NIL.out _, keeps_refl _⟩
      · by_cases hoff : off < 0
        · go_enter Try.func28, Try.ntmps28
          go_wp2_with (go_at_call 56; refine P.out.mono ?_; rintro e w' ⟨rfl, rfl⟩)
          exact bodyPost_ret (v := .tuple #[.slice none 0 0, .int .i64 1]) (by simp [results, Try.results28, go_sem]) rfl ⟨_, rfl, NIL.out _, keeps_refl _⟩
        · go_enter Try.func28, Try.ntmps28
          go_wp2_with (go_at_call 56; refine P.out.mono ?_; rintro e w' ⟨rfl, rfl⟩)
          exact bodyPost_ret (v := .tuple #[.slice none 0 0, .int .i64 1]) (by simp [results, Try.results28, go_sem]) rfl ⟨_, rfl, NIL.out _, keeps_refl _⟩
    · obtain ⟨o, rfl⟩ := Int.eq_ofNat_of_zero_le (show 0 ≤ off by omega)
      obtain ⟨m, rfl⟩ := Int.eq_ofNat_of_zero_le (show 0 ≤ n by omega)
      have hn1 : ¬ (o : Int) < 0 := by omega
      have hn2 : ¬ (m : Int) < 0 := by omega
      cases hn : nameOk nm
      · have e : readS s nm o m = ([], 1) := by unfold readS; rw [ho, hn]; simp
        rw [e]
        rw [foundV_bad hn] at FD
        clear h hb hx e hneg
        go_enter Try.func28, Try.ntmps28
        go_wp2_with (first
          | (go_at_call 56; refine P.out.mono ?_; rintro e w' ⟨rfl, rfl⟩)
          | (go_at_call 47; refine FD.out.mono ?_; rintro e w' ⟨rfl, rfl⟩))
        exact bodyPost_ret (v := .tuple #[.slice none 0 0, .int .i64 1]) (by simp [results, Try.results28, go_sem]) rfl ⟨_, rfl, NIL.out _, keeps_refl _⟩
      · cases hg : getF s.l nm with
        | none =>
          have e : readS s nm o m = ([], 3) := by unfold readS; rw [ho, hn, hg]; simp
          rw [e]
          rw [foundV_none hn hg] at FD
          clear h hb hx e hneg
          go_enter Try.func28, Try.ntmps28
          go_wp2_with (first
            | (go_at_call 56; refine P.out.mono ?_; rintro e w' ⟨rfl, rfl⟩)
            | (go_at_call 47; refine FD.out.mono ?_; rintro e w' ⟨rfl, rfl⟩))
          exact bodyPost_ret (v := .tuple #[.slice none 0 0, .int .i64 3]) (by simp [results, Try.results28, go_sem]) rfl ⟨_, rfl, NIL.out _, keeps_refl _⟩
        | some f =>
          have e : readS s nm o m = ((f.now.drop o).take m, 0) := by unfold readS; rw [ho, hn, hg]; simp
          rw [e]
          rw [foundV_some hn hg] at FD
          obtain ⟨v1, v2, q⟩ := hx.each f (getF_mem hg)
          have hsz := (h.ok.files f (getF_mem hg)).size
          obtain ⟨A, cap, rfl, hcap, hcm, -⟩ := q.own1.form
          have c0 : w.cell? ⟨fb f.name, 0, none⟩ = some (.slice A f.now.length cap) := q.box.cell 0 rfl
          have hBs : Bs w A f.now := q.own1.at_
          have hA0 : A = none → cap = 0 := fun ea => by
            have := q.own1
            rw [ea] at this
            exact this.nil_len.2
          clear h hb hx e hneg q
          generalize f.now = now at *
          obtain ⟨p, hp⟩ : ∃ p, p = min o now.length := ⟨_, rfl⟩
          obtain ⟨r, hr⟩ : ∃ r, r = min m (now.length - p) := ⟨_, rfl⟩
          have hmin1 : ∀ (ts : Array TypeId) (t : TypeId) (w : World), (Builtin.min_ ts t #[.int .i64 (o : Int), .int .i64 (now.length : Int)]).run Try.prog w = .ok (.int .i64 (p : Int)) w := by
            intro ts t w
            rw [run_min_int2]
            congr 2
            split <;> omega
          have hmin2 : ∀ (ts : Array TypeId) (t : TypeId) (w : World), (Builtin.min_ ts t #[.int .i64 (m : Int), .int .i64 ((now.length - p : Nat) : Int)]).run Try.prog w = .ok (.int .i64 (r : Int)) w := by
            intro ts t w
            rw [run_min_int2]
            congr 2
            split <;> omega
          have hsl := run_from (P := Try.prog) 22 5 Try.underlying22 sizeU8k A now.length cap p (by omega)
          have hB2 : Bs w (dropA A cap p) ((now.drop o).take m) := by
            have h1 := (hBs.dropA rfl hcap (k := p)).take r
            have e1 : (now.drop p).take r = (now.drop o).take m := by
              by_cases ho2 : o ≤ now.length
              · have : p = o := by omega
                rw [this, hr, this]
                by_cases hm2 : m ≤ now.length - o
                · rw [Nat.min_eq_left hm2]
                · rw [Nat.min_eq_right (by omega), List.take_of_length_le (by rw [List.length_drop]; exact Nat.le_refl _), List.take_of_length_le (by rw [List.length_drop]; omega)]
              · rw [List.drop_eq_nil_of_le (show now.length ≤ o by omega), List.drop_eq_nil_of_le (show now.length ≤ p by omega)]
                simp
            rwa [e1] at h1
          have hlen : r = ((now.drop o).take m).length := by rw [List.length_take, List.length_drop]; omega
          have CL := Lib.hid (fun (V : World) (k : Keeps w V) => clone_any (dropA A cap p) r (cap - p) ((now.drop o).take m) V (hB2.keep k) hlen (fun ea => by
            unfold dropA at ea
            split at ea
            · omega
            · cases A with
              | none => have := hA0 rfl; omega
              | some ad => cases ea) (by omega))
          have hrc : (r : Int) ≤ ((cap - p : Nat) : Int) := by omega
          have hrn : (p : Int) ≤ (now.length : Int) := by omega
          clear hp hr hBs hA0 hB2 hlen hcm hsz
          go_enter Try.func28, Try.ntmps28
          go_wp2_with (first
            | (go_at_call 56; refine P.out.mono ?_; rintro e w' ⟨rfl, rfl⟩)
            | (go_at_call 47; refine FD.out.mono ?_; rintro e w' ⟨rfl, rfl⟩))
          go_region
          all_goals
            generalize dropA A cap p = D at *
            generalize now.length - p = d1 at *
            generalize cap - p = d2 at *
            go_wp2_with (go_at_call 44; refine (CL.out _ (keeps_drew _)).mono ?_; rintro e w' ⟨v, rfl, hown, hk⟩)
            exact bodyPost_ret (v := .tuple #[v, .int .i64 0]) (by simp [results, Try.results28, go_sem]) rfl ⟨_, rfl, hown.base_le (by simp), keeps_trans (keeps_drew _) hk⟩
  · rw [ho] at P
    have e : readS s nm off n = ([], 6) := by unfold readS; rw [ho]; simp
    rw [e]
    clear h hb hx e
    go_enter Try.func28, Try.ntmps28
    go_wp2_with (go_at_call 56; refine P.out.mono ?_; rintro e w' ⟨rfl, rfl⟩)
    exact bodyPost_ret (v := .tuple #[.slice none 0 0, .int .i64 6]) (by simp [results, Try.results28, go_sem, pwr]) rfl ⟨_, rfl, NIL.out _, keeps_refl _⟩
end
end Go.Proofs.Ytpbkkbkpodcgnaa
