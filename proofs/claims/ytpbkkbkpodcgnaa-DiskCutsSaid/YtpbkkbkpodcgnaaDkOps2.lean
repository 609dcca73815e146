/- Package disk: New, Used, Read. -/
import Derived.Test.YtpbkkbkpodcgnaaDkOps1
namespace Go.Proofs.Ytpbkkbkpodcgnaa
open Go.RowKit Go.Shelf
set_option linter.unusedSimpArgs false
set_option linter.unusedVariables false
set_option maxRecDepth 100000

/-! ### Used -/
theorem usedL_perm {l m : List Fl} (h : l.Perm m) : usedL l = usedL m := by
  unfold usedL
  exact (h.map _).sum_nat
section
variable {w w' : World} {b : Nat} {F : Nat → Prop} {s : Ds}
/-- the next entry is one of the files that are left -/
theorem take_file {fb : List UInt8 → Nat} {gl : List Fl} {lf lf' : List (List UInt8 × Nat)} {e : List UInt8 × Nat} (h1 : lf.Perm (gl.map fun f => (f.name, fb f.name))) (h2 : lf.Perm (e :: lf')) :
    ∃ f gl', e = (f.name, fb f.name) ∧ gl.Perm (f :: gl') ∧ lf'.Perm (gl'.map fun f => (f.name, fb f.name)) := by
  have h3 := h2.symm.trans h1
  have hm : e ∈ gl.map fun f => (f.name, fb f.name) := h3.mem_iff.1 (List.mem_cons_self)
  obtain ⟨f, hf, rfl⟩ := List.mem_map.1 hm
  obtain ⟨a, c, rfl⟩ := List.append_of_mem hf
  refine ⟨f, a ++ c, rfl, List.perm_middle, ?_⟩
  have h4 : ((a ++ f :: c).map fun f => (f.name, fb f.name)).Perm ((f.name, fb f.name) :: (a ++ c).map fun f => (f.name, fb f.name)) := by
    have := (List.perm_middle (a := f) (l₁ := a) (l₂ := c)).map fun f => (f.name, fb f.name)
    simpa using this
  exact (h3.trans h4).cons_inv
set_option maxHeartbeats 4000000 in
theorem used_any (h : Dk w b F s) : Calls Try.prog 17 #[dpt b] w fun e w' => e = .returned (.int .i64 (usedL s.l : Int)) ∧ Keeps w w' := by
  obtain ⟨mf, ml, fb, col, hb, hx⟩ := h.at_
  have c0 : w.cell? ⟨b, 0, none⟩ = some (.map (some mf)) := hb.cell 0 rfl
  have OM := Lib.hid hx.files
  have EA := Lib.hid hx.each
  have OK := Lib.hid h.ok.files
  have SE := Lib.hid sectorsOf_any
  obtain ⟨total, htot⟩ : ∃ t, t = usedL s.l := ⟨_, rfl⟩
  have hb2 : total ≤ 1048576 := by rw [htot]; exact h.used
  have TOT := Lib.hid htot
  have hbi : (total : Int) ≤ 1048576 := by omega
  rw [← htot]
  clear h hb hx htot
  show Calls _ _ #[.pointer (some ⟨b, 0, none⟩)] w _
  go_enter Try.func17, Try.ntmps17
  go_wp2_with (at_range; refine wpList_rangeV _ rfl _ rfl filesT mf _ rfl OM.out ?_; intro w0 hi0 hk0 hs0)
  go_frame
  have HI0 := Lib.hid hi0
  have HK0 := Lib.hid hk0
  clear hi0 hk0 hs0
  go_loopw [3, 5] (fun t _ wr => ∃ (acc : Nat) (gl : List Fl) (lf : List (List UInt8 × Nat)), t = .int .i64 (acc : Int) ∧ acc + usedL gl = total ∧ (∀ f ∈ gl, f ∈ s.l) ∧ IterV strW dpt wr mf w.heap.size (s.l.map fun f => (f.name, fb f.name)) lf ∧ lf.Perm (gl.map fun f => (f.name, fb f.name)) ∧ Keeps w wr)
    (fun _ _ wr => wr.rangeLeft mf w.heap.size)
  case atStart => exact ⟨0, s.l, _, rfl, by rw [TOT.out]; omega, fun f hf => hf, HI0.out, .refl _, HK0.out⟩
  case round =>
    obtain ⟨acc, gl, lf, rfl, hacc, hgl, hI, hP, hkw⟩ := hrel
    have HA := Lib.hid hacc
    have HG := Lib.hid hgl
    have HI := Lib.hid hI
    have HP := Lib.hid hP
    have HKW := Lib.hid hkw
    clear hacc hgl hI hP hkw
    go_wp2_with (at_next; refine wpList_nextV _ rfl _ rfl filesT mf w.heap.size _ lf rfl HI.out (fun s : List UInt8 => Value.string (str s)) rfl (fun k : Nat => Value.pointer (some ⟨k, 0, none⟩)) rfl ?_ ?_)
    · intro hd
      have hz : acc = total := by
        have h1 := HP.out.length_eq
        rw [hd] at h1
        have h2 : gl = [] := List.eq_nil_of_length_eq_zero (by simpa using h1.symm)
        have h3 := HA.out
        rw [h2] at h3
        simpa [usedL] using h3
      subst hz
      clear hd
      go_wp2
      go_ret
      exact ⟨rfl, HKW.out⟩
    · rintro nm k lf' w2 hp hI2 ho2 hen
      obtain ⟨f, gl', he, hg2, hl2⟩ := take_file HP.out hp
      obtain ⟨rfl, rfl⟩ : nm = f.name ∧ k = fb f.name := by simpa using he
      have hfm : f ∈ s.l := HG.out f (hg2.mem_iff.2 List.mem_cons_self)
      obtain ⟨v1, v2, q⟩ := EA.out f hfm
      obtain ⟨A, cap, rfl, -⟩ := q.own1.form
      have hr0 : w.heap.size < w0.heap.size := HI0.out.lt.2
      have kw2 : Keeps w w2 := ⟨ho2.os.trans HKW.out.os, ho2.tape.trans HKW.out.tape, ho2.output.trans HKW.out.output, Nat.le_trans HKW.out.size ho2.size, fun i hi => (ho2.block i (Nat.lt_of_lt_of_le hi HKW.out.size) (by omega)).trans (HKW.out.block i hi)⟩
      have bx := q.box.keep kw2
      have c0' : w2.cell? ⟨fb f.name, 0, none⟩ = some (.slice A f.now.length cap) := bx.cell 0 rfl
      have hsz := (OK.out f hfm).size
      have e1 : acc + (sect f.now.length + usedL gl') = total := by rw [← usedL_cons, ← usedL_perm hg2]; exact HA.out
      have hs1 : (sect f.now.length : Int) ≤ 1048576 := by omega
      have hs2 : (acc : Int) + (sect f.now.length : Int) ≤ 1048576 := by omega
      have S1 := Lib.hid (SE.out f.now.length (by omega) w2)
      have E1 := Lib.hid e1
      have G1 := Lib.hid (show ∀ g ∈ gl', g ∈ s.l from fun g hg => HG.out g (hg2.mem_iff.2 (List.mem_cons_of_mem _ hg)))
      have I2 := Lib.hid hI2
      have L2 := Lib.hid hl2
      have PP := Lib.hid hp
      have KW2 := Lib.hid kw2
      have LEN := Lib.hid (show lf.length = lf'.length + 1 by have := hp.length_eq; simpa using this)
      have hsn : (((acc + sect f.now.length : Nat)) : Int) = (acc : Int) + (sect f.now.length : Int) := by omega
      clear he hg2 hl2 hp hI2 ho2 kw2 bx q hfm e1 hr0 hsz
      generalize sect f.now.length = sl at *
      go_wp2_with (go_at_call 45; refine S1.out.mono ?_; rintro e w' ⟨rfl, rfl⟩)
      first
        | exact ⟨⟨acc + sl, gl', lf', by rw [hsn], by have := E1.out; omega, G1.out, I2.out, L2.out, KW2.out⟩, by rw [I2.out.left_eq, HI.out.left_eq, LEN.out]; omega⟩
end
/-! ### New -/
theorem new_dk (w : World) (q : Int) (hq : 0 ≤ q ∧ q ≤ 1048576) :
    Dk (((w.alloc (.map #[] 0)).alloc (.map #[] 0)).alloc (.cells #[.map (some w.heap.size), .map (some (w.heap.size + 1)), .int .i64 q, .int .i64 0, .bool false] 83)) (w.heap.size + 1 + 1) (fun i => w.heap.size ≤ i ∧ i < w.heap.size + 3) ⟨[], q.toNat, 0, false⟩ ∧
    (∀ i, (fun i => w.heap.size ≤ i ∧ i < w.heap.size + 3) i → w.heap.size ≤ i) ∧ Keeps w (((w.alloc (.map #[] 0)).alloc (.map #[] 0)).alloc (.cells #[.map (some w.heap.size), .map (some (w.heap.size + 1)), .int .i64 q, .int .i64 0, .bool false] 83)) := by
  have k1 := keeps_alloc w (.map #[] 0)
  have k2 := keeps_alloc (w.alloc (.map #[] 0)) (.map #[] 0)
  have k3 := keeps_alloc ((w.alloc (.map #[] 0)).alloc (.map #[] 0)) (.cells #[.map (some w.heap.size), .map (some (w.heap.size + 1)), .int .i64 q, .int .i64 0, .bool false] 83)
  have m1 := ((MapW.new strW dpt w).keep k2).keep k3
  have m2 := (MapW.new plV unV (w.alloc (.map #[] 0))).keep k3
  have bx := Box.new ((w.alloc (.map #[] 0)).alloc (.map #[] 0)) 83 #[.map (some w.heap.size), .map (some (w.heap.size + 1)), .int .i64 q, .int .i64 0, .bool false]
  simp only [World.size_alloc] at m2 bx
  have hqn : ((q.toNat : Nat) : Int) = q := by omega
  refine ⟨⟨⟨List.Pairwise.nil, (fun f hf => by cases hf), by show q.toNat ≤ 1048576; omega⟩, (fun hh => by cases hh), by show 0 ≤ _; omega, by simp [usedL], w.heap.size, w.heap.size + 1, fun _ => 0, fun _ => none, ?_, ⟨fun i hi => by simp; omega, ⟨⟨by omega, by omega⟩, rfl⟩, ⟨⟨by omega, by omega⟩, rfl⟩, ⟨⟨by omega, by omega⟩, rfl⟩, by omega, m1, ⟨[], m2, fun p => ?_⟩, fun f hf => by cases hf⟩⟩, fun i hi => hi.1, keeps_trans (keeps_trans k1 k2) k3⟩
  · unfold dkC
    show Box _ _ _ #[_, _, .int .i64 ((q.toNat : Nat) : Int), _, _]
    rw [hqn]
    exact bx
  · constructor
    · intro h; cases h
    · rintro ⟨f, hf, _⟩; cases hf
theorem new_any (q : Int) (w : World) (h1 : -9223372036854775808 ≤ q) (h2 : q ≤ 9223372036854775807) :
    Calls Try.prog 30 #[.int .i64 q] w fun e w' =>
      (0 ≤ q ∧ q ≤ 1048576 ∧ ∃ b F, e = .returned (.tuple #[dpt b, .int .i64 0]) ∧ Dk w' b F ⟨[], q.toNat, 0, false⟩ ∧ (∀ i, F i → w.heap.size ≤ i) ∧ Keeps w w') ∨
      ((q < 0 ∨ 1048576 < q) ∧ e = .returned (.tuple #[.pointer none, .int .i64 1]) ∧ Keeps w w') := by
  have hmm := @run_makeMap Try.prog
  have NEWD := Lib.hid (new_dk w q)
  have IQ := Lib.hid (isQuota_any q)
  by_cases hq : 0 ≤ q ∧ q ≤ 1048576
  · rw [decide_eq_true hq] at IQ
    have HQ := Lib.hid hq
    clear hq
    go_enter Try.func30, Try.ntmps30
    go_wp2_with (go_at_call 57; refine (IQ.out _).mono ?_; rintro e w' ⟨rfl, rfl⟩)
    have FIN := NEWD.out HQ.out
    exact bodyPost_ret (v := .tuple #[.pointer (some ⟨w.heap.size + 1 + 1, 0, none⟩), .int .i64 0]) (by simp [results, Try.results30, go_sem]) rfl (.inl ⟨HQ.out.1, HQ.out.2, w.heap.size + 1 + 1, _, rfl, FIN⟩)
  · rw [decide_eq_false hq] at IQ
    have HQ := Lib.hid (show q < 0 ∨ 1048576 < q by omega)
    clear hq
    go_enter Try.func30, Try.ntmps30
    go_wp2_with (go_at_call 57; refine (IQ.out _).mono ?_; rintro e w' ⟨rfl, rfl⟩)
    exact bodyPost_ret (v := .tuple #[.pointer none, .int .i64 1]) (by simp [results, Try.results30, go_sem]) rfl (.inr ⟨HQ.out, rfl, keeps_refl _⟩)
/-! ### Read -/
set_option maxHeartbeats 4000000 in
theorem clone_any (A : Option Addr) (n c : Nat) (l : List UInt8) (w : World) (hB : Bs w A l) (hn : n = l.length) (h0 : A = none → c = 0) (hmax : n ≤ 20000000) :
    Calls Try.prog 44 #[.slice A n c] w fun e w' => ∃ v, e = .returned v ∧ Own w' w.heap.size 5 1 v l.length (cel l) ∧ Keeps w w' := by
  obtain ⟨i0, hi, hz0, hz1, hz2⟩ := info_parts info_byte
  have heq := fun (a : Option Addr) (n c : Nat) (w : World) => Lib.run_eql_slice_nil (P := Try.prog) w 22 5 a n c 0 0 Try.underlying22
  cases A with
  | none =>
    have hl : l = [] := by
      rcases hB with h1 | ⟨ad, h1, _⟩
      · cases l with
        | nil => rfl
        | cons => simp [cel] at h1
      · cases h1
    subst hl
    have hz : n = 0 := by simpa using hn
    have hz2 : c = 0 := h0 rfl
    subst hz
    subst hz2
    clear hB h0 hmax hn hz0 hz1 hi
    go_enter Try.func44, Try.ntmps44
    go_wp2_with fail
    go_ret
    exact ⟨_, rfl, Own.nil _ _ _ _, keeps_refl _⟩
  | some ad =>
    have HN := Lib.hid hn
    have k0 := keeps_alloc w (.cells #[] 5)
    have hB2 := Lib.hid (hB.keep k0)
    have O0 := Lib.hid (show Own (w.alloc (.cells #[] 5)) w.heap.size 5 1 (.slice (some ⟨w.heap.size, 0, none⟩) 0 0) 0 [] from ⟨rfl, .inr ⟨w.heap.size, 0, #[], (0, 0), rfl, Nat.le_refl _, heap_alloc_new w _, .inl rfl, Nat.le_refl _, by simp [maxLen], rfl, rfl⟩⟩)
    have HMX := Lib.hid hmax
    clear hn hB h0 hmax
    go_enter Try.func44, Try.ntmps44
    go_wp2_with (at_builtin; refine wpList_app _ rfl _ _ 22 rfl w.heap.size 5 i0 (.int .u8 0) 1 1 Try.underlying22 hi hz0 hz1 hz2 rfl (by decide) _ 0 [] rfl O0.out _ (some ad) n c (cel l) rfl (by rw [cel_length, HN.out, Nat.mul_one]) hB2.out (cel_one l) (by have := HMX.out; unfold maxLen; omega) (by have := HMX.out; omega) (by simp) ?_; intro v2 w2 hown2 hgrow2 hblk2)
    have k2 : Keeps w w2 := Below.grown k0 hgrow2 k0.size (fun g hg => (O0.out.lt g hg).1)
    have HO := Lib.hid (show Own w2 w.heap.size 5 1 v2 l.length (cel l) by have := hown2; rw [HN.out] at this; simpa using this)
    clear hown2 hgrow2 hblk2
    go_wp2_with fail
    go_ret
    exact ⟨_, rfl, HO.out, k2⟩
end Go.Proofs.Ytpbkkbkpodcgnaa
