/- Layer 14's statements: WitnessWays. -/
import Derived.Test.YtkijfbnibfbldaaLawWitB
import Derived.Deep.QuietTactic
import Derived.BigQuiet
namespace Go.Proofs.Ytkijfbnibfbldaa
open Go.RowKit
set_option linter.unusedSimpArgs false
set_option linter.unusedVariables false
set_option maxRecDepth 100000

theorem ways_math {x : WNet} {all : List Nat} {fr to most : Nat} {r : Answ} (hV : VertsV x.E fr (2 * x.E.length) all) (hA : Ans (outN x) (avN x) to most [] [(fr, 0)] r) {nd : Nat} (hnd : dAt all (bfN all (avN x) x.E fr all.length) to = nd) :
    (r.2.2 = 7 ∧ r.2.1 = false ∧ 0 < x.B.length) ∨ (r.2.2 = 0 ∧ r.2.1 = true ∧ to ∈ all ∧ nd < far ∧ nd ≤ most) ∨ (r.2.2 = 0 ∧ r.2.1 = false ∧ (to ∈ all → nd < far → nd ≤ most → 0 < x.B.length ∨ 16 < all.length)) := by
  have hends := hV.ends
  have ho : ∀ u e, e ∈ (outN x u).2 → e ∈ x.E ∧ e.t = u := by
    intro u e he
    unfold outN at he
    split at he
    · simp at he
    · have := List.mem_filter.1 he
      exact ⟨this.1, by simpa using this.2⟩
  have way : ∀ v d, Way (outN x) (avN x) fr v d → v ∈ all := by
    intro v d h
    induction h with
    | start => exact hV.fr
    | step _ he _ _ _ => exact (hends _ (ho _ _ he).1).2
  have hend := hA.ends (fr := fr) (SD := []) rfl (by simp) (Dij.start _ _ _)
  have bern : ∀ v, (outN x v).1 ≠ 0 → (outN x v).1 = 7 ∧ 0 < x.B.length := by
    intro v h
    unfold outN at h ⊢
    split
    · rename_i hv; exact ⟨rfl, List.length_pos_of_mem hv⟩
    · rename_i hv; rw [if_neg hv] at h; exact absurd rfl h
  by_cases h0 : r.2.2 = 0
  · cases hb : r.2.1 with
    | true =>
      refine .inr (.inl ⟨h0, rfl, ?_⟩)
      obtain ⟨-, SD, d, hc, hp, hm, hn⟩ := hend.yes hb
      have ch := hc.snoc hp
      obtain ⟨u1, u2⟩ := bf_upper hends hV.fr ho ch
      have hin : (to, d) ∈ SD ++ [(to, d)] := by simp
      have hto := u1 to d hin
      have hl := nodup_sub_len hn (fun y hy => by
        rcases List.mem_append.1 hy with h | h
        · obtain ⟨p, hp', rfl⟩ := List.mem_map.1 h
          exact u1 p.1 p.2 (List.mem_append.2 (.inl hp'))
        · rw [List.mem_singleton] at h; rw [h]; exact hto)
      have hle := u2 all.length (by simp only [List.length_append, List.length_map, List.length_singleton] at hl ⊢; exact hl) to d hin
      rw [hnd] at hle
      have hd : d < far := by
        rcases hp with ⟨-, rfl⟩ | ⟨u, c, e, -, -, -, -, ha, rfl⟩
        · decide
        · unfold addB at ha; simpa using ha
      exact ⟨hto, by omega, by omega⟩
    | false =>
      refine .inr (.inr ⟨h0, rfl, fun hto hf hm => ?_⟩)
      by_cases hB : 0 < x.B.length
      · exact .inl hB
      · right
        refine Nat.lt_of_not_le fun hle => ?_
        have hnil : x.B = [] := List.eq_nil_of_length_eq_zero (by omega)
        have ho2 : ∀ e ∈ x.E, e ∈ (outN x e.t).2 := by
          intro e he
          unfold outN
          rw [hnil, if_neg (by simp)]
          exact List.mem_filter.2 ⟨he, by simp⟩
        have hw := bf_sound (fr := fr) (av := avN x) hends ho2 all.length to hto (by rw [hnd]; exact hf)
        rw [hnd] at hw
        have := hend.no hb h0 way hle nd hw
        omega
  · left
    rcases hend with ⟨h1, h2, v, hv⟩ | ⟨h1, -⟩ | ⟨h1, -⟩
    · have := bern v (by rw [hv]; exact h1)
      exact ⟨by rw [← hv]; exact this.1, h2, this.2⟩
    · exact absurd h1 h0
    · exact absurd h1 h0

set_option maxHeartbeats 16000000 in
theorem ways14_walk (K : HeapOk) (w : World) (x : WNet) (hx : WNetOk w x) (y : AskS) (hy : AskOk y) : Calls Try.prog 4 #[.agg x.cells, .agg #[.int .u32 (y.fr : Int), .int .u32 (y.to : Int), .int .u64 (y.most : Int)]] w (Yes w) := by
  have WK := Lib.hid (works14 K)
  have LG := Lib.hid (large_any x)
  obtain ⟨fr, to, most⟩ := y
  obtain ⟨y1, y2, y3⟩ := hy
  simp only at y1 y2 y3 ⊢
  obtain ⟨W1, h1⟩ : ∃ W, W = w.alloc (.cells x.cells 25) := ⟨_, rfl⟩
  obtain ⟨W2, h2⟩ : ∃ W, W = W1.alloc (.cells #[.int .u32 (fr : Int), .int .u32 (to : Int), .int .u64 (most : Int)] 29) := ⟨_, rfl⟩
  obtain ⟨BN, BA, k2⟩ := boxes14 w x fr to most h1 h2
  have AC := Lib.hid (ask_cells BA)
  have K2 := Lib.hid k2
  have FN := Lib.hid (fun (hl : largeN x = false) (V : World) (kk : Keeps W2 V) => netFind_any K (BN.keep kk) ((hx.keep k2).keep kk) (largeN_false hl).1 (largeN_false hl).2.1 (largeN_false hl).2.2 fr to most y1 y2 y3)
  have VV := Lib.hid (fun (V : World) (kk : Keeps W2 V) (hE : x.E.length ≤ 100) => vertices_any x.Ae x.E.length x.ce x.E fr y1 V ((hx.keep k2).keep kk).e rfl hE hx.ok)
  have FV := Lib.hid (fun (hl : largeN x = false) (V : World) (kk : Keeps W2 V) (hE : x.E.length ≤ 100) (A : Option Addr) (n c : Nat) (all : List Nat) => far_any (BN.keep kk) ((hx.keep k2).keep kk) hE (largeN_false hl).2.2 A n c all fr)
  have NC := Lib.hid (fun V (k : Keeps W2 V) => show V.cell? ⟨w.heap.size, 0, none⟩ = some (.slice x.Ae x.E.length x.ce) ∧ V.cell? ⟨w.heap.size, 1, none⟩ = some (.slice x.Ab x.B.length x.cb) ∧ V.cell? ⟨w.heap.size, 2, none⟩ = some (.slice x.As x.Z.length x.cs) ∧ w.heap.size < V.heap.size from ⟨(BN.keep k).cell 0 rfl, (BN.keep k).cell 1 rfl, (BN.keep k).cell 2 rfl, (BN.keep k).lt⟩)
  have HEQ := Lib.hid (show W2 = (w.alloc (.cells x.cells 25)).alloc (.cells #[.int .u32 (fr : Int), .int .u32 (to : Int), .int .u64 (most : Int)] 29) by rw [h2, h1])
  obtain ⟨lg, hlg⟩ : ∃ lg, largeN x = lg := ⟨_, rfl⟩
  rw [hlg] at LG FN FV
  unfold WNet.cells at HEQ LG ⊢
  clear hx h1 h2 BN BA k2 y1 y2 y3 hlg
  obtain ⟨a0, a1, a2, la⟩ := AC.out _ (keeps_refl _)
  obtain ⟨n0, n1, n2, ln⟩ := NC.out _ (keeps_refl _)
  rw [HEQ.out] at a0 a1 a2 la n0 n1 n2 ln
  have ME := Lib.hid (fun (all : List Nat) (r : Answ) => @ways_math x all fr to most r)
  obtain ⟨E, hE⟩ : ∃ E, x.E = E := ⟨_, rfl⟩
  obtain ⟨nb, hnb⟩ : ∃ n, x.B.length = n := ⟨_, rfl⟩
  obtain ⟨nz, hnz⟩ : ∃ n, x.Z.length = n := ⟨_, rfl⟩
  obtain ⟨av, hav⟩ : ∃ av, avN x = av := ⟨_, rfl⟩
  obtain ⟨oo, hoo⟩ : ∃ av, outN x = av := ⟨_, rfl⟩
  simp only [hE, hnb, hnz, hav, hoo] at a0 a1 a2 la n0 n1 n2 ln NC HEQ VV FV FN ME LG ⊢
  obtain ⟨ne, hne⟩ : ∃ n, E.length = n := ⟨_, rfl⟩
  simp only [hne] at a0 a1 a2 la n0 n1 n2 ln NC HEQ VV FV ME LG ⊢
  have HNE := Lib.hid hne
  clear hE hnb hnz hav hoo hne
  cases lg with
  | true =>
    go_enter Try.func4, Try.ntmps4
    go_wp2_with fail
    rw [← HEQ.out] at a0 a1 a2 la n0 n1 n2 ln ⊢
    refine (LG.out _).mono ?_
    rintro e w3 ⟨rfl, k3⟩
    have K3 := Lib.hid k3
    clear a0 a1 a2 la n0 n1 n2 ln k3
    go_wp2_with fail
    refine (WK.out _).mono ?_
    rintro e w4 ⟨rfl, k4⟩
    go_wp2_with fail
    go_ret
    exact ⟨rfl, keeps_trans K2.out (keeps_trans K3.out k4)⟩
  | false =>
    by_cases hlt : 100 < ne
    · have d1 : decide ((100 : Int) < (ne : Int)) = true := decide_eq_true (by omega)
      clear hlt
      go_enter Try.func4, Try.ntmps4
      go_wp2_with fail
      rw [← HEQ.out] at a0 a1 a2 la n0 n1 n2 ln ⊢
      refine (LG.out _).mono ?_
      rintro e w3 ⟨rfl, k3⟩
      have K3 := Lib.hid k3
      clear a0 a1 a2 la n0 n1 n2 ln k3
      obtain ⟨n0, n1, n2, ln⟩ := NC.out _ K3.out
      go_wp2_with fail
      refine (WK.out _).mono ?_
      rintro e w4 ⟨rfl, k4⟩
      go_wp2_with fail
      go_ret
      exact ⟨rfl, keeps_trans K2.out (keeps_trans K3.out k4)⟩
    · have d1 : decide ((100 : Int) < (ne : Int)) = false := decide_eq_false (by omega)
      have H100 := Lib.hid (show ne ≤ 100 by omega)
      clear hlt
      go_enter Try.func4, Try.ntmps4
      go_wp2_with fail
      rw [← HEQ.out] at a0 a1 a2 la n0 n1 n2 ln ⊢
      refine (LG.out _).mono ?_
      rintro e w3 ⟨rfl, k3⟩
      have K3 := Lib.hid k3
      clear a0 a1 a2 la n0 n1 n2 ln k3
      obtain ⟨a0, a1, a2, la⟩ := AC.out _ K3.out
      obtain ⟨n0, n1, n2, ln⟩ := NC.out _ K3.out
      go_wp2_with fail
      refine (FN.out (by trivial) _ K3.out).mono ?_
      rintro e w4 ⟨⟨ra, rb, rc⟩, rfl, hA, k4⟩
      have K4 := Lib.hid (keeps_trans K3.out k4)
      have HA := Lib.hid hA
      clear a0 a1 a2 la n0 n1 n2 ln k4 hA
      obtain ⟨a0, a1, a2, la⟩ := AC.out _ K4.out
      obtain ⟨n0, n1, n2, ln⟩ := NC.out _ K4.out
      go_wp2_with fail
      refine (VV.out _ K4.out H100.out).mono ?_
      rintro e w5 ⟨sv, all, rfl, hO, hV, k5⟩
      obtain ⟨Au, cu, rfl, -, -, -, -⟩ := hO.form
      have K5 := Lib.hid (keeps_trans K4.out k5)
      have HO := Lib.hid hO
      have AL := Lib.hid (show all.length ≤ 201 by have := hV.len; have := H100.out; have := HNE.out; omega)
      have HV := Lib.hid hV
      clear a0 a1 a2 la n0 n1 n2 ln k5 hO hV
      obtain ⟨a0, a1, a2, la⟩ := AC.out _ K5.out
      obtain ⟨n0, n1, n2, ln⟩ := NC.out _ K5.out
      go_wp2_with fail
      refine (FV.out (by trivial) _ K5.out H100.out Au all.length cu all HO.out.at_ rfl AL.out (VertsV.ends (by rw [HNE.out]; exact HV.out))).mono ?_
      rintro e w6 ⟨rfl, hF, k6⟩
      have K6 := Lib.hid (keeps_trans K5.out k6)
      have HF := Lib.hid hF
      clear a0 a1 a2 la n0 n1 n2 ln hF
      obtain ⟨a0, a1, a2, la⟩ := AC.out _ K6.out
      obtain ⟨n0, n1, n2, ln⟩ := NC.out _ K6.out
      go_wp2_with fail
      refine (place_any Au all.length cu all to _ ((HO.out.keep k6).at_) rfl (by have := AL.out; omega)).mono ?_
      rintro e w7 ⟨rfl, k7⟩
      have K7 := Lib.hid (keeps_trans K6.out k7)
      have HF7 := Lib.hid (HF.out.keep k7)
      clear a0 a1 a2 la n0 n1 n2 ln k6 k7 HF
      obtain ⟨a0, a1, a2, la⟩ := AC.out _ K7.out
      obtain ⟨n0, n1, n2, ln⟩ := NC.out _ K7.out
      obtain ⟨nd, hnd⟩ : ∃ nd, dAt all (bfN all av E fr all.length) to = nd := ⟨_, rfl⟩
      have WM := ME.out all (ra, rb, rc) HV.out HA.out hnd
      obtain ⟨fs, hfs⟩ : ∃ y, w5.heap.size = y := ⟨_, rfl⟩
      rw [hfs] at HF7 ⊢
      simp only at WM
      have al0 : (0 : Int) ≤ (all.length : Int) := by omega
      have al1 : (all.length : Int) ≤ 201 := by have := AL.out; omega
      have HND := Lib.hid hnd
      clear hnd hfs HA HV
      by_cases hin : to ∈ all
      · obtain ⟨d0, -⟩ := HF7.out.numAt (dAt_get (bfN_len _) hin)
        rw [HND.out] at d0
        rw [if_pos hin]
        have pt : all.idxOf to < all.length := List.idxOf_lt_length_iff.2 hin
        obtain ⟨p, hp⟩ : ∃ p, all.idxOf to = p := ⟨_, rfl⟩
        rw [hp] at d0 pt ⊢
        have p1 : (p : Int) < (all.length : Int) := by omega
        have i1 : decide ((0 : Int) ≤ (p : Int)) = true := decide_eq_true (by omega)
        by_cases hf : nd < far
        · have f1 : decide ((nd : Int) < 9223372036854775808) = true := decide_eq_true (by unfold far at hf; omega)
          have f2 : decide (nd < 9223372036854775808) = true := decide_eq_true (by unfold far at hf; omega)
          by_cases hm : nd ≤ most
          · have m1 : decide ((nd : Int) ≤ (most : Int)) = true := decide_eq_true (by omega)
            have m2 : decide (nd ≤ most) = true := decide_eq_true (by omega)
            rcases WM with ⟨r1, r2, r3⟩ | ⟨r1, r2, -⟩ | ⟨r1, r2, r3⟩
            · subst r1
              subst r2
              have q1 : decide ((0 : Int) < (nb : Int)) = true := decide_eq_true (by omega)
              have q3 : decide (0 < nb) = true := decide_eq_true (by omega)
              clear r3 hin hp pt hf hm
              go_wp2_with fail
              go_quiet (fail)
              (try clear m1); (try clear m2); (try clear f1); (try clear f2); (try clear d0); (try clear i1); (try clear p1)
              have k8 := keeps_trans K7.out (keeps_drewN w7 nq)
              obtain ⟨b0, b1, b2, lb⟩ := NC.out _ k8
              go_wp2_with fail
              refine (WK.out _).mono ?_
              rintro e w9 ⟨rfl, k9⟩
              go_wp2_with fail
              go_ret
              exact ⟨rfl, keeps_trans K2.out (keeps_trans K7.out (keeps_trans (keeps_drewN _ _) k9))⟩
            · subst r1
              subst r2
              clear hin hp pt hf hm
              go_wp2_with fail
              go_quiet (fail)
              (try clear m1); (try clear m2); (try clear f1); (try clear f2); (try clear d0); (try clear i1); (try clear p1)
              have k8 := keeps_trans K7.out (keeps_drewN w7 nq)
              obtain ⟨b0, b1, b2, lb⟩ := NC.out _ k8
              go_wp2_with fail
              refine (WK.out _).mono ?_
              rintro e w9 ⟨rfl, k9⟩
              go_wp2_with fail
              go_ret
              exact ⟨rfl, keeps_trans K2.out (keeps_trans K7.out (keeps_trans (keeps_drewN _ _) k9))⟩
            · subst r1
              subst r2
              by_cases hb : 0 < nb
              · have q1 : decide ((0 : Int) < (nb : Int)) = true := decide_eq_true (by omega)
                have q3 : decide (0 < nb) = true := decide_eq_true (by omega)
                clear r3 hin hp pt hf hm hb
                go_wp2_with fail
                go_quiet (fail)
                (try clear m1); (try clear m2); (try clear f1); (try clear f2); (try clear d0); (try clear i1); (try clear p1)
                have k8 := keeps_trans K7.out (keeps_drewN w7 nq)
                obtain ⟨b0, b1, b2, lb⟩ := NC.out _ k8
                go_wp2_with fail
                refine (WK.out _).mono ?_
                rintro e w9 ⟨rfl, k9⟩
                go_wp2_with fail
                go_ret
                exact ⟨rfl, keeps_trans K2.out (keeps_trans K7.out (keeps_trans (keeps_drewN _ _) k9))⟩
              · have q1 : decide ((0 : Int) < (nb : Int)) = false := decide_eq_false (by omega)
                have q3 : decide (0 < nb) = false := decide_eq_false (by omega)
                have q2 : decide ((16 : Int) < (all.length : Int)) = true := decide_eq_true (by rcases r3 hin hf hm with h | h <;> omega)
                have q4 : decide (16 < all.length) = true := decide_eq_true (by rcases r3 hin hf hm with h | h <;> omega)
                clear r3 hin hp pt hf hm hb
                go_wp2_with fail
                go_quiet (fail)
                (try clear m1); (try clear m2); (try clear f1); (try clear f2); (try clear d0); (try clear i1); (try clear p1)
                have k8 := keeps_trans K7.out (keeps_drewN w7 nq)
                obtain ⟨b0, b1, b2, lb⟩ := NC.out _ k8
                go_wp2_with fail
                refine (WK.out _).mono ?_
                rintro e w9 ⟨rfl, k9⟩
                go_wp2_with fail
                go_ret
                exact ⟨rfl, keeps_trans K2.out (keeps_trans K7.out (keeps_trans (keeps_drewN _ _) k9))⟩
          · have m1 : decide ((nd : Int) ≤ (most : Int)) = false := decide_eq_false (by omega)
            have m2 : decide (nd ≤ most) = false := decide_eq_false (by omega)
            rcases WM with ⟨r1, r2, r3⟩ | ⟨r1, r2, r3, r4, r5⟩ | ⟨r1, r2, -⟩
            · subst r1
              subst r2
              have q1 : decide ((0 : Int) < (nb : Int)) = true := decide_eq_true (by omega)
              have q3 : decide (0 < nb) = true := decide_eq_true (by omega)
              clear r3 hin hp pt hf hm
              go_wp2_with fail
              go_quiet (fail)
              (try clear m1); (try clear m2); (try clear f1); (try clear f2); (try clear d0); (try clear i1); (try clear p1)
              have k8 := keeps_trans K7.out (keeps_drewN w7 nq)
              obtain ⟨b0, b1, b2, lb⟩ := NC.out _ k8
              go_wp2_with fail
              refine (WK.out _).mono ?_
              rintro e w9 ⟨rfl, k9⟩
              go_wp2_with fail
              go_ret
              exact ⟨rfl, keeps_trans K2.out (keeps_trans K7.out (keeps_trans (keeps_drewN _ _) k9))⟩
            · exact absurd r5 hm
            · subst r1
              subst r2
              go_wp2_with fail
              go_quiet (fail)
              (try clear m1); (try clear m2); (try clear f1); (try clear f2); (try clear d0); (try clear i1); (try clear p1)
              have k8 := keeps_trans K7.out (keeps_drewN w7 nq)
              obtain ⟨b0, b1, b2, lb⟩ := NC.out _ k8
              go_wp2_with fail
              refine (WK.out _).mono ?_
              rintro e w9 ⟨rfl, k9⟩
              go_wp2_with fail
              go_ret
              exact ⟨rfl, keeps_trans K2.out (keeps_trans K7.out (keeps_trans (keeps_drewN _ _) k9))⟩
        · have f1 : decide ((nd : Int) < 9223372036854775808) = false := decide_eq_false (by unfold far at hf; omega)
          have f2 : decide (nd < 9223372036854775808) = false := decide_eq_false (by unfold far at hf; omega)
          rcases WM with ⟨r1, r2, r3⟩ | ⟨r1, r2, r3, r4, r5⟩ | ⟨r1, r2, -⟩
          · subst r1
            subst r2
            have q1 : decide ((0 : Int) < (nb : Int)) = true := decide_eq_true (by omega)
            have q3 : decide (0 < nb) = true := decide_eq_true (by omega)
            clear r3 hin hp pt hf
            go_wp2_with fail
            go_quiet (fail)
            (try clear m1); (try clear m2); (try clear f1); (try clear f2); (try clear d0); (try clear i1); (try clear p1)
            have k8 := keeps_trans K7.out (keeps_drewN w7 nq)
            obtain ⟨b0, b1, b2, lb⟩ := NC.out _ k8
            go_wp2_with fail
            refine (WK.out _).mono ?_
            rintro e w9 ⟨rfl, k9⟩
            go_wp2_with fail
            go_ret
            exact ⟨rfl, keeps_trans K2.out (keeps_trans K7.out (keeps_trans (keeps_drewN _ _) k9))⟩
          · exact absurd r4 hf
          · subst r1
            subst r2
            go_wp2_with fail
            go_quiet (fail)
            (try clear m1); (try clear m2); (try clear f1); (try clear f2); (try clear d0); (try clear i1); (try clear p1)
            have k8 := keeps_trans K7.out (keeps_drewN w7 nq)
            obtain ⟨b0, b1, b2, lb⟩ := NC.out _ k8
            go_wp2_with fail
            refine (WK.out _).mono ?_
            rintro e w9 ⟨rfl, k9⟩
            go_wp2_with fail
            go_ret
            exact ⟨rfl, keeps_trans K2.out (keeps_trans K7.out (keeps_trans (keeps_drewN _ _) k9))⟩
      · rw [if_neg hin]
        have i1 : decide ((0 : Int) ≤ -1) = false := by decide
        rcases WM with ⟨r1, r2, r3⟩ | ⟨r1, r2, r3, r4, r5⟩ | ⟨r1, r2, -⟩
        · subst r1
          subst r2
          have q1 : decide ((0 : Int) < (nb : Int)) = true := decide_eq_true (by omega)
          have q3 : decide (0 < nb) = true := decide_eq_true (by omega)
          clear r3 hin
          go_wp2_with fail
          go_quiet (fail)
          (try clear m1); (try clear m2); (try clear f1); (try clear f2); (try clear d0); (try clear i1); (try clear p1)
          have k8 := keeps_trans K7.out (keeps_drewN w7 nq)
          obtain ⟨b0, b1, b2, lb⟩ := NC.out _ k8
          go_wp2_with fail
          refine (WK.out _).mono ?_
          rintro e w9 ⟨rfl, k9⟩
          go_wp2_with fail
          go_ret
          exact ⟨rfl, keeps_trans K2.out (keeps_trans K7.out (keeps_trans (keeps_drewN _ _) k9))⟩
        · exact absurd r3 hin
        · subst r1
          subst r2
          go_wp2_with fail
          go_quiet (fail)
          (try clear m1); (try clear m2); (try clear f1); (try clear f2); (try clear d0); (try clear i1); (try clear p1)
          have k8 := keeps_trans K7.out (keeps_drewN w7 nq)
          obtain ⟨b0, b1, b2, lb⟩ := NC.out _ k8
          go_wp2_with fail
          refine (WK.out _).mono ?_
          rintro e w9 ⟨rfl, k9⟩
          go_wp2_with fail
          go_ret
          exact ⟨rfl, keeps_trans K2.out (keeps_trans K7.out (keeps_trans (keeps_drewN _ _) k9))⟩
end Go.Proofs.Ytkijfbnibfbldaa
