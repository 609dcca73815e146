/- DiskQuota. -/
import Derived.Test.YtpbkkbkpodcgnaaLawDisk11
namespace Go.Proofs.Ytpbkkbkpodcgnaa
open Go.RowKit
set_option linter.unusedSimpArgs false
set_option linter.unusedVariables false
set_option maxRecDepth 100000

theorem FilesAt.turn {w w' : World} {base : Nat} {v : Value} {l : List (List UInt8 × List UInt8)} {F F' : Nat → Prop} (h : FilesAt w base v l) (ht : Turns w w' F F') (hF : ∀ i, F i → i < base) : FilesAt w' base v l := by
  obtain ⟨vs, h1, h2, h3⟩ := h
  exact ⟨vs, h1, h2.turns ht (fun k hk hf => by have := (h2.lt k hk).1; have := hF k hf; omega), fun i b x hi hx => (h3 i b x hi hx).turns ht (fun k hk hf => by have := ((h3 i b x hi hx).lt k hk).1; have := hF k hf; omega)⟩
theorem FilesAt.few {w : World} {base : Nat} {v : Value} {l : List (List UInt8 × List UInt8)} (h : FilesAt w base v l) : l.length ≤ 9223372036854775807 := by
  obtain ⟨vs, h1, h2, h3⟩ := h
  obtain ⟨A, c, _, hc, hm, _⟩ := h2.form
  unfold maxLen at hm
  omega
def flsOf (s : Ds) : List (List UInt8 × List UInt8) := s.l.map fun f => (f.name, f.now)
set_option maxHeartbeats 16000000 in
theorem quota6_walk (K : DiskOk) (q : Int) (hq : IsI q) (A : Option Addr) (n c : Nat) (l : List OpS) (w : World) (hZ : K.Z w) (h : OpsAt w A l) (hn : n = l.length) (hm : n ≤ 9223372036854775807) :
    Calls Try.prog 7 #[.int .i64 q, .slice A n c] w (Yes w) := by
  have WK := Lib.hid (fun (W : World) (q : Keeps w W) => works6 K W (K.keep hZ q))
  have VA := Lib.hid (vast_any A n c l w h hn hm)
  have H := Lib.hid h
  have HN := Lib.hid hn
  have HZ := Lib.hid hZ
  have HQ := Lib.hid hq
  clear h hn hZ hq
  go_enter Try.func7, Try.ntmps7
  go_wp2_with fail
  refine VA.out.mono ?_
  rintro e w1 ⟨vv, rfl, k1, hv⟩
  have K1 := Lib.hid k1
  clear k1
  rcases vv with _ | _
  · have FW := Lib.hid (hv rfl)
    have NW := Lib.hid (K.new q w1 (K.keep HZ.out K1.out) HQ.out.1 HQ.out.2)
    have hbi : (n : Int) ≤ 150 := by have := FW.out.most; have := HN.out; omega
    clear hv
    go_wp2_with fail
    refine NW.out.mono ?_
    rintro e w2 (⟨hq0, hq1, b, F, rfl, hD, hF, k2⟩ | ⟨hbad, rfl, k2⟩)
    · have H2 := Lib.hid (show Have K w w2 b F ⟨[], q.toNat, 0, false⟩ from ⟨hD, fun i hi => Nat.le_trans K1.out.size (hF i hi), keeps_trans K1.out k2⟩)
      have HR := Lib.hid (show q = (((⟨[], q.toNat, 0, false⟩ : Ds).q : Nat) : Int) by show q = (q.toNat : Int); omega)
      clear hD hF k2
      unfold dpt
      go_wp2_with fail
      go_loopw [7, 8] (fun rm i wr => ∃ (j : Nat) (s : Ds) (G : Nat → Prop), j ≤ n ∧ i = .int .i64 j ∧ rm = .int .i64 (s.q : Int) ∧ Hid (s.l.length ≤ j) ∧ Have K w wr b G s) (fun _ i _ => n - (intOf i).toNat)
      case atStart => exact ⟨0, _, F, Nat.zero_le _, rfl, by rw [← HR.out], Lib.hid (Nat.le_refl _), H2.out⟩
      case round =>
        obtain ⟨j, s, G, hj, rfl, rfl, hsl, hh⟩ := hrel
        have HH := Lib.hid hh
        clear hh
        by_cases hlt : j < n
        · have hjn : (j : Int) < (n : Int) := by omega
          obtain ⟨o, ho⟩ : ∃ o, l[j]? = some o := ⟨_, List.getElem?_eq_getElem (by have := HN.out; omega)⟩
          have HO := Lib.hid ho
          have FI := Lib.hid (K.files (HH.out.z HZ.out) HH.out.D (by have := hsl.out; omega))
          unfold dpt at FI
          clear ho
          go_wp2_with fail
          refine FI.out.mono ?_
          rintro e w3 ⟨v3, rfl, f3, k3⟩
          have F3 := Lib.hid f3
          have H3 := Lib.hid (HH.out.keep k3)
          have US := Lib.hid (K.used (H3.out.z HZ.out) H3.out.D)
          unfold dpt at US
          clear f3 k3
          go_wp2_with fail
          refine US.out.mono ?_
          rintro e w4 ⟨rfl, k4⟩
          have F4 := Lib.hid (F3.out.keep k4)
          have H4 := Lib.hid (H3.out.keep k4)
          clear k4
          have OA := H.out.keep H4.out.kp
          obtain ⟨ad, rfl, q0⟩ := OA.cell0 HO.out
          have c0 : w4.cell? (ad.add (j * 8)) = some (.int .i64 o.x.kind) := by have := q0 0 (by decide); simpa [opC, Addr.add] using this
          have c1 := q0 1 (by decide)
          have c2 := q0 2 (by decide)
          have c3 := q0 3 (by decide)
          have c4 := q0 4 (by decide)
          have c5 := q0 5 (by decide)
          have c6 := q0 6 (by decide)
          have c7 := q0 7 (by decide)
          rw [add_pos6 _ _ (by decide)] at c1 c2 c3 c4 c5 c6 c7
          simp only [opC, List.getElem?_cons_zero, List.getElem?_cons_succ] at c1 c2 c3 c4 c5 c6 c7
          have hfe := FW.out.each o (List.mem_of_getElem? HO.out)
          have DO := Lib.hid (does_any K HZ.out H4.out o (H.out.ok o (List.mem_of_getElem? HO.out)) (by omega) (by omega))
          unfold opA dpt at DO
          clear q0 OA hfe
          go_wp2_with fail
          refine DO.out.mono ?_
          rintro e w5 ⟨v5, G5, rfl, o5, hD5, ht5, -⟩
          obtain ⟨A5, cc5, rfl, -⟩ := o5.form
          clear o5
          have H5 := Lib.hid (H4.out.step hD5 ht5)
          have F5 := Lib.hid (F4.out.turn ht5 (fun i hi => K.lt HH.out.D i hi))
          clear hD5 ht5 c0 c1 c2 c3 c4 c5 c6 c7
          obtain ⟨N5, hN5⟩ : ∃ N5, (doS s o.x).2.n = N5 := ⟨_, rfl⟩
          obtain ⟨ei, hE5⟩ : ∃ ei : Int, ((doS s o.x).2.e : Int) = ei := ⟨_, rfl⟩
          obtain ⟨z5, hz5⟩ : ∃ z5, (doS s o.x).2.b.length = z5 := ⟨_, rfl⟩
          obtain ⟨kd, hkd⟩ : ∃ kd, o.x.kind = kd := ⟨_, rfl⟩
          obtain ⟨s5, hs5⟩ : ∃ s5, (doS s o.x).1 = s5 := ⟨_, rfl⟩
          rw [hN5, hE5, hz5]
          have US5 := Lib.hid (fun hx => doS_used s o.x (K.ok HH.out.D) hx)
          have FU5 := Lib.hid (doS_full s o.x)
          have QA := Lib.hid (show o.x.kind = 8 → ei = 0 → ((doS s o.x).1.q : Int) = o.x.n from fun a b => by have := doS_q s o.x; rwa [if_pos ⟨a, by omega⟩] at this)
          have QB := Lib.hid (show ¬ (o.x.kind = 8 ∧ ei = 0) → ((doS s o.x).1.q : Int) = s.q from fun a => by have := doS_q s o.x; rwa [if_neg (fun h => a ⟨h.1, by have := h.2; omega⟩)] at this)
          have ei0 : (doS s o.x).2.e = 0 ↔ ei = 0 := by omega
          have SL5 := Lib.hid (show (doS s o.x).1.l.length ≤ j + 1 by have := doS_len s o.x; have := hsl.out; omega)
          have ei5 : (doS s o.x).2.e = 5 ↔ ei = 5 := by omega
          rw [hs5, hkd] at QA QB
          rw [hs5, hkd] at US5
          rw [hs5, ei5, hkd] at FU5
          rw [hs5] at H5
          rw [hs5] at SL5
          clear hN5 hE5 hz5 hs5 ei0 ei5
          have kA := keeps_alloc w5 (.cells #[.slice A5 z5 cc5, .int .i64 (N5 : Int), .int .i64 ei] 32)
          have OB := H.out.keep (keeps_trans H5.out.kp kA)
          obtain ⟨ad', e', q0'⟩ := OB.cell0 HO.out
          obtain rfl := Option.some.inj e'
          have c0 : (w5.alloc (.cells #[.slice A5 z5 cc5, .int .i64 (N5 : Int), .int .i64 ei] 32)).cell? (ad.add (j * 8)) = some (.int .i64 kd) := by have := q0' 0 (by decide); rw [← hkd]; simpa [opC, Addr.add] using this
          have c4 := q0' 4 (by decide)
          rw [add_pos6 _ _ (by decide)] at c4
          simp only [opC, List.getElem?_cons_zero, List.getElem?_cons_succ] at c4
          have t2 : (w5.alloc (.cells #[.slice A5 z5 cc5, .int .i64 (N5 : Int), .int .i64 ei] 32)).cell? ⟨w5.heap.size, 2, none⟩ = some (.int .i64 ei) := by unfold World.cell?; rw [heap_alloc_new]; rfl
          have H6 := Lib.hid (H5.out.keep kA)
          have F6 := Lib.hid (F5.out.keep kA)
          have UA := Lib.hid (fun V (k : Keeps (w5.alloc (.cells #[.slice A5 z5 cc5, .int .i64 (N5 : Int), .int .i64 ei] 32)) V) => K.used ((H6.out.keep k).z HZ.out) (H6.out.keep k).D)
          unfold dpt at UA
          clear e' q0' OB kA hkd
          obtain ⟨u0, hu0⟩ : ∃ u0, usedL s.l = u0 := ⟨_, rfl⟩
          obtain ⟨u5, hu5⟩ : ∃ u5, usedL s5.l = u5 := ⟨_, rfl⟩
          rw [hu0]
          rw [hu0, hu5] at US5
          rw [hu5] at UA
          have U0 := Lib.hid hu0
          have U5 := Lib.hid hu5
          clear hu0 hu5
          obtain ⟨q5, hq5⟩ : ∃ q5, s5.q = q5 := ⟨_, rfl⟩
          rw [hq5] at QA QB
          have Q5 := Lib.hid hq5
          clear hq5
          by_cases gr : u0 < u5
          · obtain ⟨h3, hle⟩ := US5.out gr
            have gr1 : decide (u0 < u5) = true := decide_eq_true gr
            have gr2 : decide ((u0 : Int) < (u5 : Int)) = true := decide_eq_true (by omega)
            have gr3 : (u0 : Int) < (u5 : Int) := by omega
            have h58 : ¬ ei = 5 := fun e => by have h7 := (FU5.out e).2; have := U0.out; have := U5.out; rw [h7] at this; omega
            have e51 : (ei == 5) = false := by rw [beq_eq_false_iff_ne]; exact h58
            have k83 : (kd != 3) = false := by rw [bne_eq_false_iff_eq]; exact h3
            have k81 : (kd == 8) = false := by rw [beq_eq_false_iff_ne]; omega
            have hq5 := QB.out (fun h => by have := h.1; omega)
            have hle1 : decide (q5 < u5) = false := decide_eq_false (by omega)
            have hle2 : decide ((q5 : Int) < (u5 : Int)) = false := decide_eq_false (by omega)
            rw [← hq5]
            clear h3 hle gr h58 hq5
            go_wp2_with fail
            refine (UA.out _ (keeps_refl _)).mono ?_
            rintro e w7 ⟨rfl, k7⟩
            have c0' := k7.cellOf c0
            have t2' := k7.cellOf t2
            go_wp2_with fail
            refine (UA.out _ k7).mono ?_
            rintro e w8 ⟨rfl, k8⟩
            have c0'' := k8.cellOf c0'
            have t2'' := k8.cellOf t2'
            have HX := Lib.hid (H6.out.keep (keeps_trans k7 k8))
            go_wp2_with fail
            first
              | exact ⟨⟨j + 1, s5, G5, by omega, by go_num, by rw [Q5.out], SL5, HX.out⟩, by simp [intOf]; omega⟩
              | (refine ⟨?_, ?measure⟩
                 (repeat apply Exists.intro)
                 refine ⟨?rel, rfl⟩
                 case rel => exact ⟨j + 1, s5, G5, by omega, by go_num, by rw [Q5.out], SL5, HX.out⟩
                 case measure => simp [intOf]; omega)
          · have gr1 : decide (u0 < u5) = false := decide_eq_false gr
            have gr2 : decide ((u0 : Int) < (u5 : Int)) = false := decide_eq_false (by omega)
            by_cases e5 : ei = 5
            · obtain ⟨h3, hll⟩ := FU5.out e5
              have e51 : (ei == 5) = true := beq_iff_eq.2 e5
              have k83 : (kd != 3) = false := by rw [bne_eq_false_iff_eq]; exact h3
              have k81 : (kd == 8) = false := by rw [beq_eq_false_iff_ne]; omega
              have hq5 := QB.out (fun h => by have := h.1; omega)
              rw [← hq5]
              have LL := Lib.hid hll
              clear h3 gr hq5 hll e5
              go_wp2_with fail
              refine (UA.out _ (keeps_refl _)).mono ?_
              rintro e w7 ⟨rfl, k7⟩
              have c0' := k7.cellOf c0
              have t2' := k7.cellOf t2
              have FX := Lib.hid (K.files ((H6.out.keep k7).z HZ.out) (H6.out.keep k7).D (by have := SL5.out; omega))
              unfold dpt at FX
              go_wp2_with fail
              refine FX.out.mono ?_
              rintro e w8 ⟨v8, rfl, f8, k8⟩
              have c0'' := k8.cellOf c0'
              have t2'' := k8.cellOf t2'
              rw [LL.out] at f8
              have SM := Lib.hid (samefiles_any _ _ v8 v3 _ _ w8 f8 (F6.out.keep (keeps_trans k7 k8)) f8.few f8.few (by
                intro p hp
                obtain ⟨f, hf, rfl⟩ := List.mem_map.1 hp
                exact ((K.ok HH.out.D).files f hf).size))
              rw [decide_eq_true rfl] at SM
              clear f8
              go_wp2_with fail
              refine SM.out.mono ?_
              rintro e w9 ⟨rfl, k9⟩
              have HX := Lib.hid (H6.out.keep (keeps_trans k7 (keeps_trans k8 k9)))
              have c0''' := k9.cellOf c0''
              have t2''' := k9.cellOf t2''
              go_wp2_with fail
              first
                | exact ⟨⟨j + 1, s5, G5, by omega, by go_num, by rw [Q5.out], SL5, HX.out⟩, by simp [intOf]; omega⟩
                | (refine ⟨?_, ?measure⟩
                   (repeat apply Exists.intro)
                   refine ⟨?rel, rfl⟩
                   case rel => exact ⟨j + 1, s5, G5, by omega, by go_num, by rw [Q5.out], SL5, HX.out⟩
                   case measure => simp [intOf]; omega)
            · have e51 : (ei == 5) = false := by rw [beq_eq_false_iff_ne]; exact e5
              by_cases h8 : kd = 8
              · have k81 : (kd == 8) = true := beq_iff_eq.2 h8
                by_cases h0 : ei = 0
                · have e01 : (ei == 0) = true := beq_iff_eq.2 h0
                  rw [← QA.out h8 h0] at c4
                  clear h8 h0 e5 gr
                  go_wp2_with fail
                  refine (UA.out _ (keeps_refl _)).mono ?_
                  rintro e w7 ⟨rfl, k7⟩
                  have c0' := k7.cellOf c0
                  have t2' := k7.cellOf t2
                  have HX := Lib.hid (H6.out.keep k7)
                  go_wp2_with fail
                  first
                    | exact ⟨⟨j + 1, s5, G5, by omega, by go_num, by rw [Q5.out], SL5, HX.out⟩, by simp [intOf]; omega⟩
                    | (refine ⟨?_, ?measure⟩
                       (repeat apply Exists.intro)
                       refine ⟨?rel, rfl⟩
                       case rel => exact ⟨j + 1, s5, G5, by omega, by go_num, by rw [Q5.out], SL5, HX.out⟩
                       case measure => simp [intOf]; omega)
                · have e01 : (ei == 0) = false := by rw [beq_eq_false_iff_ne]; exact h0
                  rw [← QB.out (fun h => h0 h.2)]
                  clear h8 h0 e5 gr
                  go_wp2_with fail
                  refine (UA.out _ (keeps_refl _)).mono ?_
                  rintro e w7 ⟨rfl, k7⟩
                  have c0' := k7.cellOf c0
                  have t2' := k7.cellOf t2
                  have HX := Lib.hid (H6.out.keep k7)
                  go_wp2_with fail
                  first
                    | exact ⟨⟨j + 1, s5, G5, by omega, by go_num, by rw [Q5.out], SL5, HX.out⟩, by simp [intOf]; omega⟩
                    | (refine ⟨?_, ?measure⟩
                       (repeat apply Exists.intro)
                       refine ⟨?rel, rfl⟩
                       case rel => exact ⟨j + 1, s5, G5, by omega, by go_num, by rw [Q5.out], SL5, HX.out⟩
                       case measure => simp [intOf]; omega)
              · have k81 : (kd == 8) = false := by rw [beq_eq_false_iff_ne]; exact h8
                rw [← QB.out (fun h => h8 h.1)]
                clear h8 e5 gr
                go_wp2_with fail
                refine (UA.out _ (keeps_refl _)).mono ?_
                rintro e w7 ⟨rfl, k7⟩
                have c0' := k7.cellOf c0
                have t2' := k7.cellOf t2
                have HX := Lib.hid (H6.out.keep k7)
                go_wp2_with fail
                first
                  | exact ⟨⟨j + 1, s5, G5, by omega, by go_num, by rw [Q5.out], SL5, HX.out⟩, by simp [intOf]; omega⟩
                  | (refine ⟨?_, ?measure⟩
                     (repeat apply Exists.intro)
                     refine ⟨?rel, rfl⟩
                     case rel => exact ⟨j + 1, s5, G5, by omega, by go_num, by rw [Q5.out], SL5, HX.out⟩
                     case measure => simp [intOf]; omega)
        · obtain rfl : j = n := by omega
          clear hlt hj
          go_wp2_with fail
          refine (WK.out _ HH.out.kp).mono ?_
          rintro e w17 ⟨rfl, k17⟩
          have K17 := Lib.hid (keeps_trans HH.out.kp k17)
          clear k17
          go_wp2_with fail
          go_ret
          exact ⟨rfl, K17.out⟩
    · have K2 := Lib.hid (keeps_trans K1.out k2)
      clear hbad k2
      go_wp2_with fail
      refine (WK.out _ K2.out).mono ?_
      rintro e w17 ⟨rfl, k17⟩
      have K17 := Lib.hid (keeps_trans K2.out k17)
      clear k17
      go_wp2_with fail
      go_ret
      exact ⟨rfl, K17.out⟩
  · clear hv
    go_wp2_with fail
    refine (WK.out _ K1.out).mono ?_
    rintro e w2 ⟨rfl, k2⟩
    have K2 := Lib.hid (keeps_trans K1.out k2)
    clear k2
    go_wp2_with fail
    go_ret
    exact ⟨rfl, K2.out⟩
end Go.Proofs.Ytpbkkbkpodcgnaa
