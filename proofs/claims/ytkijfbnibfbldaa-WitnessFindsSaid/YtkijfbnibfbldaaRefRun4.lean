/- The reference of layer 14: Run's walk. -/
import Derived.Test.YtkijfbnibfbldaaRefRun3
namespace Go.Proofs.Ytkijfbnibfbldaa
open Go.RowKit
set_option linter.unusedSimpArgs false
set_option linter.unusedVariables false
set_option maxRecDepth 100000

theorem own_newR (w : World) (fr : Nat) : Own (w.alloc (.cells #[.int .u32 (fr : Int), .int .u64 0, .bool false] 83)) w.heap.size 83 3 (.slice (some ⟨w.heap.size, 0, none⟩) 1 1) 1 (rcC [⟨fr, 0, false⟩]) :=
  ⟨rfl, .inr ⟨w.heap.size, 1, _, (0, 0), rfl, Nat.le_refl _, heap_alloc_new w _, .inl rfl, Nat.le_refl _, by decide, rfl, rfl⟩⟩
/-- what Run leaves -/
def RunD (x : WNet) (fr to most : Nat) (w : World) (e : Ending) (w' : World) : Prop :=
  ∃ (r : Answ) (sv : Value), e = .returned (.tuple #[sv, .bool r.2.1, .int .i64 (r.2.2 : Int)]) ∧ Own w' w.heap.size 26 1 sv r.1.length (celU r.1) ∧ Ans (outN x) (avN x) to most [] [(fr, 0)] r ∧ Keeps w w'
set_option maxHeartbeats 32000000 in
theorem rrun_any {w : World} {g : Nat} {x : WNet} (hb : Box w g 25 x.cells) (hx : WNetOk w x) (hE : x.E.length ≤ 300) (hBl : x.B.length ≤ 50) (hZl : x.Z.length ≤ 50) (fr to most : Nat) (hfr : fr < 4294967296) (hto : to < 4294967296) (hm : most < 18446744073709551616) :
    Calls Try.prog 16 #[.pointer (some ⟨g, 0, none⟩), .int .u32 (fr : Int), .int .u32 (to : Int), .int .u64 (most : Int)] w fun e w' => RunD x fr to most w e w' := by
  obtain ⟨i0, hi, hz0, hz1, hz2⟩ := info_parts info_u32w
  have OUT := Lib.hid (fun (W : World) (k : Keeps w W) (v : Nat) (hv : v < 4294967296) => netOut_any (hb.keep k) (hx.keep k) hE hBl v hv)
  have AVO := Lib.hid (fun (W : World) (k : Keeps w W) (v : Nat) => netAvoid_any (hb.keep k) (hx.keep k) hZl v)
  have OKE := Lib.hid (fun (v : Nat) => show (∀ e ∈ (outN x v).2, EdOk e) ∧ (outN x v).2.length ≤ 300 ∧ ((outN x v).1 = 0 ∨ (outN x v).1 = 7) from by
    unfold outN
    split
    · exact ⟨by simp, by simp, .inr rfl⟩
    · exact ⟨fun e he => hx.ok e (List.mem_filter.1 he).1, Nat.le_trans (outW_len v x.E) hE, .inl rfl⟩)
  have START := Lib.hid (fun (r : Answ) (sv : Value) (w' : World) (h1 : Own w' w.heap.size 26 1 sv r.1.length (celU r.1)) (h2 : Ans (outN x) (avN x) to most [] [(fr, 0)] r) (h3 : Keeps w w') => show RunD x fr to most w (.returned (.tuple #[sv, .bool r.2.1, .int .i64 (r.2.2 : Int)])) w' from ⟨r, sv, rfl, h1, h2, h3⟩)
  obtain ⟨Q, hQ⟩ : ∃ Q, RunD x fr to most w = Q := ⟨_, rfl⟩
  rw [hQ] at START ⊢
  obtain ⟨oo, hoo⟩ : ∃ o, outN x = o := ⟨_, rfl⟩
  obtain ⟨av, hav⟩ : ∃ o, avN x = o := ⟨_, rfl⟩
  simp only [hoo, hav] at OUT AVO OKE START
  have RS0 := Lib.hid (show RunS w (w.alloc (.cells #[.int .u32 (fr : Int), .int .u64 0, .bool false] 83)) [] [⟨fr, 0, false⟩] (.slice none 0 0) w.heap.size 1 1 from ⟨Own.nil _ _ _ _, own_newR w fr, fun k h => (by cases h), Rk.start hfr, keeps_alloc w _, rfl⟩)
  clear hb hx hE hBl hZl hfr hQ hoo hav
  go_enter Try.func16, Try.ntmps16
  go_wp2_with fail
  go_loopw [11, 12, 13] (fun ak ls t wr => ∃ (S : List Nat) (l : List Rc) (g1 n c : Nat), t = .int .i64 (S.length : Int) ∧ S.length ≤ 16 ∧ ls = .slice (some ⟨g1, 0, none⟩) n c ∧ n ≤ 1 + S.length * 300 ∧ RunS w wr S l ak g1 n c ∧ (∀ q, Ans oo av to most S (waitR l) q → Ans oo av to most [] [(fr, 0)] q)) (fun _ _ t _ => 17 - (intOf t).toNat)
  case atStart => exact ⟨[], [⟨fr, 0, false⟩], w.heap.size, 1, 1, rfl, by simp, rfl, by simp, RS0.out, fun q h => h⟩
  case round =>
    obtain ⟨S, l, g1, n, c, rfl, hS, rfl, hn, hR, hC⟩ := hrel
    have HR := Lib.hid hR
    have HC := Lib.hid hC
    have HS := Lib.hid hS
    have HNB := Lib.hid hn
    obtain ⟨Au, cu, rfl, -, -, -, -⟩ := hR.oS.form
    have m16 : (S.length : Int) ≤ 16 := by omega
    have NX := Lib.hid (rnext_any hR.oL hR.len (by omega))
    clear hR hC hS hn
    go_wp2_with fail
    refine NX.out.mono ?_
    rintro e w1 ⟨a, rfl, hNR, k1⟩
    have HR1 := Lib.hid (HR.out.keep k1)
    by_cases ha : a = -1
    · subst ha
      have FIN := Lib.hid (START.out (S, false, 0) _ w1 HR1.out.oS (HC.out _ (by rw [hNR.none]; exact .none S)) HR1.out.ks)
      clear hNR k1
      go_wp2_with fail
      exact FIN.out
    · obtain ⟨p, rfl⟩ : ∃ p : Nat, a = (p : Int) := by
        rcases hNR with ⟨h, -⟩ | ⟨p, r, h, -⟩
        · exact absurd h ha
        · exact ⟨p, h⟩
      obtain ⟨⟨v, d, z⟩, hp, hz, hl⟩ := hNR.least
      simp only at hz hl
      subst hz
      obtain ⟨⟨c0, c1, c2⟩, z1, z2⟩ := own_rc HR1.out.oL hp
      have p1 : (p : Int) < (n : Int) := by have := (List.getElem?_eq_some_iff.1 hp).1; have := HR.out.len; omega
      have p0 : decide ((p : Int) < 0) = false := decide_eq_false (by omega)
      obtain ⟨vok, dok⟩ := HR1.out.rk.ok _ (List.mem_of_getElem? hp)
      simp only at vok dok
      have HP := Lib.hid hp
      have HL := Lib.hid hl
      have VO := Lib.hid (And.intro vok dok)
      by_cases hfar : most < d
      · have q1 : decide ((most : Int) < (d : Int)) = true := decide_eq_true (by omega)
        have q2 : decide (most < d) = true := decide_eq_true hfar
        have FIN := Lib.hid (START.out (S, false, 0) _ w1 HR1.out.oS (HC.out _ (.far hl (.inl hfar))) HR1.out.ks)
        clear hNR k1 hp hl vok dok hfar ha
        go_wp2_with fail
        exact FIN.out
      · have q1 : decide ((most : Int) < (d : Int)) = false := decide_eq_false (by omega)
        have q2 : decide (most < d) = false := decide_eq_false hfar
        have HD := Lib.hid (show d ≤ most by omega)
        by_cases h16 : S.length = 16
        · have FIN := Lib.hid (START.out (S, false, 0) _ w1 HR1.out.oS (HC.out _ (.far hl (.inr h16))) HR1.out.ks)
          have q3 : ((S.length : Int) == 16) = true := by rw [h16]; rfl
          have q4 : (S.length == 16) = true := by rw [h16]; rfl
          clear hNR k1 hp hl vok dok hfar ha h16
          go_wp2_with fail
          exact FIN.out
        · have q3 : ((S.length : Int) == 16) = false := by simp only [beq_eq_false_iff_ne, ne_eq]; omega
          have q4 : (S.length == 16) = false := by simp only [beq_eq_false_iff_ne, ne_eq]; exact h16
          have H16 := Lib.hid (show S.length < 16 by have := HS.out; omega)
          by_cases hvt : v = to
          · have FIN := Lib.hid (START.out (S, true, 0) _ w1 HR1.out.oS (HC.out _ (.yes hl HD.out h16 hvt)) HR1.out.ks)
            have q5 : ((v : Int) == (to : Int)) = true := by rw [hvt]; simp
            clear hNR k1 hp hl vok dok hfar ha h16 hvt
            go_wp2_with fail
            exact FIN.out
          · have q5 : ((v : Int) == (to : Int)) = false := by simp only [beq_eq_false_iff_ne, ne_eq, Int.natCast_inj]; exact hvt
            have HVT := Lib.hid hvt
            obtain ⟨s1, s2, s3, s4⟩ := HR1.out.settle hp
            obtain ⟨⟨b0, b1, b2⟩, -⟩ := own_rc s1 (set_getW hp)
            have S1 := Lib.hid s1
            have S2 := Lib.hid s2
            have S3 := Lib.hid s3
            have lg1 := HR1.out.low.2
            have AT := Lib.hid (show At ((w1.setCell ⟨g1, p * 3 + 2, none⟩ (.bool true)).alloc (.cells #[.int .u32 (v : Int)] 26)) ((w1.setCell ⟨g1, p * 3 + 2, none⟩ (.bool true)).alloc (.cells #[.int .u32 (v : Int)] 26)).heap.size (some ⟨w1.heap.size, 0, none⟩) [.int .u32 (v : Int)] from by
              have h := At.new (w1.setCell ⟨g1, p * 3 + 2, none⟩ (.bool true)) [.int .u32 (v : Int)] 26 ((w1.setCell ⟨g1, p * 3 + 2, none⟩ (.bool true)).alloc (.cells #[.int .u32 (v : Int)] 26)).heap.size (by simp)
              rw [World.size_setCell] at h
              exact h)
            clear hNR k1 hp hl vok dok hfar ha h16 hvt s1 s2 s3
            go_wp2_with (at_builtin; refine wpList_app _ rfl _ _ 23 rfl w.heap.size 26 i0 (.int .u32 0) 1 4 Try.underlying23 hi hz0 hz1 hz2 rfl (by decide) _ S.length (celU S) rfl (S2.out.keep (keeps_alloc _ _)) _ _ 1 1 [.int .u32 (v : Int)] rfl rfl AT.out (by intro u hu; simp at hu; subst hu; rfl) (by have := HS.out; unfold maxLen; omega) (by have := HS.out; omega) (keeps_trans S3.out (keeps_alloc _ _)).size ?_)
            intro v8 w8 o8 g8 b8
            have RS8 := Lib.hid (show RunS w w8 (S ++ [v]) (l.set p ⟨v, d, true⟩) v8 g1 n c from by
              have kA := keeps_trans S3.out (keeps_alloc (w1.setCell ⟨g1, p * 3 + 2, none⟩ (.bool true)) (.cells #[.int .u32 (v : Int)] 26))
              refine ⟨?_, (S1.out.keep (keeps_alloc _ _)).grown g8 (.inr fun e => HR1.out.ap g1 (by rw [← e]; rfl) rfl), fun k hk => ?_, (HR1.out.rk.settle HP.out rfl).1, Below.grown kA g8 kA.size (fun g hg => (S2.out.lt g hg).1), by rw [List.length_set]; exact HR1.out.len⟩
              · have : celU (S ++ [v]) = celU S ++ [.int .u32 (v : Int)] := by simp [celU, u32V]
                rw [this, List.length_append, List.length_singleton]
                exact o8
              · rcases b8 with b | b
                · exact HR1.out.ap k (by rw [← b]; exact hk)
                · rw [b] at hk
                  cases hk
                  omega)
            clear o8 g8 b8 b0 b1 b2 c0 c1 c2 z1 z2 q1 q2 q3 q4 q5
            obtain ⟨⟨b0, b1, b2⟩, -⟩ := own_rc RS8.out.oL (set_getW HP.out)
            have OV := Lib.hid (OUT.out w8 RS8.out.ks v VO.out.1)
            go_wp2_with fail
            refine OV.out.mono ?_
            rintro e w9 ⟨sv9, rfl, hO9, k9⟩
            obtain ⟨A9, c9, rfl, -, -, -, -⟩ := hO9.form
            have RS9 := Lib.hid (RS8.out.keep k9)
            have O9 := Lib.hid hO9
            have AP9 := Lib.hid (show ∀ k, (Value.slice A9 (oo v).2.length c9).ownBlock = some k → k ≠ g1 from fun k hk => by have := (hO9.lt k hk).1; have := RS8.out.low.2; omega)
            obtain ⟨hok, hlen, herr⟩ := OKE.out v
            have OK9 := Lib.hid hok
            clear hO9 k9 b0 b1 b2 hok
            obtain ⟨⟨b0, b1, b2⟩, -⟩ := own_rc RS9.out.oL (set_getW HP.out)
            rcases herr with h0 | h7
            · have NXT := Lib.hid (fun (q : Answ) => @run_next oo av to most p v d S l q HR1.out.rk HP.out HL.out HD.out (by have := H16.out; omega) HVT.out h0 OK9.out)
              rw [h0]
              obtain ⟨es, hes⟩ : ∃ es, (oo v).2 = es := ⟨_, rfl⟩
              rw [hes] at O9 AP9 OK9 NXT hlen ⊢
              obtain ⟨l', hl'⟩ : ∃ l', l.set p ⟨v, d, true⟩ = l' := ⟨_, rfl⟩
              rw [hl'] at RS9 NXT
              have HLEN := Lib.hid hlen
              have e1 : (es.length : Int) ≤ 300 := by omega
              clear hlen h0 hes hl' OV RS8 S1 S2 S3 AT
              go_wp2_with fail
              go_loopw [12, 18] (fun ls t wx => ∃ (j g2 n2 c2 : Nat), j ≤ es.length ∧ t = .int .i64 (j : Int) ∧ ls = .slice (some ⟨g2, 0, none⟩) n2 c2 ∧ n2 ≤ n + j ∧ RunS w wx (S ++ [v]) (folR av d (es.take j) l') v8 g2 n2 c2 ∧ Own wx w8.heap.size 67 4 (.slice A9 es.length c9) es.length (edsC es) ∧ (∀ k, (Value.slice A9 es.length c9).ownBlock = some k → k ≠ g2)) (fun _ t _ => es.length - (intOf t).toNat)
              case atStart => exact ⟨0, g1, n, c, Nat.zero_le _, rfl, rfl, Nat.le_refl _, RS9.out, O9.out, AP9.out⟩
              case round =>
                obtain ⟨j, g2, n2, c2, hj, rfl, rfl, hn2, hR2, hO2, hA2⟩ := hrel
                have R2 := Lib.hid hR2
                have E2 := Lib.hid (And.intro hO2 hA2)
                have N2 := Lib.hid (show n2 ≤ 5200 by have := HNB.out; have := HS.out; have := HLEN.out; omega)
                have N3 := Lib.hid hn2
                clear hR2 hn2 hA2
                by_cases hlt : j < es.length
                · obtain ⟨e, he⟩ : ∃ e, es[j]? = some e := ⟨_, List.getElem?_eq_getElem hlt⟩
                  obtain ⟨ad, hAd, -, hEd⟩ := eds_at hO2.at_ he
                  subst hAd
                  obtain ⟨a0, a1, a2, a3⟩ := hEd
                  have okx := OK9.out e (List.mem_of_getElem? he)
                  have OKX := Lib.hid okx
                  have FN := Lib.hid (folR_next (av := av) (d := d) he l')
                  have j1 : (j : Int) < (es.length : Int) := by omega
                  have HLT := Lib.hid hlt
                  have AD := Lib.hid (fun (W : World) => refAdd_any d e.x (by have := VO.out.2; omega) okx.x W)
                  have AVH := Lib.hid (AVO.out wr R2.out.ks e.h)
                  clear he okx hlt hj hO2 b0 b1 b2
                  by_cases h1 : addB d e.x = true
                  · rw [h1, addV_true h1] at AD
                    have HD2 := Lib.hid (show d + e.x < 9223372036854775808 from by unfold addB far at h1; simpa using h1)
                    obtain ⟨sm, hsm⟩ : ∃ y, d + e.x = y := ⟨_, rfl⟩
                    rw [hsm] at AD HD2 FN
                    cases h2 : av e.h with
                    | true =>
                      rw [h2] at AVH
                      rw [h1, h2] at FN
                      clear h1 h2 hsm
                      go_wp2_with fail
                      refine (AD.out _).mono ?_
                      rintro ee w10 ⟨rfl, rfl⟩
                      go_wp2_with fail
                      refine AVH.out.mono ?_
                      rintro ee w11 ⟨rfl, k11⟩
                      have K11 := Lib.hid k11
                      clear k11 a0 a1 a2 a3
                      go_wp2_with fail
                      go_roundw
                      case rel => exact ⟨j + 1, g2, n2, c2, by have := HLT.out; omega, by go_num, rfl, by have := N3.out; omega, by rw [FN.out]; exact R2.out.keep K11.out, E2.out.1.keep K11.out, E2.out.2⟩
                      case measure => have := HLT.out; simp [intOf]; omega
                    | false =>
                      rw [h2] at AVH
                      rw [h1, h2] at FN
                      clear h1 h2 hsm
                      go_wp2_with fail
                      refine (AD.out _).mono ?_
                      rintro ee w10 ⟨rfl, rfl⟩
                      go_wp2_with fail
                      refine AVH.out.mono ?_
                      rintro ee w11 ⟨rfl, k11⟩
                      have K11 := Lib.hid k11
                      have R3 := Lib.hid (R2.out.keep k11)
                      have y1 := k11.cellOf a1
                      have CM := Lib.hid (rcome_any R3.out.oL R3.out.ks.size R3.out.len (by have := N2.out; omega) e.h sm)
                      clear k11 a0 a1 a2 a3
                      go_wp2_with fail
                      refine CM.out.mono ?_
                      rintro ee w12 ⟨sv12, rfl, hc⟩
                      obtain ⟨g3, n3, c3, rfl, hn3, hR3, t3⟩ := R3.out.come hc OKX.out.h HD2.out
                      have R4 := Lib.hid hR3
                      have O4 := Lib.hid (show Own w12 w8.heap.size 67 4 (.slice (some ad) es.length c9) es.length (edsC es) ∧ (∀ k, (Value.slice (some ad) es.length c9).ownBlock = some k → k ≠ g3) from by
                        have o := E2.out.1.keep K11.out
                        refine ⟨o.same (fun k hk => t3.only.block k (o.lt k hk).2 (E2.out.2 k hk)), fun k hk => ?_⟩
                        rcases t3.next g3 rfl with e | e
                        · rw [e]; exact E2.out.2 k hk
                        · have := (o.lt k hk).2; omega)
                      have N4 := Lib.hid hn3
                      clear hc hn3 hR3 t3 y1
                      go_wp2_with fail
                      go_roundw
                      case rel => exact ⟨j + 1, g3, n3, c3, by have := HLT.out; omega, by go_num, rfl, by have := N3.out; have := N4.out; omega, by rw [FN.out]; exact R4.out, O4.out.1, O4.out.2⟩
                      case measure => have := HLT.out; simp [intOf]; omega
                  · rw [Bool.not_eq_true] at h1
                    rw [h1, addV_false h1] at AD
                    rw [h1] at FN
                    clear h1
                    go_wp2_with fail
                    refine (AD.out _).mono ?_
                    rintro ee w10 ⟨rfl, rfl⟩
                    clear a0 a1 a2 a3
                    go_wp2_with fail
                    go_roundw
                    case rel => exact ⟨j + 1, g2, n2, c2, by have := HLT.out; omega, by go_num, rfl, by have := N3.out; omega, by rw [FN.out]; exact R2.out, E2.out.1, E2.out.2⟩
                    case measure => have := HLT.out; simp [intOf]; omega
                · obtain rfl : j = es.length := by omega
                  have R5 := Lib.hid (show RunS w wr (S ++ [v]) (folR av d es l') v8 g2 n2 c2 from by have := R2.out; rw [List.take_length] at this; exact this)
                  clear hlt hj hO2 b0 b1 b2
                  go_wp2_with fail
                  go_roundw
                  case rel => exact ⟨S ++ [v], folR av d es l', g2, n2, c2, by rw [List.length_append, List.length_singleton]; go_num, by rw [List.length_append, List.length_singleton]; have := H16.out; omega, rfl, by rw [List.length_append, List.length_singleton]; have := N3.out; have := HNB.out; have := HLEN.out; omega, R5.out, fun q hq => HC.out q (NXT.out q hq)⟩
                  case measure => have := H16.out; simp [intOf]; omega
            · have ne7 : (oo v).1 ≠ 0 := by omega
              have FIN := Lib.hid (START.out (S ++ [v], false, (oo v).1) _ w9 RS9.out.oS (HC.out _ (.err HL.out HD.out (by have := H16.out; omega) HVT.out ne7)) RS9.out.ks)
              rw [h7] at FIN ⊢
              clear ne7 h7 hlen
              go_wp2_with fail
              exact FIN.out
end Go.Proofs.Ytkijfbnibfbldaa
