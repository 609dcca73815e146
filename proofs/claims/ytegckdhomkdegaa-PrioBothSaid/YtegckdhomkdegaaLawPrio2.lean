/- Layer 15's statements: PrioBoth. -/
import Derived.Test.YtegckdhomkdegaaLawPrio1
namespace Go.Proofs.Ytegckdhomkdegaa
open Go.RowKit
set_option linter.unusedSimpArgs false
set_option linter.unusedVariables false
set_option maxRecDepth 100000

theorem keyP_turn (i o s : Int) (l g : Nat) : keyP o i s l g = keyP i o s l g := by unfold keyP; congr 1; omega
theorem keyP_move {i o s : Int} {l g : Nat} {b : Int} (hi : 0 ≤ i) (hi' : i < 1048576) (hb : 0 ≤ b) (hb' : b < 65536) (ho : b ≤ o) (ho' : o < 1048576) : keyP (i + b) (o - b) s l g = keyP i o s l g := by
  unfold keyP
  rw [cutP_self (show 0 ≤ i + b by omega) (by omega), cutP_self (show 0 ≤ o - b by omega) (by omega), cutP_self hi (by omega), cutP_self (show 0 ≤ o by omega) (by omega)]
  congr 1
  omega

set_option maxHeartbeats 8000000 in
theorem both15_walk (a : Tm) (x : Vt) (hx : VtOk x) (b : Nat) (hb : b < 65536) (w : World) :
    Calls Try.prog 7 #[.agg #[.int .i64 a.i, .int .i64 a.o, .int .i64 a.s], .agg #[.int .u32 (x.r : Int), .int .u32 (x.l : Int), .int .u32 (x.g : Int)], .int .u16 (b : Int)] w (Yes w) := by
  have KK := Lib.hid (fun i o s => pkey_any i o s x.r x.l x.g hx.l hx.g)
  have WW := Lib.hid works15
  have SK := Lib.hid (bxW_at w a x)
  have k0 := Lib.hid (bxW_keeps w a x)
  have c0 := bxW_at w a x _ (keeps_refl _)
  have hW : bxW w a x = (w.alloc (.cells #[.int .i64 a.i, .int .i64 a.o, .int .i64 a.s] 23)).alloc (.cells #[.int .u32 (x.r : Int), .int .u32 (x.l : Int), .int .u32 (x.g : Int)] 26) := rfl
  clear hx
  obtain ⟨i, o, s⟩ := a
  obtain ⟨r, l, g⟩ := x
  simp only at *
  have K1 := Lib.hid (KK.out i o s)
  have K2 := Lib.hid (KK.out o i s)
  rw [keyP_turn] at K2
  obtain ⟨R, hR⟩ : ∃ R, keyP i o s l g = R := ⟨_, rfl⟩
  rw [hR] at K1 K2
  clear hR
  go_enter Try.func7, Try.ntmps7
  go_wp2_with fail
  rw [← hW]
  generalize bxW w ⟨i, o, s⟩ ⟨r, l, g⟩ = W at *
  clear hW
  unfold BxAt at *
  simp only at *
  obtain ⟨⟨q0, q1, q2⟩, q3, q4, q5⟩ := c0
  go_wp2_with fail
  refine (K1.out _).mono ?_
  rintro e w1 ⟨rfl, k1⟩
  obtain ⟨⟨q0, q1, q2⟩, q3, q4, q5⟩ := SK.out _ k1
  go_wp2_with fail
  refine (K2.out _).mono ?_
  rintro e w2 ⟨rfl, k2⟩
  have kk2 := keeps_trans k1 k2
  obtain ⟨⟨q0, q1, q2⟩, q3, q4, q5⟩ := SK.out _ kk2
  go_wp2_with fail
  · refine (WW.out _).mono ?_
    rintro e w3 ⟨rfl, k3⟩
    go_wp2_with fail
    go_ret
    exact ⟨rfl, keeps_trans k0.out (keeps_trans kk2 k3)⟩
  · have hI : i.tmod 1048576 < 1048576 := Int.tmod_lt_of_pos _ (by omega)
    have hO : o.tmod 1048576 < 1048576 := Int.tmod_lt_of_pos _ (by omega)
    obtain ⟨I, hI'⟩ : ∃ I, i.tmod 1048576 = I := ⟨_, rfl⟩
    obtain ⟨O, hO'⟩ : ∃ O, o.tmod 1048576 = O := ⟨_, rfl⟩
    simp only [hI', hO'] at *
    rename_i hI0 hbO
    have K3 := Lib.hid (KK.out I O s)
    have K4 := Lib.hid (KK.out (I + b) (O - b) s)
    rw [keyP_move hbO.1 hI (by omega) (by omega) hbO.2 hO] at K4
    obtain ⟨M, hM⟩ : ∃ M, keyP I O s l g = M := ⟨_, rfl⟩
    rw [hM] at K3 K4
    have WB := Lib.hid (show IntKind.i64.wrap (b : Int) = (b : Int) by rw [IntKind.wrap_i64]; omega)
    have WI := Lib.hid (show IntKind.i64.wrap (I + b) = I + b by rw [IntKind.wrap_i64]; omega)
    have WO := Lib.hid (show IntKind.i64.wrap (O - b) = O - b by rw [IntKind.wrap_i64]; omega)
    clear hM hI' hO' K1 K2 KK q0 q1
    go_region_held3 (fun V => V.cell? ⟨w.heap.size, 2, none⟩ = some (.int .i64 s) ∧ V.cell? ⟨w.heap.size + 1, 0, none⟩ = some (.int .u32 (r : Int)) ∧ V.cell? ⟨w.heap.size + 1, 1, none⟩ = some (.int .u32 (l : Int)) ∧ V.cell? ⟨w.heap.size + 1, 2, none⟩ = some (.int .u32 (g : Int))) (first | exact ⟨q2, q3, q4, q5⟩ | assumption | exact ⟨(SK.out _ (keeps_trans kk2 (keeps_drew _))).1.2.2, (SK.out _ (keeps_trans kk2 (keeps_drew _))).2⟩) (first
      | (go_at_call 10; refine (WW.out _).mono ?_; rintro ee w5 ⟨rfl, k5⟩; have kk5 := keeps_trans kk4 k5; have s5 := And.intro (SK.out _ kk5).1.2.2 (SK.out _ kk5).2)
      | (go_at_call 8; have kk := kk3; clear kk; simp only [WB.out, WI.out, WO.out]; refine (K4.out _).mono ?_; rintro ee w4 ⟨rfl, k4⟩; have kk4 := keeps_trans kk3 k4; have s4 := And.intro (SK.out _ kk4).1.2.2 (SK.out _ kk4).2)
      | (go_at_call 8; refine (K3.out _).mono ?_; rintro ee w3 ⟨rfl, k3⟩; have kk3 := keeps_trans (keeps_trans kk2 (keeps_drew _)) k3; have s3 := And.intro (SK.out _ kk3).1.2.2 (SK.out _ kk3).2))
    go_wp2_with fail
    go_ret
    exact ⟨rfl, keeps_trans k0.out kk5⟩
  · refine (WW.out _).mono ?_
    rintro e w3 ⟨rfl, k3⟩
    go_wp2_with fail
    go_ret
    exact ⟨rfl, keeps_trans k0.out (keeps_trans kk2 k3)⟩
end Go.Proofs.Ytegckdhomkdegaa
