/- Layer 15's statements: PrioVerts. -/
import Derived.Test.YtegckdhomkdegaaLawPrio1
namespace Go.Proofs.Ytegckdhomkdegaa
open Go.RowKit
set_option linter.unusedSimpArgs false
set_option linter.unusedVariables false
set_option maxRecDepth 100000

theorem bxW_box (w : World) (a : Tm) (x : Vt) (V : World) (k : Keeps (bxW w a x) V) : Box V w.heap.size 23 #[.int .i64 a.i, .int .i64 a.o, .int .i64 a.s] ∧ Box V (w.heap.size + 1) 26 #[.int .u32 (x.r : Int), .int .u32 (x.l : Int), .int .u32 (x.g : Int)] := by
  have b1 := (Box.new w 23 #[.int .i64 a.i, .int .i64 a.o, .int .i64 a.s]).keep (keeps_alloc _ (.cells #[.int .u32 (x.r : Int), .int .u32 (x.l : Int), .int .u32 (x.g : Int)] 26))
  have b2 := Box.new (w.alloc (.cells #[.int .i64 a.i, .int .i64 a.o, .int .i64 a.s] 23)) 26 #[.int .u32 (x.r : Int), .int .u32 (x.l : Int), .int .u32 (x.g : Int)]
  simp only [World.size_alloc] at b2
  exact ⟨b1.keep k, b2.keep k⟩
/-- three cells of a block -/
theorem Box.three {w : World} {b : Nat} {t : TypeId} {x y z : Value} (h : Box w b t #[x, y, z]) : w.cell? ⟨b, 0, none⟩ = some x ∧ w.cell? ⟨b, 1, none⟩ = some y ∧ w.cell? ⟨b, 2, none⟩ = some z := ⟨h.cell 0 rfl, h.cell 1 rfl, h.cell 2 rfl⟩
/-- two copies of a vertex, one number of each turned -/
def cpW (w1 : World) (x : Vt) : World := (w1.alloc (.cells #[.int .u32 (x.r : Int), .int .u32 (x.l : Int), .int .u32 (x.g : Int)] 26)).alloc (.cells #[.int .u32 (x.r : Int), .int .u32 (x.l : Int), .int .u32 (x.g : Int)] 26)
theorem keyP_gone (i o s : Int) (l g b : Nat) : keyP i o s (l + b) g = keyP i o s l (g + b) := by unfold keyP; congr 1; omega
theorem keyP_more (i o s : Int) (l g b : Nat) : keyP i o s l g ≤ keyP i o s l (g + b) ∧ (keyP i o s l g = 0 ∨ keyP i o s l (g + b) = keyP i o s l g + b) := by unfold keyP; omega
theorem keyP_lt (i o s : Int) (l g : Nat) (hl : l < 4294967296) (hg : g < 4294967296) : keyP i o s l g ≤ 1099511627776 := by
  have h1 := cutP_le i
  have h2 := cutP_le o
  have h3 := cutP_le s
  unfold keyP
  omega

set_option maxHeartbeats 8000000 in
theorem verts15_walk (a : Tm) (x : Vt) (hx : VtOk x) (b : Nat) (hb : b < 4294967296) (w : World) :
    Calls Try.prog 5 #[.agg #[.int .i64 a.i, .int .i64 a.o, .int .i64 a.s], .agg #[.int .u32 (x.r : Int), .int .u32 (x.l : Int), .int .u32 (x.g : Int)], .int .u32 (b : Int)] w (Yes w) := by
  have KK := Lib.hid (fun r l g hl hg => pkey_any a.i a.o a.s r l g hl hg)
  have WW := Lib.hid works15
  have SK := Lib.hid (bxW_at w a x)
  have k0 := Lib.hid (bxW_keeps w a x)
  have BB := Lib.hid (bxW_box w a x)
  have c0 := bxW_at w a x _ (keeps_refl _)
  have hW : bxW w a x = (w.alloc (.cells #[.int .i64 a.i, .int .i64 a.o, .int .i64 a.s] 23)).alloc (.cells #[.int .u32 (x.r : Int), .int .u32 (x.l : Int), .int .u32 (x.g : Int)] 26) := rfl
  have hl := hx.l
  have hg := hx.g
  have hr := hx.r
  clear hx
  obtain ⟨i, o, s⟩ := a
  obtain ⟨r, l, g⟩ := x
  simp only at *
  have K1 := Lib.hid (KK.out r l g hl hg)
  have hR0 := keyP_lt i o s l g hl hg
  obtain ⟨R, hR⟩ : ∃ R, keyP i o s l g = R := ⟨_, rfl⟩
  have HR := Lib.hid hR
  rw [hR] at K1 hR0
  clear hR
  go_enter Try.func5, Try.ntmps5
  go_wp2_with fail
  rw [← hW]
  generalize bxW w ⟨i, o, s⟩ ⟨r, l, g⟩ = W at *
  clear hW
  unfold BxAt at *
  simp only at *
  obtain ⟨⟨q0, q1, q2⟩, q3, q4, q5⟩ := c0
  go_wp2_with fail
  refine (K1.out _).mono ?_
  rintro e w1 ⟨rfl, k1⟩
  obtain ⟨⟨q0, q1, q2⟩, q3, q4, q5⟩ := SK.out _ k1
  have kk1 := keeps_trans k0.out k1
  have lt1 := k1.size
  have lt0 : w.heap.size + 1 < W.heap.size := (BB.out _ (keeps_refl _)).2.lt
  have X1 : Box (w1.alloc (.cells #[.int .u32 (r : Int), .int .u32 (l : Int), .int .u32 (g : Int)] 26)) w1.heap.size 26 #[.int .u32 (r : Int), .int .u32 (l : Int), .int .u32 (g : Int)] := Box.new _ _ _
  have kA := keeps_alloc w1 (.cells #[.int .u32 (r : Int), .int .u32 (l : Int), .int .u32 (g : Int)] 26)
  have kB := keeps_alloc (w1.alloc (.cells #[.int .u32 (r : Int), .int .u32 (l : Int), .int .u32 (g : Int)] 26)) (.cells #[.int .u32 (r : Int), .int .u32 (l : Int), .int .u32 (g : Int)] 26)
  obtain ⟨-, a0, a1, a2⟩ := SK.out _ (keeps_trans k1 kA)
  have hE : cpW w1 ⟨r, l, g⟩ = (w1.alloc (.cells #[.int .u32 (r : Int), .int .u32 (l : Int), .int .u32 (g : Int)] 26)).alloc (.cells #[.int .u32 (r : Int), .int .u32 (l : Int), .int .u32 (g : Int)] 26) := rfl
  have X2 := X1.keep kB
  have X3 := Box.new (w1.alloc (.cells #[.int .u32 (r : Int), .int .u32 (l : Int), .int .u32 (g : Int)] 26)) 26 #[.int .u32 (r : Int), .int .u32 (l : Int), .int .u32 (g : Int)]
  simp only [World.size_alloc] at X3
  have K3 := keeps_trans k1 (keeps_trans kA kB)
  have KC := Lib.hid (keeps_trans kk1 (keeps_trans kA kB))
  rw [← hE] at X2 X3 K3 KC
  have HE := Lib.hid hE
  clear hE kA kB X1
  obtain ⟨PB3, QB3⟩ := BB.out _ K3
  obtain ⟨⟨p0, p1, p2⟩, p3, p4, p5⟩ := SK.out _ K3
  have WX := Lib.hid (show ∀ (e : Ending) (w9 : World), Yes (cpW w1 ⟨r, l, g⟩) e w9 → Yes w e w9 from fun e w9 h => ⟨h.1, keeps_trans KC.out h.2⟩)
  have wb : IntKind.u32.wrap ((4294967295 : Int) - (b : Int)) = (4294967295 : Int) - (b : Int) := by rw [IntKind.wrap_u32]; omega
  by_cases h1 : 4294967295 < g + b
  · have d1 : decide ((4294967295 : Int) - (b : Int) < (g : Int)) = true := decide_eq_true (by omega)
    clear h1 hb hl hg hr hR0
    go_wp2_with (rw [← HE.out])
    refine (WW.out _).mono ?_
    rintro e w9 ⟨rfl, k9⟩
    go_wp2_with fail
    go_ret
    exact WX.out _ _ ⟨rfl, k9⟩
  · have d1 : decide ((4294967295 : Int) - (b : Int) < (g : Int)) = false := decide_eq_false (by omega)
    by_cases h2 : 4294967295 < l + b
    · have d2 : decide ((4294967295 : Int) - (b : Int) < (l : Int)) = true := decide_eq_true (by omega)
      clear h1 h2 hb hl hg hr hR0
      go_wp2_with (rw [← HE.out])
      refine (WW.out _).mono ?_
      rintro e w9 ⟨rfl, k9⟩
      go_wp2_with fail
      go_ret
      exact WX.out _ _ ⟨rfl, k9⟩
    · have d2 : decide ((4294967295 : Int) - (b : Int) < (l : Int)) = false := decide_eq_false (by omega)
      have K4 := KK.out r l (g + b) hl (by omega)
      have K5 := KK.out r (l + b) g (by omega) hg
      rw [keyP_gone] at K5
      obtain ⟨m1, m2⟩ := keyP_more i o s l g b
      rw [HR.out] at m1 m2
      obtain ⟨M, hM⟩ : ∃ M, keyP i o s l (g + b) = M := ⟨_, rfl⟩
      rw [hM] at K4 K5 m1 m2
      rw [show ((g + b : Nat) : Int) = (g : Int) + (b : Int) from Int.natCast_add g b] at K4
      rw [show ((l + b : Nat) : Int) = (l : Int) + (b : Int) from Int.natCast_add l b] at K5
      have K4 := Lib.hid K4
      have K5 := Lib.hid K5
      have lt2 : w.heap.size + 1 < w1.heap.size := by omega
      have HM2 := Lib.hid m2
      have wg : IntKind.u32.wrap ((g : Int) + (b : Int)) = (g : Int) + (b : Int) := by rw [IntKind.wrap_u32]; omega
      have wl : IntKind.u32.wrap ((l : Int) + (b : Int)) = (l : Int) + (b : Int) := by rw [IntKind.wrap_u32]; omega
      have f3 := X2.frozen 2
      obtain ⟨-, -, x22⟩ := X2.three
      obtain ⟨-, x31, -⟩ := X3.three
      have Y4 : Box ((cpW w1 ⟨r, l, g⟩).setCell ⟨w1.heap.size, 2, none⟩ (.int .u32 ((g : Int) + (b : Int)))) w1.heap.size 26 #[.int .u32 (r : Int), .int .u32 (l : Int), .int .u32 ((g : Int) + (b : Int))] := X2.set 2 _
      have Z4 := X3.far (p := ⟨w1.heap.size, 2, none⟩) (by show w1.heap.size + 1 ≠ w1.heap.size; omega) (.int .u32 ((g : Int) + (b : Int)))
      have P4 := PB3.far (p := ⟨w1.heap.size, 2, none⟩) (by show w.heap.size ≠ w1.heap.size; omega) (.int .u32 ((g : Int) + (b : Int)))
      have Q4 := QB3.far (p := ⟨w1.heap.size, 2, none⟩) (by show w.heap.size + 1 ≠ w1.heap.size; omega) (.int .u32 ((g : Int) + (b : Int)))
      obtain ⟨-, q41, -⟩ := Q4.three
      have f4 := Z4.frozen 1
      have Y5 := Y4.far (p := ⟨w1.heap.size + 1, 1, none⟩) (by show w1.heap.size ≠ w1.heap.size + 1; omega) (.int .u32 ((l : Int) + (b : Int)))
      have Z5 : Box (((cpW w1 ⟨r, l, g⟩).setCell ⟨w1.heap.size, 2, none⟩ (.int .u32 ((g : Int) + (b : Int)))).setCell ⟨w1.heap.size + 1, 1, none⟩ (.int .u32 ((l : Int) + (b : Int)))) (w1.heap.size + 1) 26 #[.int .u32 (r : Int), .int .u32 ((l : Int) + (b : Int)), .int .u32 (g : Int)] := Z4.set 1 _
      have P5 := P4.far (p := ⟨w1.heap.size + 1, 1, none⟩) (by show w.heap.size ≠ w1.heap.size + 1; omega) (.int .u32 ((l : Int) + (b : Int)))
      have KF : Keeps w (((cpW w1 ⟨r, l, g⟩).setCell ⟨w1.heap.size, 2, none⟩ (.int .u32 ((g : Int) + (b : Int)))).setCell ⟨w1.heap.size + 1, 1, none⟩ (.int .u32 ((l : Int) + (b : Int)))) := (KC.out.setCell (p := ⟨w1.heap.size, 2, none⟩) (by show w.heap.size ≤ w1.heap.size; omega) _).setCell (p := ⟨w1.heap.size + 1, 1, none⟩) (by show w.heap.size ≤ w1.heap.size + 1; omega) _
      have HKF := Lib.hid KF
      have HY := Lib.hid Y5
      have HZ := Lib.hid Z5
      have HP := Lib.hid P5
      obtain ⟨y0, y1, y2⟩ := Y5.three
      obtain ⟨u0, u1, u2⟩ := P5.three
      have HB := Lib.hid hb
      have HR0 := Lib.hid hR0
      clear KF Y5 Z5 P5 Y4 Z4 P4 Q4 PB3 QB3 X2 X3 hM m2 hb hl hg hr h1 h2 hR0 WX kk1 lt1 lt0 lt2 K3
      go_wp2_with (rw [← HE.out])
      refine (K4.out _).mono ?_
      rintro e w6 ⟨rfl, k6⟩
      obtain ⟨z0, z1, z2⟩ := (HZ.out.keep k6).three
      obtain ⟨v0, v1, v2⟩ := (HP.out.keep k6).three
      go_wp2_with fail
      refine (K5.out _).mono ?_
      rintro e w7 ⟨rfl, k7⟩
      clear wb wg wl d1 d2
      have FF := Lib.hid (fun w8 (k8 : Keeps w7 w8) => keeps_trans HKF.out (keeps_trans k6 (keeps_trans k7 k8)))
      have d5 : decide ((M : Int) < (R : Int)) = false := decide_eq_false (by omega)
      have d5n : decide (M < R) = false := decide_eq_false (by omega)
      rcases HM2.out with hR0 | hMR
      · have hR1 : R = 0 := by omega
        subst hR1
        go_wp2_with fail
        refine (WW.out _).mono ?_
        rintro e w8 ⟨rfl, k8⟩
        go_wp2_with fail
        go_ret
        exact ⟨rfl, FF.out _ k8⟩
      · by_cases hz : R = 0
        · subst hz
          go_wp2_with fail
          refine (WW.out _).mono ?_
          rintro e w8 ⟨rfl, k8⟩
          go_wp2_with fail
          go_ret
          exact ⟨rfl, FF.out _ k8⟩
        · subst hMR
          have dz : ((R : Int) == 0) = false := by simp; omega
          have wbb : IntKind.u64.wrap (b : Int) = (b : Int) := by have := HB.out; rw [IntKind.wrap_u64]; omega
          have ws : IntKind.u64.wrap ((R : Int) + (b : Int)) = (R : Int) + (b : Int) := by have := HR0.out; have := HB.out; rw [IntKind.wrap_u64]; omega
          go_wp2_with fail
          refine (WW.out _).mono ?_
          rintro e w8 ⟨rfl, k8⟩
          go_wp2_with fail
          go_ret
          exact ⟨rfl, FF.out _ k8⟩
end Go.Proofs.Ytegckdhomkdegaa
