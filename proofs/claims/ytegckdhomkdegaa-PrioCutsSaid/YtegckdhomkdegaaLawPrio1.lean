/- Layer 15's statements: PrioKeys, PrioCuts. -/
import Derived.Test.YtegckdhomkdegaaPrio
import Derived.Test.YtegckdhomkdegaaVt
import Derived.Test.YtegckdhomkdegaaOpenTerms
namespace Go.Proofs.Ytegckdhomkdegaa
open Go.RowKit
set_option linter.unusedSimpArgs false
set_option linter.unusedVariables false
set_option maxRecDepth 100000

/-- the two arguments in boxes -/
def bxW (w : World) (a : Tm) (x : Vt) : World := (w.alloc (.cells #[.int .i64 a.i, .int .i64 a.o, .int .i64 a.s] 23)).alloc (.cells #[.int .u32 (x.r : Int), .int .u32 (x.l : Int), .int .u32 (x.g : Int)] 26)
def BxAt (V : World) (k : Nat) (a : Tm) (x : Vt) : Prop := (V.cell? ⟨k, 0, none⟩ = some (.int .i64 a.i) ∧ V.cell? ⟨k, 1, none⟩ = some (.int .i64 a.o) ∧ V.cell? ⟨k, 2, none⟩ = some (.int .i64 a.s)) ∧ V.cell? ⟨k + 1, 0, none⟩ = some (.int .u32 (x.r : Int)) ∧ V.cell? ⟨k + 1, 1, none⟩ = some (.int .u32 (x.l : Int)) ∧ V.cell? ⟨k + 1, 2, none⟩ = some (.int .u32 (x.g : Int))
theorem bxW_at (w : World) (a : Tm) (x : Vt) (V : World) (k : Keeps (bxW w a x) V) : BxAt V w.heap.size a x := by
  have b1 := (Box.new w 23 #[.int .i64 a.i, .int .i64 a.o, .int .i64 a.s]).keep (keeps_alloc _ (.cells #[.int .u32 (x.r : Int), .int .u32 (x.l : Int), .int .u32 (x.g : Int)] 26))
  have b2 := Box.new (w.alloc (.cells #[.int .i64 a.i, .int .i64 a.o, .int .i64 a.s] 23)) 26 #[.int .u32 (x.r : Int), .int .u32 (x.l : Int), .int .u32 (x.g : Int)]
  simp only [World.size_alloc] at b2
  replace b1 := b1.keep k
  replace b2 := b2.keep k
  exact ⟨⟨b1.cell 0 rfl, b1.cell 1 rfl, b1.cell 2 rfl⟩, b2.cell 0 rfl, b2.cell 1 rfl, b2.cell 2 rfl⟩
theorem bxW_keeps (w : World) (a : Tm) (x : Vt) : Keeps w (bxW w a x) := keeps_trans (keeps_alloc _ _) (keeps_alloc _ _)

set_option maxHeartbeats 8000000 in
theorem keys15_walk (a : Tm) (x : Vt) (hx : VtOk x) (w : World) :
    Calls Try.prog 3 #[.agg #[.int .i64 a.i, .int .i64 a.o, .int .i64 a.s], .agg #[.int .u32 (x.r : Int), .int .u32 (x.l : Int), .int .u32 (x.g : Int)]] w (Yes w) := by
  have K1 := Lib.hid (pkey_any a.i a.o a.s x.r x.l x.g hx.l hx.g)
  have K2 := Lib.hid (rkey_any a.i a.o a.s x.r x.l x.g hx.l hx.g)
  have WW := Lib.hid works15
  have SK := Lib.hid (bxW_at w a x)
  have k0 := Lib.hid (bxW_keeps w a x)
  have c0 := bxW_at w a x _ (keeps_refl _)
  have hW : bxW w a x = (w.alloc (.cells #[.int .i64 a.i, .int .i64 a.o, .int .i64 a.s] 23)).alloc (.cells #[.int .u32 (x.r : Int), .int .u32 (x.l : Int), .int .u32 (x.g : Int)] 26) := rfl
  clear hx
  obtain ⟨i, o, s⟩ := a
  obtain ⟨r, l, g⟩ := x
  simp only at *
  obtain ⟨R, hR⟩ : ∃ R, keyP i o s l g = R := ⟨_, rfl⟩
  rw [hR] at K1 K2
  clear hR
  go_enter Try.func3, Try.ntmps3
  go_wp2_with fail
  rw [← hW]
  generalize bxW w ⟨i, o, s⟩ ⟨r, l, g⟩ = W at *
  clear hW
  unfold BxAt at *
  simp only at *
  go_region_held3 (fun V => (V.cell? ⟨w.heap.size, 0, none⟩ = some (.int .i64 i) ∧ V.cell? ⟨w.heap.size, 1, none⟩ = some (.int .i64 o) ∧ V.cell? ⟨w.heap.size, 2, none⟩ = some (.int .i64 s)) ∧ V.cell? ⟨w.heap.size + 1, 0, none⟩ = some (.int .u32 (r : Int)) ∧ V.cell? ⟨w.heap.size + 1, 1, none⟩ = some (.int .u32 (l : Int)) ∧ V.cell? ⟨w.heap.size + 1, 2, none⟩ = some (.int .u32 (g : Int))) (first | assumption | exact SK.out _ (keeps_drew _)) (first
    | (go_at_call 10; refine (WW.out _).mono ?_; rintro ee w3 ⟨rfl, k3⟩; have kk3 := keeps_trans kk2 k3; have s3 := SK.out _ kk3)
    | (go_at_call 9; refine (K2.out _).mono ?_; rintro ee w2 ⟨rfl, k2⟩; have kk2 := keeps_trans kk1 k2; have s2 := SK.out _ kk2)
    | (go_at_call 8; refine (K1.out _).mono ?_; rintro ee w1 ⟨rfl, k1⟩; have kk1 := keeps_trans (keeps_drew _) k1; have s1 := SK.out _ kk1))
  go_wp2_with fail
  go_ret
  exact ⟨rfl, keeps_trans k0.out kk3⟩
set_option maxHeartbeats 8000000 in
theorem cuts15_walk (a : Tm) (x : Vt) (hx : VtOk x) (w : World) :
    Calls Try.prog 6 #[.agg #[.int .i64 a.i, .int .i64 a.o, .int .i64 a.s], .agg #[.int .u32 (x.r : Int), .int .u32 (x.l : Int), .int .u32 (x.g : Int)]] w (Yes w) := by
  have K1 := Lib.hid (pkey_any a.i a.o a.s x.r x.l x.g hx.l hx.g)
  have K2 := Lib.hid (pkey_any (cutP a.i) (cutP a.o) (cutP a.s) x.r x.l x.g hx.l hx.g)
  have CC := Lib.hid lcut_any
  have WW := Lib.hid works15
  have SK := Lib.hid (bxW_at w a x)
  have k0 := Lib.hid (bxW_keeps w a x)
  have c0 := bxW_at w a x _ (keeps_refl _)
  have hW : bxW w a x = (w.alloc (.cells #[.int .i64 a.i, .int .i64 a.o, .int .i64 a.s] 23)).alloc (.cells #[.int .u32 (x.r : Int), .int .u32 (x.l : Int), .int .u32 (x.g : Int)] 26) := rfl
  clear hx
  obtain ⟨i, o, s⟩ := a
  obtain ⟨r, l, g⟩ := x
  simp only at *
  obtain ⟨R, hR⟩ : ∃ R, keyP i o s l g = R := ⟨_, rfl⟩
  have hR2 : keyP (cutP i) (cutP o) (cutP s) l g = R := by rw [← hR]; unfold keyP; simp only [cutP_cutP]
  rw [hR] at K1
  rw [hR2] at K2
  clear hR2
  clear hR
  go_enter Try.func6, Try.ntmps6
  go_wp2_with fail
  rw [← hW]
  generalize bxW w ⟨i, o, s⟩ ⟨r, l, g⟩ = W at *
  clear hW
  unfold BxAt at *
  simp only at *
  go_region_held3 (fun V => (V.cell? ⟨w.heap.size, 0, none⟩ = some (.int .i64 i) ∧ V.cell? ⟨w.heap.size, 1, none⟩ = some (.int .i64 o) ∧ V.cell? ⟨w.heap.size, 2, none⟩ = some (.int .i64 s)) ∧ V.cell? ⟨w.heap.size + 1, 0, none⟩ = some (.int .u32 (r : Int)) ∧ V.cell? ⟨w.heap.size + 1, 1, none⟩ = some (.int .u32 (l : Int)) ∧ V.cell? ⟨w.heap.size + 1, 2, none⟩ = some (.int .u32 (g : Int))) (first | assumption | exact SK.out _ (keeps_drew _)) (first
    | (go_at_call 10; refine (WW.out _).mono ?_; rintro ee w3 ⟨rfl, k3⟩; have kk3 := keeps_trans kk2 k3; have s3 := SK.out _ kk3)
    | (go_at_call 8; have kk := kk1; clear kk; refine (K2.out _).mono ?_; rintro ee w2 ⟨rfl, k2⟩; have kk2 := keeps_trans kk1 k2; have s2 := SK.out _ kk2)
    | (go_at_call 8; refine (K1.out _).mono ?_; rintro ee w1 ⟨rfl, k1⟩; have kk1 := keeps_trans (keeps_drew _) k1; have s1 := SK.out _ kk1)
    | (go_at_call 12; refine (CC.out _ _).mono ?_; rintro ee w2 ⟨rfl, rfl⟩))
  go_wp2_with fail
  go_ret
  exact ⟨rfl, keeps_trans k0.out kk3⟩
end Go.Proofs.Ytegckdhomkdegaa
