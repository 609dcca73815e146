/- Package pick: foremost's closure, Pick's closure. -/
import Derived.Test.YtdfaogagadoooaaPickH
namespace Go.Proofs.Ytdfaogagadoooaa
open Go.RowKit
set_option linter.unusedSimpArgs false
set_option linter.unusedVariables false
set_option maxRecDepth 100000

theorem meetF_none {F : List (Nat × Cd)} {v : Nat} {c : Cd} (h : lookM F v = none) : meetF F v c = putM F v c := by unfold meetF; rw [h]
theorem meetF_some {F : List (Nat × Cd)} {v : Nat} {c y : Cd} (h : lookM F v = some y) : meetF F v c = if aheadC c.n y.n then putM F v c else F := by unfold meetF; rw [h]
set_option maxHeartbeats 8000000 in
theorem meet_any {w : World} {bf mf : Nat} {F : List (Nat × Cd)} (v : Nat) (c : Cd) (hb : Box w bf 40 #[.map (some mf)]) (hm : MapW u32V ceV w mf (F.map pe)) :
    Calls Try.prog 26 #[.int .u32 (v : Int), .agg #[.int .u32 (c.v : Int), .int .u64 (c.key : Int), .slice c.A c.near.length c.c], .pointer (some ⟨bf, 0, none⟩)] w fun e w' => e = .returned (.tuple #[]) ∧ MapW u32V ceV w' mf ((meetF F v c).map pe) ∧ Only w w' (fun b => b = mf) := by
  have HB := Lib.hid hb
  have HM := Lib.hid hm
  have LK := Lib.hid (look_pe F v)
  have AH := Lib.hid (fun (y : Cd) (W : World) => aheadP_any c y W)
  have PP := Lib.hid (put_pe F v c)
  have BC := Lib.hid (cdBox w 33 c)
  have N0 := Lib.hid (@meetF_none F v c)
  have N1 := Lib.hid (fun (y : Cd) (h : lookM F v = some y) => meetF_some (c := c) h)
  obtain ⟨AN, hAN⟩ : ∃ f : Cd → Bool, f = fun y => aheadC c.n y.n := ⟨_, rfl⟩
  have E := Lib.hid (fun y => show aheadC c.n y.n = AN y by rw [hAN])
  clear hb hm hAN
  obtain ⟨cv, ck, CA, cc, cn⟩ := c
  obtain ⟨q, hq⟩ : ∃ q, cn.length = q := ⟨_, rfl⟩
  have HQ := Lib.hid hq
  have ce : (⟨cv, ck, CA, q, cc⟩ : Ce) = Cd.ce ⟨cv, ck, CA, cc, cn⟩ := by unfold Cd.ce; rw [hq]
  have CE := Lib.hid ce
  simp only at BC ⊢
  rw [hq] at BC ⊢
  clear hq ce
  obtain ⟨R, hR⟩ : ∃ R, meetF F v ⟨cv, ck, CA, cc, cn⟩ = R := ⟨_, rfl⟩
  rw [hR]
  have HR := Lib.hid hR
  clear hR
  have K1 := Lib.hid (keeps_alloc w (.cells #[.int .u32 (cv : Int), .int .u64 (ck : Int), .slice CA q cc] 33))
  have m0 : (w.alloc (.cells #[.int .u32 (cv : Int), .int .u64 (ck : Int), .slice CA q cc] 33)).cell? ⟨bf, 0, none⟩ = some (.map (some mf)) := (HB.out.keep K1.out).cell 0 rfl
  cases hl : lookM F v with
  | none =>
    rw [hl] at LK
    have R1 := Lib.hid (show R = putM F v ⟨cv, ck, CA, cc, cn⟩ by rw [← HR.out, N0.out hl])
    have K2 := Lib.hid (keeps_trans K1.out (keeps_alloc _ (.cells #[.int .u32 0, .int .u64 0, .slice none 0 0] 33)))
    have m1 : ((w.alloc (.cells #[.int .u32 (cv : Int), .int .u64 (ck : Int), .slice CA q cc] 33)).alloc (.cells #[.int .u32 0, .int .u64 0, .slice none 0 0] 33)).cell? ⟨bf, 0, none⟩ = some (.map (some mf)) := (HB.out.keep K2.out).cell 0 rfl
    clear hl
    go_enter Try.func26, Try.ntmps26
    go_wp2_with (first
      | (refine wpList_look2V _ rfl _ _ rfl candT zero_cand mf _ rfl (HM.out.keep K1.out) v rfl (.agg #[.int .u32 0, .int .u64 0, .slice none 0 0]) false (by rw [LK.out]; rfl) (by rw [LK.out]; rfl) ?_)
      | (refine wpList_putV _ rfl _ _ _ rfl candT mf _ rfl (HM.out.keep K2.out) v rfl ⟨cv, ck, CA, q, cc⟩ rfl ?_; intro w5 m5 o5; have M5 := Lib.hid m5; have O5 := Lib.hid o5; clear m5 o5))
    go_returns
    refine ⟨rfl, ?_, ((Only.refl w _).keep K2.out).trans O5.out (fun _ e => .inl e)⟩
    have h1 := M5.out
    rw [CE.out, PP.out] at h1
    rw [R1.out]
    exact h1
  | some y =>
    rw [hl] at LK
    have HN := Lib.hid (N1.out _ hl)
    clear hl
    obtain ⟨yv, yk, YA, yc, yn⟩ := y
    have AY := Lib.hid (AH.out ⟨yv, yk, YA, yc, yn⟩)
    have EY := Lib.hid (E.out ⟨yv, yk, YA, yc, yn⟩)
    obtain ⟨qy, hqy⟩ : ∃ q, yn.length = q := ⟨_, rfl⟩
    unfold cdV at AY
    simp only at AY
    rw [hqy, HQ.out, EY.out] at AY
    generalize AN ⟨yv, yk, YA, yc, yn⟩ = bb at *
    have K2 := Lib.hid (keeps_trans K1.out (keeps_alloc _ (.cells #[.int .u32 (yv : Int), .int .u64 (yk : Int), .slice YA qy yc] 33)))
    have b2 := cdBox (w.alloc (.cells #[.int .u32 (cv : Int), .int .u64 (ck : Int), .slice CA q cc] 33)) 33 ⟨yv, yk, YA, yc, yn⟩
    simp only [World.size_alloc] at b2
    rw [hqy] at b2
    have HQY := Lib.hid hqy
    clear hqy
    obtain ⟨d0, d1, d2⟩ := b2
    have BC2 := BC.out.keep (keeps_alloc _ (.cells #[.int .u32 (yv : Int), .int .u64 (yk : Int), .slice YA qy yc] 33))
    obtain ⟨c0, c1, c2⟩ := BC2
    simp only at c0 c1 c2 d0 d1 d2
    rw [HQ.out] at c2
    rw [HQY.out] at d2
    have SHW := Lib.hid (fun (W : World) (k : Keeps (w.alloc (.cells #[.int .u32 (cv : Int), .int .u64 (ck : Int), .slice CA q cc] 33)) W) => BC.out.keep k)
    cases bb
    · have R1 := Lib.hid (show R = F by rw [← HR.out, HN.out, EY.out]; rfl)
      go_enter Try.func26, Try.ntmps26
      go_wp2_with (first
        | (refine wpList_look2V _ rfl _ _ rfl candT zero_cand mf _ rfl (HM.out.keep K1.out) v rfl (.agg #[.int .u32 (yv : Int), .int .u64 (yk : Int), .slice YA qy yc]) true (by rw [LK.out, ← HQY.out]; rfl) (by rw [LK.out]; rfl) ?_)
        | (go_at_call 21; refine (AY.out _).mono ?_; rintro e w3 ⟨rfl, k3⟩; have K3 := Lib.hid (keeps_trans K2.out k3); clear k3))
      go_returns
      exact ⟨rfl, by rw [R1.out]; exact HM.out.keep K3.out, (Only.refl w _).keep K3.out⟩
    · have R1 := Lib.hid (show R = putM F v ⟨cv, ck, CA, cc, cn⟩ by rw [← HR.out, HN.out, EY.out]; rfl)
      go_enter Try.func26, Try.ntmps26
      go_wp2_with (first
        | (refine wpList_look2V _ rfl _ _ rfl candT zero_cand mf _ rfl (HM.out.keep K1.out) v rfl (.agg #[.int .u32 (yv : Int), .int .u64 (yk : Int), .slice YA qy yc]) true (by rw [LK.out, ← HQY.out]; rfl) (by rw [LK.out]; rfl) ?_)
        | (go_at_call 21; refine (AY.out _).mono ?_; rintro e w3 ⟨rfl, k3⟩; have K3 := Lib.hid (keeps_trans K2.out k3); have m3 : w3.cell? ⟨bf, 0, none⟩ = some (.map (some mf)) := (HB.out.keep K3.out).cell 0 rfl; have B3 := SHW.out w3 (keeps_trans (keeps_alloc _ _) k3); obtain ⟨e0, e1, e2⟩ := B3; simp only at e0 e1 e2; rw [HQ.out] at e2; clear k3)
        | (refine wpList_putV _ rfl _ _ _ rfl candT mf _ rfl (HM.out.keep K3.out) v rfl ⟨cv, ck, CA, q, cc⟩ rfl ?_; intro w5 m5 o5; have M5 := Lib.hid m5; have O5 := Lib.hid o5; clear m5 o5))
      go_returns
      refine ⟨rfl, ?_, ((Only.refl w _).keep K3.out).trans O5.out (fun _ e => .inl e)⟩
      have h1 := M5.out
      rw [CE.out, PP.out] at h1
      rw [R1.out]
      exact h1
theorem pkF_none {F : List (Nat × Cd)} {x : Cd} (h : lookM F x.v = none) : pkF F x = true := by unfold pkF; rw [h]
theorem pkF_some {F : List (Nat × Cd)} {x y : Cd} (h : lookM F x.v = some y) : pkF F x = aheadC x.n y.n := by unfold pkF; rw [h]
set_option maxHeartbeats 8000000 in
theorem picked_any {w : World} {b1 b2 mf ma : Nat} {F : List (Nat × Cd)} {O : List Cd} {x : Cd} (h1 : Box w b1 40 #[.map (some mf)]) (h2 : Box w b2 40 #[.map (some ma)]) (hf : MapW u32V ceV w mf (F.map pe)) (ha : MapW u32V ceV w ma (O.map prD)) (hx : O.find? (fun z => decide (z.v = x.v)) = some x) :
    Calls Try.prog 20 #[.int .u32 (x.v : Int), .pointer (some ⟨b1, 0, none⟩), .pointer (some ⟨b2, 0, none⟩)] w fun e w' => e = .returned (.bool (pkF F x)) ∧ Keeps w w' := by
  have m0 : w.cell? ⟨b1, 0, none⟩ = some (.map (some mf)) := h1.cell 0 rfl
  have LF := Lib.hid (look_pe F x.v)
  have LA := Lib.hid (look_pr O x.v)
  rw [hx] at LA
  have H2 := Lib.hid h2
  have HF := Lib.hid hf
  have HA := Lib.hid ha
  have AH := Lib.hid (fun (y : Cd) (W : World) => aheadP_any x y W)
  have N0 := Lib.hid (@pkF_none F x)
  have N1 := Lib.hid (fun (y : Cd) (h : lookM F x.v = some y) => pkF_some h)
  clear h1 h2 hf ha hx
  obtain ⟨R, hR⟩ : ∃ R, pkF F x = R := ⟨_, rfl⟩
  rw [hR]
  have HR := Lib.hid hR
  clear hR
  cases hl : lookM F x.v with
  | none =>
    rw [hl] at LF
    obtain rfl : R = true := by rw [← HR.out, N0.out hl]
    clear hl
    go_enter Try.func20, Try.ntmps20
    go_wp2_with (refine wpList_look2V _ rfl _ _ rfl candT zero_cand mf _ rfl HF.out x.v rfl (.agg #[.int .u32 0, .int .u64 0, .slice none 0 0]) false (by rw [LF.out]; rfl) (by rw [LF.out]; rfl) ?_)
    go_ret
    exact ⟨rfl, keeps_alloc _ _⟩
  | some y =>
    rw [hl] at LF
    have E := Lib.hid (show aheadC x.n y.n = R by rw [← HR.out, N1.out _ hl])
    clear hl
    have AY := Lib.hid (AH.out y)
    rw [E.out] at AY
    obtain ⟨xv, xk, XA, xc, xn⟩ := x
    obtain ⟨yv, yk, YA, yc, yn⟩ := y
    unfold cdV at AY
    simp only at AY LF LA ⊢
    obtain ⟨q, hq⟩ : ∃ q, xn.length = q := ⟨_, rfl⟩
    obtain ⟨qy, hqy⟩ : ∃ q, yn.length = q := ⟨_, rfl⟩
    rw [hq, hqy] at AY
    have K1 := Lib.hid (keeps_alloc w (.cells #[.int .u32 (yv : Int), .int .u64 (yk : Int), .slice YA qy yc] 33))
    have d := cdBox w 33 ⟨yv, yk, YA, yc, yn⟩
    simp only at d
    rw [hqy] at d
    obtain ⟨d0, d1, d2⟩ := d
    simp only at d0 d1 d2
    rw [hqy] at d2
    have m1 : (w.alloc (.cells #[.int .u32 (yv : Int), .int .u64 (yk : Int), .slice YA qy yc] 33)).cell? ⟨b2, 0, none⟩ = some (.map (some ma)) := (H2.out.keep K1.out).cell 0 rfl
    have LKA := run_lookV candT zero_cand (HA.out.keep K1.out) xv false
    rw [LA.out] at LKA
    have LKB : (Instr.lookup 40 (.map (some ma)) (.int .u32 (xv : Int)) false).run Try.prog (w.alloc (.cells #[.int .u32 (yv : Int), .int .u64 (yk : Int), .slice YA qy yc] 33)) = .ok (.agg #[.int .u32 (xv : Int), .int .u64 (xk : Int), .slice XA q xc]) (w.alloc (.cells #[.int .u32 (yv : Int), .int .u64 (yk : Int), .slice YA qy yc] 33)) := by
      rw [← hq]
      exact LKA
    have HQY := Lib.hid hqy
    clear hq hqy LKA
    go_enter Try.func20, Try.ntmps20
    go_wp2_with (first
      | (refine wpList_look2V _ rfl _ _ rfl candT zero_cand mf _ rfl HF.out xv rfl (.agg #[.int .u32 (yv : Int), .int .u64 (yk : Int), .slice YA qy yc]) true (by rw [LF.out, ← HQY.out]; rfl) (by rw [LF.out]; rfl) ?_)
      | (go_at_call 21; refine (AY.out _).mono ?_; rintro e w3 ⟨rfl, k3⟩; have K3 := Lib.hid (keeps_trans K1.out k3); clear k3))
    go_ret
    exact ⟨rfl, K3.out⟩
end Go.Proofs.Ytdfaogagadoooaa
