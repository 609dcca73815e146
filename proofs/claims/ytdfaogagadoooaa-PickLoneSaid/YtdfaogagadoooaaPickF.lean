/- Chapter 16: the laws' same, works. -/
import Derived.Test.YtdfaogagadoooaaPickE
namespace Go.Proofs.Ytdfaogagadoooaa
open Go.RowKit
set_option linter.unusedSimpArgs false
set_option linter.unusedVariables false
set_option maxRecDepth 100000

theorem n_get {l l' : List Cd} (h : l'.map Cd.n = l.map Cd.n) {k : Nat} {x : Cd} (hx : l[k]? = some x) : ∃ y, l'[k]? = some y ∧ y.n = x.n := by
  have h1 : (l'.map Cd.n)[k]? = some x.n := by rw [h, List.getElem?_map, hx]; rfl
  rw [List.getElem?_map] at h1
  obtain ⟨y, hy, e⟩ := Option.map_eq_some_iff.1 h1
  exact ⟨y, hy, e⟩
set_option maxHeartbeats 16000000 in
theorem same16_yes (A B : Option Addr) (n c m d : Nat) (l l' : List Cd) (w : World) (hl : CdsAt w A l) (hl' : CdsAt w B l') (hn : n = l.length) (hm : m = l'.length) (h1 : n ≤ 1000) (hnear : ∀ x ∈ l, x.near.length ≤ 100000) (he : l'.map Cd.n = l.map Cd.n) :
    Calls Try.prog 15 #[.slice A n c, .slice B m d] w (Yes w) := by
  have hmn : m = n := by
    have := congrArg List.length he
    rw [List.length_map, List.length_map] at this
    omega
  subst hmn
  have HL := Lib.hid hl
  have HL2 := Lib.hid hl'
  have HN := Lib.hid hn
  have HM := Lib.hid h1
  have HE := Lib.hid he
  have NR := Lib.hid hnear
  clear hl hl' hn hm h1 he hnear
  go_enter Try.func15, Try.ntmps15
  go_wp2_with fail
  go_loopw [5] (fun i wr => ∃ k : Nat, k ≤ m ∧ i = .int .i64 k ∧ Keeps w wr) (fun i _ => m - (intOf i).toNat)
  case atStart => exact ⟨0, Nat.zero_le _, rfl, keeps_refl _⟩
  case round =>
    obtain ⟨k, hk, rfl, hkp⟩ := hrel
    have HK := Lib.hid hkp
    clear hkp
    by_cases hlt : k < m
    · obtain ⟨x, hx⟩ : ∃ x, l[k]? = some x := ⟨_, List.getElem?_eq_getElem (by have := HN.out; omega)⟩
      obtain ⟨y, hy, hyn⟩ := n_get HE.out hx
      obtain ⟨ad, hA, -, hXd⟩ := cds_at HL.out.cells hx
      obtain ⟨ae, hB, -, hYd⟩ := cds_at HL2.out.cells hy
      subst hA
      subst hB
      have XO := Lib.hid (HL.out.ok x (List.mem_of_getElem? hx))
      have YO := Lib.hid (HL2.out.ok y (List.mem_of_getElem? hy))
      have XN := Lib.hid (NR.out x (List.mem_of_getElem? hx))
      have hkn : (k : Int) < (m : Int) := by omega
      have hk0 : (0 : Int) ≤ (k : Int) := by omega
      have hn3 : (m : Int) ≤ 1000 := by have := HM.out; omega
      have HI := Lib.hid hlt
      obtain ⟨xv, xk, XA, xc, xn⟩ := x
      obtain ⟨yv, yk, YA, yc, yn⟩ := y
      simp only [Cd.n, Cn.mk.injEq] at hyn
      obtain ⟨rfl, rfl, rfl⟩ := hyn
      have SD := Lib.hid (show ∀ W : World, Keeps w W → (W.cell? (ad.add (k * 3)) = some (.int .u32 (yv : Int)) ∧ W.cell? ⟨(ad.add (k * 3)).block, (ad.add (k * 3)).off + 1, none⟩ = some (.int .u64 (yk : Int)) ∧ W.cell? ⟨(ad.add (k * 3)).block, (ad.add (k * 3)).off + 2, none⟩ = some (.slice XA yn.length xc)) ∧ (W.cell? (ae.add (k * 3)) = some (.int .u32 (yv : Int)) ∧ W.cell? ⟨(ae.add (k * 3)).block, (ae.add (k * 3)).off + 1, none⟩ = some (.int .u64 (yk : Int)) ∧ W.cell? ⟨(ae.add (k * 3)).block, (ae.add (k * 3)).off + 2, none⟩ = some (.slice YA yn.length yc)) from fun W kW => ⟨hXd.keep kW, hYd.keep kW⟩)
      have EQ := Lib.hid (fun (W : World) (kW : Keeps w W) => by
        have h := eq16_any XA YA yn.length xc yn.length yc yn yn W (XO.out.keep kW).at_ (YO.out.keep kW).at_ rfl rfl (by have := XN.out; simp only at this; omega) (by have := XN.out; simp only at this; omega)
        rw [decide_eq_true (rfl : yn = yn)] at h
        exact h)
      obtain ⟨s0, s1⟩ := SD.out wr HK.out
      clear hx hy hXd hYd hlt hk
      go_wp2_with fail
      go_region_held3 (fun W => (W.cell? (ad.add (k * 3)) = some (.int .u32 (yv : Int)) ∧ W.cell? ⟨(ad.add (k * 3)).block, (ad.add (k * 3)).off + 1, none⟩ = some (.int .u64 (yk : Int)) ∧ W.cell? ⟨(ad.add (k * 3)).block, (ad.add (k * 3)).off + 2, none⟩ = some (.slice XA yn.length xc)) ∧ (W.cell? (ae.add (k * 3)) = some (.int .u32 (yv : Int)) ∧ W.cell? ⟨(ae.add (k * 3)).block, (ae.add (k * 3)).off + 1, none⟩ = some (.int .u64 (yk : Int)) ∧ W.cell? ⟨(ae.add (k * 3)).block, (ae.add (k * 3)).off + 2, none⟩ = some (.slice YA yn.length yc))) (first | assumption | exact SD.out _ (keeps_trans HK.out (keeps_drew _))) (first
        | (go_at_call 13; refine (EQ.out _ (keeps_trans HK.out (keeps_drew _))).mono ?_; rintro ee w5 ⟨rfl, k5⟩; have k6 := keeps_trans (keeps_trans HK.out (keeps_drew _)) k5; have s5 := SD.out _ k6))
      have K6 := Lib.hid k6
      clear s0 s1 s5 k5 k6
      go_wp2_with fail
      go_roundw
      case rel => exact ⟨k + 1, by have := HI.out; omega, by go_num, K6.out⟩
      case measure => have := HI.out; simp [intOf]; omega
    · have hkn : ¬ ((k : Int) < (m : Int)) := by omega
      clear hlt hk
      go_wp2_with fail
      go_ret
      exact ⟨rfl, HK.out⟩

/-! ### works -/
theorem works_pick : IsPick [⟨1, 5, [2]⟩, ⟨2, 4, []⟩, ⟨3, 9, [9]⟩] [2, 3] := by
  have h := pickS_is [⟨1, 5, [2]⟩, ⟨2, 4, []⟩, ⟨3, 9, [9]⟩]
  exact h
def wkL (b : Nat) : List Cd := [⟨1, 5, some ⟨b, 0, none⟩, 1, [2]⟩, ⟨2, 4, none, 0, []⟩, ⟨3, 9, some ⟨b + 1, 0, none⟩, 1, [9]⟩]
def wkW (w : World) : World := ((w.alloc (.cells #[.int .u32 2] 30)).alloc (.cells #[.int .u32 9] 30)).alloc (.cells #[.int .u32 1, .int .u64 5, .slice (some ⟨w.heap.size, 0, none⟩) 1 1, .int .u32 2, .int .u64 4, .slice none 0 0, .int .u32 3, .int .u64 9, .slice (some ⟨w.heap.size + 1, 0, none⟩) 1 1] 33)
theorem wkW_keeps (w : World) : Keeps w (wkW w) := keeps_trans (keeps_trans (keeps_alloc _ _) (keeps_alloc _ _)) (keeps_alloc _ _)
theorem wkW_at (w : World) : CdsAt (wkW w) (some ⟨w.heap.size + 1 + 1, 0, none⟩) (wkL w.heap.size) := by
  have a1 := At.new w (celU [2]) 30 _ (show w.heap.size < (w.alloc (.cells #[.int .u32 2] 30)).heap.size by simp)
  have a2 := At.new (w.alloc (.cells #[.int .u32 2] 30)) (celU [9]) 30 _ (show (w.alloc (.cells #[.int .u32 2] 30)).heap.size < ((w.alloc (.cells #[.int .u32 2] 30)).alloc (.cells #[.int .u32 9] 30)).heap.size by simp)
  have a3 := At.new ((w.alloc (.cells #[.int .u32 2] 30)).alloc (.cells #[.int .u32 9] 30)) (cdsC (wkL w.heap.size)) 33 (wkW w).heap.size (by simp [wkW])
  simp only [World.size_alloc] at a2 a3
  have k1 : Keeps (w.alloc (.cells #[.int .u32 2] 30)) (wkW w) := keeps_trans (keeps_alloc _ _) (keeps_alloc _ _)
  have k2 : Keeps ((w.alloc (.cells #[.int .u32 2] 30)).alloc (.cells #[.int .u32 9] 30)) (wkW w) := keeps_alloc _ _
  refine ⟨a3, fun x hx => ?_⟩
  simp only [wkL, List.mem_cons, List.mem_nil_iff, or_false] at hx
  rcases hx with rfl | rfl | rfl
  · exact ⟨by simp, by simp, by simp, by simp [maxLen], (a1.keep k1).more k1.size, by simp⟩
  · exact ⟨by decide, by decide, by decide, by simp [maxLen], At.nil _ _ _, by simp⟩
  · exact ⟨by simp, by simp, by simp, by simp [maxLen], ((At.more (B' := ((w.alloc (.cells #[.int .u32 2] 30)).alloc (.cells #[.int .u32 9] 30)).heap.size) a2 (by simp)).keep k2).more k2.size, by simp⟩
set_option maxHeartbeats 16000000 in
theorem works16 (K : PickOk) (w : World) : Calls Try.prog 10 #[] w (Yes w) := by
  have PK := Lib.hid (K.pick _ 3 3 _ _ (wkW_at w) rfl (by decide) (by decide) (by simp [maxLen]) (fun x hx => by
    simp only [wkL, List.mem_cons, List.mem_nil_iff, or_false] at hx
    rcases hx with rfl | rfl | rfl <;> simp))
  have K0 := Lib.hid (wkW_keeps w)
  have hW : wkW w = ((w.alloc (.cells #[.int .u32 2] 30)).alloc (.cells #[.int .u32 9] 30)).alloc (.cells #[.int .u32 1, .int .u64 5, .slice (some ⟨w.heap.size, 0, none⟩) 1 1, .int .u32 2, .int .u64 4, .slice none 0 0, .int .u32 3, .int .u64 9, .slice (some ⟨w.heap.size + 1, 0, none⟩) 1 1] 33) := rfl
  clear K
  go_enter Try.func10, Try.ntmps10
  go_wp2_with fail
  rw [← hW]
  clear hW
  generalize wkW w = W at *
  refine PK.out.mono ?_
  rintro e w1 ⟨v, out, rfl, hp, o1, k1⟩
  obtain rfl : out = [2, 3] := hp.unique works_pick
  obtain ⟨A1, c1, rfl, -, -, -, -⟩ := o1.form
  have KF := Lib.hid (keeps_trans K0.out k1)
  obtain ⟨g, rfl, d0, -, -⟩ := o1.cell (j := 0) (by simp [celU])
  obtain ⟨g', e', d1, -, -⟩ := o1.cell (j := 1) (by simp [celU])
  obtain rfl : g = g' := by injection e' with e'; injection e'
  have d0' : w1.cell? ⟨g, 0, none⟩ = some (.int .u32 2) := d0
  have d1' : w1.cell? ⟨g, 1, none⟩ = some (.int .u32 3) := d1
  clear o1 k1 hp PK d0 d1 e' K0
  go_wp2_with fail
  go_ret
  exact ⟨rfl, KF.out⟩
end Go.Proofs.Ytdfaogagadoooaa
