/- Layer 16's statements: PickApart. (Written by mkapart.py.) -/
import Derived.Test.YtdfaogagadoooaaLawPick1
namespace Go.Proofs.Ytdfaogagadoooaa
open Go.RowKit
set_option linter.unusedSimpArgs false
set_option linter.unusedVariables false
set_option maxRecDepth 100000

/-- one of these comes ahead of it, and is near -/
def behindC (part : List Cn) (x : Cn) : Bool := part.any fun y => !decide (y.v = x.v) && nearC x y && aheadC y x
theorem behindC_next {L : List Cn} {j : Nat} {x y : Cn} (hy : L[j]? = some y) : behindC (L.take (j + 1)) x = (behindC (L.take j) x || (!decide (y.v = x.v) && nearC x y && aheadC y x)) := by
  rw [List.take_add_one, hy]
  simp [behindC, List.any_append]
theorem behindC_first (all : List Cn) (x : Cn) : behindC all x = !firstC all x := by
  unfold behindC firstC
  rw [List.not_all_eq_any_not]
  congr 1
  funext y
  by_cases h : y.v = x.v
  · simp [h]
  · rw [decide_eq_false h, aheadC_total (fun e => h e)]
    cases nearC x y <;> cases aheadC x y <;> rfl
theorem first_apart {all : List Cn} {x y : Cn} (hx : x ∈ all) (hy : y ∈ all) (fx : firstC all x = true) (fy : firstC all y = true) (hv : y.v ≠ x.v) (hn : nearC x y = true) : False := by
  have h1 := firstC_iff.1 fx y hy hv hn
  have h2 := firstC_iff.1 fy x hx (fun e => hv e.symm) (by rw [nearC_comm]; exact hn)
  rw [aheadC_iff] at h1 h2
  omega
theorem first_some {L : List Cn} (h : 0 < L.length) : ∃ x ∈ L, firstC L x = true := by
  have key : ∀ L : List Cn, L ≠ [] → ∃ x ∈ L, ∀ y ∈ L, aheadC y x = false := by
    intro L
    induction L with
    | nil => intro h; exact absurd rfl h
    | cons x L ih =>
      intro _
      have self : ∀ z : Cn, aheadC z z = false := fun z => by simp [aheadC]
      by_cases hL : L = []
      · subst hL
        exact ⟨x, by simp, fun y hy => by rw [List.mem_singleton] at hy; subst hy; exact self _⟩
      · obtain ⟨b, hb, hmin⟩ := ih hL
        cases hx : aheadC x b with
        | true =>
          refine ⟨x, by simp, fun y hy => ?_⟩
          rcases List.mem_cons.1 hy with rfl | hy
          · exact self _
          · cases hyx : aheadC y x with
            | false => rfl
            | true =>
              have := hmin y hy
              rw [aheadC_trans hyx hx] at this
              cases this
        | false =>
          refine ⟨b, List.mem_cons_of_mem _ hb, fun y hy => ?_⟩
          rcases List.mem_cons.1 hy with rfl | hy
          · exact hx
          · exact hmin y hy
  obtain ⟨x, hx, hmin⟩ := key L (by intro e; subst e; simp at h)
  refine ⟨x, hx, firstC_iff.2 fun y hy hv _ => ?_⟩
  rw [aheadC_total (fun e => hv e.symm), hmin y hy]
  rfl
theorem pickS_count (all part : List Cn) : (pickS all part).length = (part.filter (firstC all)).length := by
  refine snocInd (P := fun part => (pickS all part).length = (part.filter (firstC all)).length) rfl (fun l y ih => ?_) part
  rw [pickS_snoc, List.filter_append, List.length_append, ← ih]
  cases h : firstC all y with
  | true => rw [if_pos rfl, putU_len]; simp [h]
  | false => rw [if_neg (by simp)]; simp [h]
theorem filter_next {α : Type} {p : α → Bool} {L : List α} {j : Nat} {y : α} (hy : L[j]? = some y) : ((L.take (j + 1)).filter p).length = ((L.take j).filter p).length + (bif p y then 1 else 0) := by
  rw [List.take_add_one, hy, List.filter_append, List.length_append]
  cases h : p y <;> simp [h]
theorem rise_get {L : List Nat} (h : L.Pairwise (· < ·)) {k x y : Nat} (hx : L[k]? = some x) (hy : L[k + 1]? = some y) : x < y := by
  have l1 := (List.getElem?_eq_some_iff.1 hx)
  have l2 := (List.getElem?_eq_some_iff.1 hy)
  have := List.pairwise_iff_getElem.1 h k (k + 1) l1.1 l2.1 (by omega)
  rw [l1.2, l2.2] at this
  exact this

set_option maxHeartbeats 40000000 in
theorem apart16_walk (K : PickOk) (A : Option Addr) (n c : Nat) (l : List Cd) (w : World) (hl : CdsAt w A l) (hn : n = l.length) (hc : n ≤ c) (hm : c ≤ maxLen) :
    Calls Try.prog 4 #[.slice A n c] w (Yes w) := by
  have LG := Lib.hid (large16_any A n c l w hl hn)
  have WW := Lib.hid (works16 K)
  have HL := Lib.hid hl
  have HN := Lib.hid hn
  have PK := Lib.hid (fun (W : World) (k : Keeps w W) (h1 : n ≤ 100) (h2 : ∀ x ∈ l, x.near.length ≤ 2000) => K.pick A n c l W (hl.keep k) hn (by omega) hc hm (fun x hx => by have := h2 x hx; omega))
  clear hl hn hm hc K
  go_enter Try.func4, Try.ntmps4
  go_wp2_with fail
  refine LG.out.mono ?_
  rintro e w1 ⟨b, rfl, k1, hf⟩
  cases b with
  | true =>
    clear hf
    go_wp2_with fail
    refine (WW.out _).mono ?_
    rintro e w9 ⟨rfl, k9⟩
    go_wp2_with fail
    go_ret
    exact ⟨rfl, keeps_trans k1 k9⟩
  | false =>
    obtain ⟨f1, f2⟩ := hf rfl
    have HN2 := Lib.hid (show n ≤ 100 by have := HN.out; omega)
    have ON := Lib.hid (once16_any A n c l w1 (HL.out.keep k1) HN.out (by have := HN2.out; omega))
    have OKs := Lib.hid (fun (x : Cd) (hx : x ∈ onceD l) => And.intro (HL.out.ok x (onceD_sub hx)) (show x.near.length ≤ 1000000 by have := f2 x (onceD_sub hx); omega))
    have ND := Lib.hid (onceC_nodup (l.map Cd.n))
    have OL := Lib.hid (show (onceD l).length ≤ 100 by have := onceD_len l; have := HN.out; have := HN2.out; omega)
    have PP := Lib.hid (fun W k => PK.out W k HN2.out f2)
    have K1 := Lib.hid k1
    have CE := Lib.hid (onceD_n l)
    clear f1 f2 k1 hf LG PK
    obtain ⟨D, hD⟩ : ∃ D, onceD l = D := ⟨_, rfl⟩
    rw [hD] at ON OKs OL CE
    obtain ⟨C, hC⟩ : ∃ C, onceC (l.map Cd.n) = C := ⟨_, rfl⟩
    rw [hC] at ND CE
    have HC := Lib.hid hC
    obtain ⟨m, hm⟩ : ∃ m, D.length = m := ⟨_, rfl⟩
    rw [hm] at ON OL
    have HM := Lib.hid hm
    have HCL := Lib.hid (show C.length = m by rw [← CE.out, List.length_map, hm])
    clear hD hC hm
    go_wp2_with fail
    refine ON.out.mono ?_
    rintro e w2 ⟨v2, rfl, o2, k2⟩
    obtain ⟨A2, c2, rfl, -, -, -, -⟩ := o2.form
    have K2 := Lib.hid (keeps_trans K1.out k2)
    have HD := Lib.hid (CdsAt.mk o2.at_ (fun x hx => (OKs.out x hx).1.keep K2.out))
    clear o2 k2 ON
    go_wp2_with fail
    refine (PP.out w2 K2.out).mono ?_
    rintro e w3 ⟨v3, out, rfl, hp, o3, k3⟩
    obtain ⟨A3, c3, rfl, -, -, -, -⟩ := o3.form
    have HOE := Lib.hid (show out = pickS C C by rw [hp.eq, HC.out])
    have RISE := Lib.hid hp.rise
    have OLEN := Lib.hid (show out.length = (C.filter (firstC C)).length by rw [HOE.out]; exact pickS_count C C)
    have OMEM := Lib.hid (show ∀ x ∈ C, decide (x.v ∈ out) = firstC C x from fun x hx => by
      rw [HOE.out, Bool.eq_iff_iff, decide_eq_true_eq, pickS_mem]
      constructor
      · rintro ⟨y, hy, e, hf⟩
        have : y = x := onceC_unique (by rw [HC.out]; exact hy) (by rw [HC.out]; exact hx) e
        rw [← this]; exact hf
      · intro hf
        exact ⟨x, hx, rfl, hf⟩)
    have NONE := Lib.hid (show (out.length = 0 ↔ m = 0) from by
      constructor
      · intro h
        rcases Nat.eq_zero_or_pos m with h0 | h0
        · exact h0
        · exfalso
          obtain ⟨x, hx, hfx⟩ := first_some (L := C) (by have := HCL.out; omega)
          have h1 := OMEM.out x hx
          rw [hfx, decide_eq_true_eq] at h1
          rw [List.eq_nil_of_length_eq_zero h] at h1
          cases h1
      · intro h
        have h2 : C = [] := List.eq_nil_of_length_eq_zero (by rw [HCL.out]; exact h)
        rw [OLEN.out, h2]
        rfl)
    have LE := Lib.hid (show out.length ≤ 100 by
      rw [OLEN.out]
      have h1 := List.length_filter_le (firstC C) C
      have := HCL.out
      have := OL.out
      omega)
    have O3 := Lib.hid o3.at_
    have K3 := Lib.hid k3
    have HOUT3 := Lib.hid (fun (W : World) (k : Keeps w3 W) (v : Nat) => has16_any A3 out.length c3 out v W ((O3.out.keep k).more k.size) rfl (by have := LE.out; omega))
    obtain ⟨p, hpl⟩ : ∃ p, out.length = p := ⟨_, rfl⟩
    rw [hpl] at HOUT3 NONE OLEN LE ⊢
    have HPL := Lib.hid hpl
    have KW3 := Lib.hid (keeps_trans K2.out k3)
    clear hp o3 k3 PP hpl
    obtain ⟨bz, hbz⟩ : ∃ bz, ((m : Int) == 0) = bz := ⟨_, rfl⟩
    have t2 : ((p : Int) == 0) = bz := by
      rw [← hbz, Bool.eq_iff_iff, beq_iff_eq, beq_iff_eq]
      have := NONE.out
      omega
    go_wp2_with fail
    clear hbz t2
    · have _h0 := True.intro
      go_loopw [5, 6] (fun u q wr => ∃ i : Nat, i ≤ m ∧ q = .int .i64 i ∧ u = .int .i64 ((((C.take i).filter (firstC C)).length : Nat) : Int) ∧ Keeps w3 wr) (fun _ q _ => m - (intOf q).toNat)
      case atStart => exact ⟨0, Nat.zero_le _, rfl, by simp, keeps_refl _⟩
      case round =>
        obtain ⟨i, hi, rfl, rfl, hkp⟩ := hrel
        have HK := Lib.hid hkp
        clear hkp
        by_cases hlt : i < m
        · obtain ⟨x, hx⟩ : ∃ x, D[i]? = some x := ⟨_, List.getElem?_eq_getElem (by have := HM.out; omega)⟩
          have CX := cn_get hx
          rw [CE.out] at CX
          have FN := Lib.hid (filter_next (p := firstC C) CX)
          have XO := Lib.hid (OKs.out x (List.mem_of_getElem? hx))
          have IS := Lib.hid (OMEM.out _ (List.mem_of_getElem? CX))
          have CX := Lib.hid CX
          obtain ⟨ad, hA, -, hXd⟩ := cds_at (HD.out.keep (keeps_trans K3.out HK.out)).cells hx
          subst hA
          have XB := cdBox wr 33 x
          have kX := keeps_alloc wr (.cells #[.int .u32 (x.v : Int), .int .u64 (x.key : Int), .slice x.A x.near.length x.c] 33)
          have him : (i : Int) < (m : Int) := by omega
          have hi0 : (0 : Int) ≤ (i : Int) := by omega
          have hm3 : (m : Int) ≤ 100 := by have := OL.out; omega
          have HI := Lib.hid hlt
          have PL := Lib.hid (show ((C.take i).filter (firstC C)).length ≤ i by have h1 := List.length_filter_le (firstC C) (C.take i); rw [List.length_take] at h1; omega)
          obtain ⟨pc, hpc⟩ : ∃ pc, ((C.take i).filter (firstC C)).length = pc := ⟨_, rfl⟩
          rw [hpc] at FN PL ⊢
          have pcm : (pc : Int) ≤ 100 := by have := PL.out; omega
          obtain ⟨xv, xk, XA, xc, xn⟩ := x
          have FN : ((C.take (i + 1)).filter (firstC C)).length = pc + (bif firstC C ⟨xv, xk, xn⟩ then 1 else 0) := FN.out
          have IS : decide (xv ∈ out) = firstC C ⟨xv, xk, xn⟩ := IS.out
          have H1 := HOUT3.out _ (keeps_trans HK.out kX) xv
          rw [IS] at H1
          obtain ⟨b0, b1, b2⟩ := hXd
          obtain ⟨a0, a1, a2⟩ := XB
          simp only at b0 b1 b2 a0 a1 a2 kX
          have XBh := Lib.hid (show CdIn (wr.alloc (.cells #[.int .u32 (xv : Int), .int .u64 (xk : Int), .slice XA xn.length xc] 33)) ⟨wr.heap.size, 0, none⟩ ⟨xv, xk, XA, xc, xn⟩ from ⟨a0, a1, a2⟩)
          clear hx hpc hlt hi IS
          cases his : firstC C ⟨xv, xk, xn⟩ with
          | false =>
            rw [his] at H1 FN
            have HIS := Lib.hid his
            have H1 := Lib.hid H1
            have FN := Lib.hid FN
            have KXa := Lib.hid (keeps_trans HK.out kX)
            clear his kX
            go_wp2_with fail
            refine H1.out.mono ?_
            rintro e w5 ⟨rfl, k5⟩
            have KX := Lib.hid (keeps_trans KXa.out k5)
            have KZ := Lib.hid (keeps_trans K3.out KX.out)
            have KW0 := Lib.hid (keeps_trans K2.out KZ.out)
            have XB := Lib.hid (fun (W : World) (k : Keeps w5 W) => XBh.out.keep (keeps_trans k5 k))
            obtain ⟨xb, hxb⟩ : ∃ xb, wr.heap.size = xb := ⟨_, rfl⟩
            rw [hxb] at XB ⊢
            clear k5 hxb a0 a1 a2 b0 b1 b2
            go_wp2_with fail
            rename World => wo
            go_loopw [9, 10] (fun b q wr => ∃ j : Nat, j ≤ m ∧ q = .int .i64 j ∧ b = .bool (behindC (C.take j) ⟨xv, xk, xn⟩) ∧ Keeps wo wr) (fun _ q _ => m - (intOf q).toNat)
            case atStart => exact ⟨0, Nat.zero_le _, rfl, by simp [behindC], keeps_refl _⟩
            case round =>
              obtain ⟨j, hj, rfl, rfl, hjp⟩ := hrel
              have JP := Lib.hid hjp
              clear hjp
              by_cases hjm : j < m
              · obtain ⟨y, hy⟩ : ∃ y, D[j]? = some y := ⟨_, List.getElem?_eq_getElem (by have := HM.out; omega)⟩
                have CY := cn_get hy
                rw [CE.out] at CY
                have YO := Lib.hid (OKs.out y (List.mem_of_getElem? hy))
                have BX := behindC_next (x := ⟨xv, xk, xn⟩) CY
                obtain ⟨ad', hA', -, hYd⟩ := cds_at (HD.out.keep (keeps_trans KZ.out JP.out)).cells hy
                obtain rfl := Option.some.inj hA'
                have YB := cdBox wr 33 y
                have kY := keeps_alloc wr (.cells #[.int .u32 (y.v : Int), .int .u64 (y.key : Int), .slice y.A y.near.length y.c] 33)
                obtain ⟨yv, yk, YA, yc, yn⟩ := y
                have BX : behindC (C.take (j + 1)) ⟨xv, xk, xn⟩ = (behindC (C.take j) ⟨xv, xk, xn⟩ || (!decide (yv = xv) && nearC ⟨xv, xk, xn⟩ ⟨yv, yk, yn⟩ && aheadC ⟨yv, yk, yn⟩ ⟨xv, xk, xn⟩)) := BX
                have BX := Lib.hid BX
                obtain ⟨bb, hbb⟩ : ∃ bb, behindC (C.take j) ⟨xv, xk, xn⟩ = bb := ⟨_, rfl⟩
                rw [hbb] at BX ⊢
                obtain ⟨e0, e1, e2⟩ := hYd
                simp only at e0 e1 e2 YB kY
                have hjn : (j : Int) < (m : Int) := by omega
                have hj0 : (0 : Int) ≤ (j : Int) := by omega
                have HJ := Lib.hid hjm
                have CYh := Lib.hid CY
                have CELLS := Lib.hid (show ∀ W : World, Keeps (wr.alloc (.cells #[.int .u32 (yv : Int), .int .u64 (yk : Int), .slice YA yn.length yc] 33)) W → CdIn W ⟨xb, 0, none⟩ ⟨xv, xk, XA, xc, xn⟩ ∧ CdIn W ⟨wr.heap.size, 0, none⟩ ⟨yv, yk, YA, yc, yn⟩ from fun W k => ⟨XB.out _ (keeps_trans JP.out (keeps_trans kY k)), YB.keep k⟩)
                have KY := Lib.hid (keeps_trans JP.out kY)
                have hW : ∃ W, wr.alloc (.cells #[.int .u32 (yv : Int), .int .u64 (yk : Int), .slice YA yn.length yc] 33) = W := ⟨_, rfl⟩
                have N1 := Lib.hid (fun (W : World) (k : Keeps (wr.alloc (.cells #[.int .u32 (yv : Int), .int .u64 (yk : Int), .slice YA yn.length yc] 33)) W) => has16_any XA xn.length xc xn yv W (XO.out.1.keep (keeps_trans KW0.out (keeps_trans KY.out k))).at_ rfl XO.out.2)
                have N2 := Lib.hid (fun (W : World) (k : Keeps (wr.alloc (.cells #[.int .u32 (yv : Int), .int .u64 (yk : Int), .slice YA yn.length yc] 33)) W) => has16_any YA yn.length yc yn xv W (YO.out.1.keep (keeps_trans KW0.out (keeps_trans KY.out k))).at_ rfl YO.out.2)
                have HOUT := Lib.hid (fun (W : World) (k : Keeps (wr.alloc (.cells #[.int .u32 (yv : Int), .int .u64 (yk : Int), .slice YA yn.length yc] 33)) W) (v : Nat) => HOUT3.out W (keeps_trans KX.out (keeps_trans KY.out k)) v)
                obtain ⟨⟨a0, a1, a2⟩, d0, d1, d2⟩ := CELLS.out _ (keeps_refl _)
                simp only at a0 a1 a2 d0 d1 d2
                clear YB kY CY hy hbb hj hjm hA' hW
                by_cases hij : j = i
                · subst hij
                  have BN := Lib.hid (show behindC (C.take (j + 1)) ⟨xv, xk, xn⟩ = bb from by
                    rw [BX.out]
                    have h1 := CYh.out
                    rw [CX.out] at h1
                    have h2 := Option.some.inj h1
                    have h3 : yv = xv := (congrArg Cn.v h2).symm
                    simp [h3])
                  go_wp2_with fail
                  go_roundw
                  case rel => exact ⟨j + 1, by have := HJ.out; omega, by go_num, by rw [BN.out], KY.out⟩
                  case measure => have := HJ.out; simp [intOf]; omega
                · have NV := Lib.hid (show yv ≠ xv from by
                    intro e
                    refine hij ?_
                    have l1 : j < (C.map Cn.v).length := by rw [List.length_map, HCL.out]; exact HJ.out
                    have l2 : i < (C.map Cn.v).length := by rw [List.length_map, HCL.out]; exact HI.out
                    refine (List.getElem_inj (h₀ := l1) (h₁ := l2) ND.out).1 ?_
                    simp only [List.getElem_map]
                    rw [(List.getElem?_eq_some_iff.1 CYh.out).2, (List.getElem?_eq_some_iff.1 CX.out).2]
                    exact e)
                  have dij : ((j : Int) == (i : Int)) = false := by simp only [beq_eq_false_iff_ne, ne_eq, Int.natCast_inj]; exact hij
                  clear hij
                  by_cases hn1 : yv ∈ xn
                  · have NR := Lib.hid (show nearC ⟨xv, xk, xn⟩ ⟨yv, yk, yn⟩ = true by simp [nearC, hn1])
                    have M1 := N1.out _ (keeps_refl _)
                    rw [decide_eq_true hn1] at M1
                    have M1 := Lib.hid M1
                    clear hn1
                    go_wp2_with fail
                    refine M1.out.mono ?_
                    rintro e w6 ⟨rfl, kj⟩
                    have KJ := Lib.hid kj
                    obtain ⟨⟨a0, a1, a2⟩, d0, d1, d2⟩ := CELLS.out _ KJ.out
                    clear kj
                    cases bb with
                    | true =>
                      have BN := Lib.hid (show behindC (C.take (j + 1)) ⟨xv, xk, xn⟩ = true from by rw [BX.out]; rfl)
                      go_wp2_with fail
                      go_roundw
                      case rel => exact ⟨j + 1, by have := HJ.out; omega, by go_num, by rw [BN.out], keeps_trans KY.out KJ.out⟩
                      case measure => have := HJ.out; simp [intOf]; omega
                    | false =>
                      by_cases h1 : yk < xk
                      · have BN := Lib.hid (show behindC (C.take (j + 1)) ⟨xv, xk, xn⟩ = true from by rw [BX.out]; simp [NV.out, NR.out, aheadC, h1])
                        have t1 : decide (yk < xk) = true := decide_eq_true h1
                        have t2 : decide ((yk : Int) < (xk : Int)) = true := decide_eq_true (by omega)
                        clear h1
                        go_wp2_with fail
                        go_roundw
                        case rel => exact ⟨j + 1, by have := HJ.out; omega, by go_num, by rw [BN.out], keeps_trans KY.out KJ.out⟩
                        case measure => have := HJ.out; simp [intOf]; omega
                      · have t1 : decide (yk < xk) = false := decide_eq_false h1
                        have t2 : decide ((yk : Int) < (xk : Int)) = false := decide_eq_false (by omega)
                        by_cases h2 : yk = xk
                        · obtain rfl := h2.symm
                          by_cases h3 : yv < xv
                          · have BN := Lib.hid (show behindC (C.take (j + 1)) ⟨xv, xk, xn⟩ = true from by rw [BX.out]; simp [NV.out, NR.out, aheadC, h3])
                            have t4 : decide (yv < xv) = true := decide_eq_true h3
                            have t5 : decide ((yv : Int) < (xv : Int)) = true := decide_eq_true (by omega)
                            clear h1 h3
                            go_wp2_with fail
                            go_roundw
                            case rel => exact ⟨j + 1, by have := HJ.out; omega, by go_num, by rw [BN.out], keeps_trans KY.out KJ.out⟩
                            case measure => have := HJ.out; simp [intOf]; omega
                          · have BN := Lib.hid (show behindC (C.take (j + 1)) ⟨xv, xk, xn⟩ = false from by rw [BX.out]; simp [NV.out, NR.out, aheadC, h3])
                            have t4 : decide (yv < xv) = false := decide_eq_false h3
                            have t5 : decide ((yv : Int) < (xv : Int)) = false := decide_eq_false (by omega)
                            clear h1 h3
                            go_wp2_with fail
                            go_roundw
                            case rel => exact ⟨j + 1, by have := HJ.out; omega, by go_num, by rw [BN.out], keeps_trans KY.out KJ.out⟩
                            case measure => have := HJ.out; simp [intOf]; omega
                        · have BN := Lib.hid (show behindC (C.take (j + 1)) ⟨xv, xk, xn⟩ = false from by rw [BX.out]; simp [NV.out, NR.out, aheadC, h1, h2])
                          have t3 : ((yk : Int) == (xk : Int)) = false := by simp only [beq_eq_false_iff_ne, ne_eq, Int.natCast_inj]; exact h2
                          clear h1 h2
                          go_wp2_with fail
                          go_roundw
                          case rel => exact ⟨j + 1, by have := HJ.out; omega, by go_num, by rw [BN.out], keeps_trans KY.out KJ.out⟩
                          case measure => have := HJ.out; simp [intOf]; omega
                  · have M1 := N1.out _ (keeps_refl _)
                    rw [decide_eq_false hn1] at M1
                    have M1 := Lib.hid M1
                    by_cases hn2 : xv ∈ yn
                    · have NR := Lib.hid (show nearC ⟨xv, xk, xn⟩ ⟨yv, yk, yn⟩ = true by simp [nearC, hn2])
                      clear hn1
                      go_wp2_with fail
                      refine M1.out.mono ?_
                      rintro e w5 ⟨rfl, kj⟩
                      have M2 := N2.out _ kj
                      rw [decide_eq_true hn2] at M2
                      have M2 := Lib.hid M2
                      have KI := Lib.hid kj
                      obtain ⟨⟨a0, a1, a2⟩, d0, d1, d2⟩ := CELLS.out _ KI.out
                      clear hn2 kj
                      go_wp2_with fail
                      refine M2.out.mono ?_
                      rintro e w6 ⟨rfl, kj⟩
                      have KJ := Lib.hid (keeps_trans KI.out kj)
                      obtain ⟨⟨a0, a1, a2⟩, d0, d1, d2⟩ := CELLS.out _ KJ.out
                      clear kj
                      cases bb with
                      | true =>
                        have BN := Lib.hid (show behindC (C.take (j + 1)) ⟨xv, xk, xn⟩ = true from by rw [BX.out]; rfl)
                        go_wp2_with fail
                        go_roundw
                        case rel => exact ⟨j + 1, by have := HJ.out; omega, by go_num, by rw [BN.out], keeps_trans KY.out KJ.out⟩
                        case measure => have := HJ.out; simp [intOf]; omega
                      | false =>
                        by_cases h1 : yk < xk
                        · have BN := Lib.hid (show behindC (C.take (j + 1)) ⟨xv, xk, xn⟩ = true from by rw [BX.out]; simp [NV.out, NR.out, aheadC, h1])
                          have t1 : decide (yk < xk) = true := decide_eq_true h1
                          have t2 : decide ((yk : Int) < (xk : Int)) = true := decide_eq_true (by omega)
                          clear h1
                          go_wp2_with fail
                          go_roundw
                          case rel => exact ⟨j + 1, by have := HJ.out; omega, by go_num, by rw [BN.out], keeps_trans KY.out KJ.out⟩
                          case measure => have := HJ.out; simp [intOf]; omega
                        · have t1 : decide (yk < xk) = false := decide_eq_false h1
                          have t2 : decide ((yk : Int) < (xk : Int)) = false := decide_eq_false (by omega)
                          by_cases h2 : yk = xk
                          · obtain rfl := h2.symm
                            by_cases h3 : yv < xv
                            · have BN := Lib.hid (show behindC (C.take (j + 1)) ⟨xv, xk, xn⟩ = true from by rw [BX.out]; simp [NV.out, NR.out, aheadC, h3])
                              have t4 : decide (yv < xv) = true := decide_eq_true h3
                              have t5 : decide ((yv : Int) < (xv : Int)) = true := decide_eq_true (by omega)
                              clear h1 h3
                              go_wp2_with fail
                              go_roundw
                              case rel => exact ⟨j + 1, by have := HJ.out; omega, by go_num, by rw [BN.out], keeps_trans KY.out KJ.out⟩
                              case measure => have := HJ.out; simp [intOf]; omega
                            · have BN := Lib.hid (show behindC (C.take (j + 1)) ⟨xv, xk, xn⟩ = false from by rw [BX.out]; simp [NV.out, NR.out, aheadC, h3])
                              have t4 : decide (yv < xv) = false := decide_eq_false h3
                              have t5 : decide ((yv : Int) < (xv : Int)) = false := decide_eq_false (by omega)
                              clear h1 h3
                              go_wp2_with fail
                              go_roundw
                              case rel => exact ⟨j + 1, by have := HJ.out; omega, by go_num, by rw [BN.out], keeps_trans KY.out KJ.out⟩
                              case measure => have := HJ.out; simp [intOf]; omega
                          · have BN := Lib.hid (show behindC (C.take (j + 1)) ⟨xv, xk, xn⟩ = false from by rw [BX.out]; simp [NV.out, NR.out, aheadC, h1, h2])
                            have t3 : ((yk : Int) == (xk : Int)) = false := by simp only [beq_eq_false_iff_ne, ne_eq, Int.natCast_inj]; exact h2
                            clear h1 h2
                            go_wp2_with fail
                            go_roundw
                            case rel => exact ⟨j + 1, by have := HJ.out; omega, by go_num, by rw [BN.out], keeps_trans KY.out KJ.out⟩
                            case measure => have := HJ.out; simp [intOf]; omega
                    · have BN := Lib.hid (show behindC (C.take (j + 1)) ⟨xv, xk, xn⟩ = bb from by rw [BX.out]; simp [nearC, hn1, hn2])
                      clear hn1
                      go_wp2_with fail
                      refine M1.out.mono ?_
                      rintro e w5 ⟨rfl, kj⟩
                      have M2 := N2.out _ kj
                      rw [decide_eq_false hn2] at M2
                      have M2 := Lib.hid M2
                      have KI := Lib.hid kj
                      obtain ⟨⟨a0, a1, a2⟩, d0, d1, d2⟩ := CELLS.out _ KI.out
                      clear hn2 kj
                      go_wp2_with fail
                      refine M2.out.mono ?_
                      rintro e w6 ⟨rfl, kj⟩
                      have KJ := Lib.hid (keeps_trans KI.out kj)
                      clear kj
                      go_wp2_with fail
                      go_roundw
                      case rel => exact ⟨j + 1, by have := HJ.out; omega, by go_num, by rw [BN.out], keeps_trans KY.out KJ.out⟩
                      case measure => have := HJ.out; simp [intOf]; omega
              · have hjn : ¬ ((j : Int) < (m : Int)) := by omega
                rw [show C.take j = C from List.take_of_length_le (by have := HCL.out; omega), behindC_first, HIS.out]
                have KW := Lib.hid (keeps_trans KX.out JP.out)
                clear hjm hj
                go_wp2_with fail
                go_roundw
                case rel => exact ⟨i + 1, by have := HI.out; omega, by go_num, by rw [FN.out]; rfl, KW.out⟩
                case measure => have := HI.out; simp [intOf]; omega
          | true =>
            rw [his] at H1 FN
            have HIS := Lib.hid his
            have H1 := Lib.hid H1
            have FN := Lib.hid FN
            have KXa := Lib.hid (keeps_trans HK.out kX)
            clear his kX
            go_wp2_with fail
            refine H1.out.mono ?_
            rintro e w5 ⟨rfl, k5⟩
            have KX := Lib.hid (keeps_trans KXa.out k5)
            have KZ := Lib.hid (keeps_trans K3.out KX.out)
            have KW0 := Lib.hid (keeps_trans K2.out KZ.out)
            have XB := Lib.hid (fun (W : World) (k : Keeps w5 W) => XBh.out.keep (keeps_trans k5 k))
            obtain ⟨xb, hxb⟩ : ∃ xb, wr.heap.size = xb := ⟨_, rfl⟩
            rw [hxb] at XB ⊢
            clear k5 hxb a0 a1 a2 b0 b1 b2
            go_wp2_with fail
            rename World => wo
            go_loopw [9, 10] (fun b q wr => ∃ j : Nat, j ≤ m ∧ q = .int .i64 j ∧ b = .bool (behindC (C.take j) ⟨xv, xk, xn⟩) ∧ Keeps wo wr) (fun _ q _ => m - (intOf q).toNat)
            case atStart => exact ⟨0, Nat.zero_le _, rfl, by simp [behindC], keeps_refl _⟩
            case round =>
              obtain ⟨j, hj, rfl, rfl, hjp⟩ := hrel
              have JP := Lib.hid hjp
              clear hjp
              by_cases hjm : j < m
              · obtain ⟨y, hy⟩ : ∃ y, D[j]? = some y := ⟨_, List.getElem?_eq_getElem (by have := HM.out; omega)⟩
                have CY := cn_get hy
                rw [CE.out] at CY
                have YO := Lib.hid (OKs.out y (List.mem_of_getElem? hy))
                have BX := behindC_next (x := ⟨xv, xk, xn⟩) CY
                obtain ⟨ad', hA', -, hYd⟩ := cds_at (HD.out.keep (keeps_trans KZ.out JP.out)).cells hy
                obtain rfl := Option.some.inj hA'
                have YB := cdBox wr 33 y
                have kY := keeps_alloc wr (.cells #[.int .u32 (y.v : Int), .int .u64 (y.key : Int), .slice y.A y.near.length y.c] 33)
                obtain ⟨yv, yk, YA, yc, yn⟩ := y
                have BX : behindC (C.take (j + 1)) ⟨xv, xk, xn⟩ = (behindC (C.take j) ⟨xv, xk, xn⟩ || (!decide (yv = xv) && nearC ⟨xv, xk, xn⟩ ⟨yv, yk, yn⟩ && aheadC ⟨yv, yk, yn⟩ ⟨xv, xk, xn⟩)) := BX
                have BX := Lib.hid BX
                obtain ⟨bb, hbb⟩ : ∃ bb, behindC (C.take j) ⟨xv, xk, xn⟩ = bb := ⟨_, rfl⟩
                rw [hbb] at BX ⊢
                obtain ⟨e0, e1, e2⟩ := hYd
                simp only at e0 e1 e2 YB kY
                have hjn : (j : Int) < (m : Int) := by omega
                have hj0 : (0 : Int) ≤ (j : Int) := by omega
                have HJ := Lib.hid hjm
                have CYh := Lib.hid CY
                have CELLS := Lib.hid (show ∀ W : World, Keeps (wr.alloc (.cells #[.int .u32 (yv : Int), .int .u64 (yk : Int), .slice YA yn.length yc] 33)) W → CdIn W ⟨xb, 0, none⟩ ⟨xv, xk, XA, xc, xn⟩ ∧ CdIn W ⟨wr.heap.size, 0, none⟩ ⟨yv, yk, YA, yc, yn⟩ from fun W k => ⟨XB.out _ (keeps_trans JP.out (keeps_trans kY k)), YB.keep k⟩)
                have KY := Lib.hid (keeps_trans JP.out kY)
                have hW : ∃ W, wr.alloc (.cells #[.int .u32 (yv : Int), .int .u64 (yk : Int), .slice YA yn.length yc] 33) = W := ⟨_, rfl⟩
                have N1 := Lib.hid (fun (W : World) (k : Keeps (wr.alloc (.cells #[.int .u32 (yv : Int), .int .u64 (yk : Int), .slice YA yn.length yc] 33)) W) => has16_any XA xn.length xc xn yv W (XO.out.1.keep (keeps_trans KW0.out (keeps_trans KY.out k))).at_ rfl XO.out.2)
                have N2 := Lib.hid (fun (W : World) (k : Keeps (wr.alloc (.cells #[.int .u32 (yv : Int), .int .u64 (yk : Int), .slice YA yn.length yc] 33)) W) => has16_any YA yn.length yc yn xv W (YO.out.1.keep (keeps_trans KW0.out (keeps_trans KY.out k))).at_ rfl YO.out.2)
                have HOUT := Lib.hid (fun (W : World) (k : Keeps (wr.alloc (.cells #[.int .u32 (yv : Int), .int .u64 (yk : Int), .slice YA yn.length yc] 33)) W) (v : Nat) => HOUT3.out W (keeps_trans KX.out (keeps_trans KY.out k)) v)
                obtain ⟨⟨a0, a1, a2⟩, d0, d1, d2⟩ := CELLS.out _ (keeps_refl _)
                simp only at a0 a1 a2 d0 d1 d2
                clear YB kY CY hy hbb hj hjm hA' hW
                by_cases hij : j = i
                · subst hij
                  have BN := Lib.hid (show behindC (C.take (j + 1)) ⟨xv, xk, xn⟩ = bb from by
                    rw [BX.out]
                    have h1 := CYh.out
                    rw [CX.out] at h1
                    have h2 := Option.some.inj h1
                    have h3 : yv = xv := (congrArg Cn.v h2).symm
                    simp [h3])
                  go_wp2_with fail
                  go_roundw
                  case rel => exact ⟨j + 1, by have := HJ.out; omega, by go_num, by rw [BN.out], KY.out⟩
                  case measure => have := HJ.out; simp [intOf]; omega
                · have NV := Lib.hid (show yv ≠ xv from by
                    intro e
                    refine hij ?_
                    have l1 : j < (C.map Cn.v).length := by rw [List.length_map, HCL.out]; exact HJ.out
                    have l2 : i < (C.map Cn.v).length := by rw [List.length_map, HCL.out]; exact HI.out
                    refine (List.getElem_inj (h₀ := l1) (h₁ := l2) ND.out).1 ?_
                    simp only [List.getElem_map]
                    rw [(List.getElem?_eq_some_iff.1 CYh.out).2, (List.getElem?_eq_some_iff.1 CX.out).2]
                    exact e)
                  have dij : ((j : Int) == (i : Int)) = false := by simp only [beq_eq_false_iff_ne, ne_eq, Int.natCast_inj]; exact hij
                  have NOT := Lib.hid (show nearC ⟨xv, xk, xn⟩ ⟨yv, yk, yn⟩ = true → ¬ yv ∈ out from fun hn hy => by
                    have h1 := OMEM.out _ (List.mem_of_getElem? CYh.out)
                    rw [decide_eq_true (show (Cd.n ⟨yv, yk, YA, yc, yn⟩).v ∈ out from hy)] at h1
                    exact first_apart (List.mem_of_getElem? CX.out) (List.mem_of_getElem? CYh.out) HIS.out h1.symm NV.out hn)
                  clear hij
                  by_cases hn1 : yv ∈ xn
                  · have NR := Lib.hid (show nearC ⟨xv, xk, xn⟩ ⟨yv, yk, yn⟩ = true by simp [nearC, hn1])
                    have M1 := N1.out _ (keeps_refl _)
                    rw [decide_eq_true hn1] at M1
                    have M1 := Lib.hid M1
                    clear hn1
                    go_wp2_with fail
                    refine M1.out.mono ?_
                    rintro e w6 ⟨rfl, kj⟩
                    have KJ := Lib.hid kj
                    obtain ⟨⟨a0, a1, a2⟩, d0, d1, d2⟩ := CELLS.out _ KJ.out
                    clear kj
                    have H3 := Lib.hid (HOUT.out _ KJ.out yv)
                    rw [decide_eq_false (NOT.out NR.out)] at H3
                    go_wp2_with fail
                    refine H3.out.mono ?_
                    rintro e w7 ⟨rfl, k7⟩
                    have KL := Lib.hid (keeps_trans KJ.out k7)
                    obtain ⟨⟨a0, a1, a2⟩, d0, d1, d2⟩ := CELLS.out _ KL.out
                    cases bb with
                    | true =>
                      have BN := Lib.hid (show behindC (C.take (j + 1)) ⟨xv, xk, xn⟩ = true from by rw [BX.out]; rfl)
                      go_wp2_with fail
                      go_roundw
                      case rel => exact ⟨j + 1, by have := HJ.out; omega, by go_num, by rw [BN.out], keeps_trans KY.out KL.out⟩
                      case measure => have := HJ.out; simp [intOf]; omega
                    | false =>
                      by_cases h1 : yk < xk
                      · have BN := Lib.hid (show behindC (C.take (j + 1)) ⟨xv, xk, xn⟩ = true from by rw [BX.out]; simp [NV.out, NR.out, aheadC, h1])
                        have t1 : decide (yk < xk) = true := decide_eq_true h1
                        have t2 : decide ((yk : Int) < (xk : Int)) = true := decide_eq_true (by omega)
                        clear h1
                        go_wp2_with fail
                        go_roundw
                        case rel => exact ⟨j + 1, by have := HJ.out; omega, by go_num, by rw [BN.out], keeps_trans KY.out KL.out⟩
                        case measure => have := HJ.out; simp [intOf]; omega
                      · have t1 : decide (yk < xk) = false := decide_eq_false h1
                        have t2 : decide ((yk : Int) < (xk : Int)) = false := decide_eq_false (by omega)
                        by_cases h2 : yk = xk
                        · obtain rfl := h2.symm
                          by_cases h3 : yv < xv
                          · have BN := Lib.hid (show behindC (C.take (j + 1)) ⟨xv, xk, xn⟩ = true from by rw [BX.out]; simp [NV.out, NR.out, aheadC, h3])
                            have t4 : decide (yv < xv) = true := decide_eq_true h3
                            have t5 : decide ((yv : Int) < (xv : Int)) = true := decide_eq_true (by omega)
                            clear h1 h3
                            go_wp2_with fail
                            go_roundw
                            case rel => exact ⟨j + 1, by have := HJ.out; omega, by go_num, by rw [BN.out], keeps_trans KY.out KL.out⟩
                            case measure => have := HJ.out; simp [intOf]; omega
                          · have BN := Lib.hid (show behindC (C.take (j + 1)) ⟨xv, xk, xn⟩ = false from by rw [BX.out]; simp [NV.out, NR.out, aheadC, h3])
                            have t4 : decide (yv < xv) = false := decide_eq_false h3
                            have t5 : decide ((yv : Int) < (xv : Int)) = false := decide_eq_false (by omega)
                            clear h1 h3
                            go_wp2_with fail
                            go_roundw
                            case rel => exact ⟨j + 1, by have := HJ.out; omega, by go_num, by rw [BN.out], keeps_trans KY.out KL.out⟩
                            case measure => have := HJ.out; simp [intOf]; omega
                        · have BN := Lib.hid (show behindC (C.take (j + 1)) ⟨xv, xk, xn⟩ = false from by rw [BX.out]; simp [NV.out, NR.out, aheadC, h1, h2])
                          have t3 : ((yk : Int) == (xk : Int)) = false := by simp only [beq_eq_false_iff_ne, ne_eq, Int.natCast_inj]; exact h2
                          clear h1 h2
                          go_wp2_with fail
                          go_roundw
                          case rel => exact ⟨j + 1, by have := HJ.out; omega, by go_num, by rw [BN.out], keeps_trans KY.out KL.out⟩
                          case measure => have := HJ.out; simp [intOf]; omega
                  · have M1 := N1.out _ (keeps_refl _)
                    rw [decide_eq_false hn1] at M1
                    have M1 := Lib.hid M1
                    by_cases hn2 : xv ∈ yn
                    · have NR := Lib.hid (show nearC ⟨xv, xk, xn⟩ ⟨yv, yk, yn⟩ = true by simp [nearC, hn2])
                      clear hn1
                      go_wp2_with fail
                      refine M1.out.mono ?_
                      rintro e w5 ⟨rfl, kj⟩
                      have M2 := N2.out _ kj
                      rw [decide_eq_true hn2] at M2
                      have M2 := Lib.hid M2
                      have KI := Lib.hid kj
                      obtain ⟨⟨a0, a1, a2⟩, d0, d1, d2⟩ := CELLS.out _ KI.out
                      clear hn2 kj
                      go_wp2_with fail
                      refine M2.out.mono ?_
                      rintro e w6 ⟨rfl, kj⟩
                      have KJ := Lib.hid (keeps_trans KI.out kj)
                      obtain ⟨⟨a0, a1, a2⟩, d0, d1, d2⟩ := CELLS.out _ KJ.out
                      clear kj
                      have H3 := Lib.hid (HOUT.out _ KJ.out yv)
                      rw [decide_eq_false (NOT.out NR.out)] at H3
                      go_wp2_with fail
                      refine H3.out.mono ?_
                      rintro e w7 ⟨rfl, k7⟩
                      have KL := Lib.hid (keeps_trans KJ.out k7)
                      obtain ⟨⟨a0, a1, a2⟩, d0, d1, d2⟩ := CELLS.out _ KL.out
                      cases bb with
                      | true =>
                        have BN := Lib.hid (show behindC (C.take (j + 1)) ⟨xv, xk, xn⟩ = true from by rw [BX.out]; rfl)
                        go_wp2_with fail
                        go_roundw
                        case rel => exact ⟨j + 1, by have := HJ.out; omega, by go_num, by rw [BN.out], keeps_trans KY.out KL.out⟩
                        case measure => have := HJ.out; simp [intOf]; omega
                      | false =>
                        by_cases h1 : yk < xk
                        · have BN := Lib.hid (show behindC (C.take (j + 1)) ⟨xv, xk, xn⟩ = true from by rw [BX.out]; simp [NV.out, NR.out, aheadC, h1])
                          have t1 : decide (yk < xk) = true := decide_eq_true h1
                          have t2 : decide ((yk : Int) < (xk : Int)) = true := decide_eq_true (by omega)
                          clear h1
                          go_wp2_with fail
                          go_roundw
                          case rel => exact ⟨j + 1, by have := HJ.out; omega, by go_num, by rw [BN.out], keeps_trans KY.out KL.out⟩
                          case measure => have := HJ.out; simp [intOf]; omega
                        · have t1 : decide (yk < xk) = false := decide_eq_false h1
                          have t2 : decide ((yk : Int) < (xk : Int)) = false := decide_eq_false (by omega)
                          by_cases h2 : yk = xk
                          · obtain rfl := h2.symm
                            by_cases h3 : yv < xv
                            · have BN := Lib.hid (show behindC (C.take (j + 1)) ⟨xv, xk, xn⟩ = true from by rw [BX.out]; simp [NV.out, NR.out, aheadC, h3])
                              have t4 : decide (yv < xv) = true := decide_eq_true h3
                              have t5 : decide ((yv : Int) < (xv : Int)) = true := decide_eq_true (by omega)
                              clear h1 h3
                              go_wp2_with fail
                              go_roundw
                              case rel => exact ⟨j + 1, by have := HJ.out; omega, by go_num, by rw [BN.out], keeps_trans KY.out KL.out⟩
                              case measure => have := HJ.out; simp [intOf]; omega
                            · have BN := Lib.hid (show behindC (C.take (j + 1)) ⟨xv, xk, xn⟩ = false from by rw [BX.out]; simp [NV.out, NR.out, aheadC, h3])
                              have t4 : decide (yv < xv) = false := decide_eq_false h3
                              have t5 : decide ((yv : Int) < (xv : Int)) = false := decide_eq_false (by omega)
                              clear h1 h3
                              go_wp2_with fail
                              go_roundw
                              case rel => exact ⟨j + 1, by have := HJ.out; omega, by go_num, by rw [BN.out], keeps_trans KY.out KL.out⟩
                              case measure => have := HJ.out; simp [intOf]; omega
                          · have BN := Lib.hid (show behindC (C.take (j + 1)) ⟨xv, xk, xn⟩ = false from by rw [BX.out]; simp [NV.out, NR.out, aheadC, h1, h2])
                            have t3 : ((yk : Int) == (xk : Int)) = false := by simp only [beq_eq_false_iff_ne, ne_eq, Int.natCast_inj]; exact h2
                            clear h1 h2
                            go_wp2_with fail
                            go_roundw
                            case rel => exact ⟨j + 1, by have := HJ.out; omega, by go_num, by rw [BN.out], keeps_trans KY.out KL.out⟩
                            case measure => have := HJ.out; simp [intOf]; omega
                    · have BN := Lib.hid (show behindC (C.take (j + 1)) ⟨xv, xk, xn⟩ = bb from by rw [BX.out]; simp [nearC, hn1, hn2])
                      clear hn1
                      go_wp2_with fail
                      refine M1.out.mono ?_
                      rintro e w5 ⟨rfl, kj⟩
                      have M2 := N2.out _ kj
                      rw [decide_eq_false hn2] at M2
                      have M2 := Lib.hid M2
                      have KI := Lib.hid kj
                      obtain ⟨⟨a0, a1, a2⟩, d0, d1, d2⟩ := CELLS.out _ KI.out
                      clear hn2 kj
                      go_wp2_with fail
                      refine M2.out.mono ?_
                      rintro e w6 ⟨rfl, kj⟩
                      have KJ := Lib.hid (keeps_trans KI.out kj)
                      clear kj
                      go_wp2_with fail
                      go_roundw
                      case rel => exact ⟨j + 1, by have := HJ.out; omega, by go_num, by rw [BN.out], keeps_trans KY.out KJ.out⟩
                      case measure => have := HJ.out; simp [intOf]; omega
              · have hjn : ¬ ((j : Int) < (m : Int)) := by omega
                rw [show C.take j = C from List.take_of_length_le (by have := HCL.out; omega), behindC_first, HIS.out]
                have KW := Lib.hid (keeps_trans KX.out JP.out)
                clear hjm hj
                go_wp2_with fail
                go_roundw
                case rel => exact ⟨i + 1, by have := HI.out; omega, by go_num, by rw [FN.out]; go_num, KW.out⟩
                case measure => have := HI.out; simp [intOf]; omega
        · have hkn : ¬ ((i : Int) < (m : Int)) := by omega
          rw [show C.take i = C from List.take_of_length_le (by have := HCL.out; omega), ← OLEN.out]
          have pmi : (p : Int) ≤ 100 := by have := LE.out; omega
          clear hi hlt
          go_wp2_with fail
          rename World => wo
          go_loopw [12] (fun q wr => ∃ j : Nat, (j = 0 ∨ j + 1 ≤ p) ∧ q = .int .i64 ((j : Int) + 1) ∧ Keeps w3 wr) (fun q _ => p - (intOf q).toNat)
          case atStart => exact ⟨0, .inl rfl, rfl, HK.out⟩
          case round =>
            obtain ⟨j, hj, rfl, hjp⟩ := hrel
            have JP := Lib.hid hjp
            clear hjp
            by_cases hjm : j + 1 < p
            · obtain ⟨x, hx⟩ : ∃ x, out[j]? = some x := ⟨_, List.getElem?_eq_getElem (by have := HPL.out; omega)⟩
              obtain ⟨y, hy⟩ : ∃ y, out[j + 1]? = some y := ⟨_, List.getElem?_eq_getElem (by have := HPL.out; omega)⟩
              have hxy := rise_get RISE.out hx hy
              obtain ⟨ad, hA, -, c1⟩ := celU_at O3.out hx
              obtain ⟨ad', hA', -, c2⟩ := celU_at O3.out hy
              subst hA
              obtain rfl := Option.some.inj hA'
              replace c1 := JP.out.cellOf c1
              replace c2 := JP.out.cellOf c2
              have t1 : decide (y ≤ x) = false := decide_eq_false (by omega)
              have t2 : decide ((y : Int) ≤ (x : Int)) = false := decide_eq_false (by omega)
              have hjn : (j : Int) + 1 < (p : Int) := by omega
              have hj0 : (0 : Int) ≤ (j : Int) := by omega
              have hjp1 : (j : Int) < (p : Int) := by omega
              have c3' : wr.cell? ⟨ad.block, ad.off + (j + 1), none⟩ = some (.int .u32 (y : Int)) := by rw [← c2]; unfold Addr.add; rw [if_neg (by omega)]
              have tj : ((j : Int) + 1).toNat = j + 1 := by omega
              have hj1 : (0 : Int) ≤ (j : Int) + 1 := by omega
              have wj : IntKind.i64.wrap (j : Int) = (j : Int) := by rw [IntKind.wrap_i64]; omega
              have HJ := Lib.hid hjm
              clear hx hy hxy hj hjm hA'
              go_wp2_with fail
              go_quiet (fail)
              go_wp2_with fail
              go_roundw
              case rel => exact ⟨j + 1, .inr (by have := HJ.out; omega), by go_num, keeps_trans JP.out (by first | exact keeps_drewN _ _ | exact keeps_drew _)⟩
              case measure => have := HJ.out; simp [intOf]; omega
            · have hjn : ¬ ((j : Int) + 1 < (p : Int)) := by omega
              clear hj hjm
              go_wp2_with fail
              refine (WW.out _).mono ?_
              rintro e w11 ⟨rfl, k11⟩
              go_wp2_with fail
              go_ret
              exact ⟨rfl, keeps_trans KW3.out (keeps_trans JP.out k11)⟩
end Go.Proofs.Ytdfaogagadoooaa
