/- Layer 16's statements: PickOrder. -/
import Derived.Test.YtdfaogagadoooaaLawPick4
namespace Go.Proofs.Ytdfaogagadoooaa
open Go.RowKit
set_option linter.unusedSimpArgs false
set_option linter.unusedVariables false
set_option maxRecDepth 100000

/-- two more that are near: another vertex, and itself -/
def extC (o : Nat) (x : Cn) : Cn := ⟨x.v, x.key, x.near ++ [o, x.v]⟩
theorem ext_near {o : Nat} {x y : Cn} (hx : x.v ≠ o) (hy : y.v ≠ o) (h : y.v ≠ x.v) : nearC (extC o x) (extC o y) = nearC x y := by
  simp only [nearC, extC, List.mem_append, List.mem_cons, List.mem_nil_iff, or_false]
  congr 1
  · rw [decide_eq_decide]
    constructor
    · rintro (h1 | h1 | h1)
      · exact h1
      · exact absurd h1 hy
      · exact absurd h1 h
    · exact .inl
  · rw [decide_eq_decide]
    constructor
    · rintro (h1 | h1 | h1)
      · exact h1
      · exact absurd h1 hx
      · exact absurd h1 (fun e => h e.symm)
    · exact .inl
theorem order_pick {C : List Cn} {o : Nat} {out : List Nat} {L : List Cn} (hC : onceC L = C) (ho : o ∉ C.map Cn.v) (h : IsPick L out) : IsPick ((C.reverse).map (extC o)) out := by
  have hv : (C.reverse.map (extC o)).map Cn.v = (C.map Cn.v).reverse := by
    rw [List.map_map, ← List.map_reverse]
    rfl
  have hT : onceC (C.reverse.map (extC o)) = C.reverse.map (extC o) := by
    refine onceC_self ?_
    rw [hv]
    have := onceC_nodup L
    rw [hC] at this
    exact List.pairwise_reverse.2 (this.imp (fun h e => h e.symm))
  have hno : ∀ x ∈ C, x.v ≠ o := fun x hx e => ho (e ▸ List.mem_map_of_mem hx)
  have hfirst : ∀ x ∈ C, firstC (C.reverse.map (extC o)) (extC o x) = firstC C x := fun x hx => by
    rw [Bool.eq_iff_iff, firstC_iff, firstC_iff]
    constructor
    · intro hf y hy hyv hn
      have := hf (extC o y) (List.mem_map_of_mem (List.mem_reverse.2 hy)) hyv (by rw [ext_near (hno x hx) (hno y hy) hyv]; exact hn)
      exact this
    · intro hf y hy hyv hn
      obtain ⟨z, hz, rfl⟩ := List.mem_map.1 hy
      rw [List.mem_reverse] at hz
      have hzv : z.v ≠ x.v := hyv
      rw [ext_near (hno x hx) (hno z hz) hzv] at hn
      exact hf z hz hzv hn
  refine ⟨h.rise, fun v => ?_⟩
  rw [h.mem, hT, hC]
  constructor
  · rintro ⟨x, hx, e, hf⟩
    exact ⟨extC o x, List.mem_map_of_mem (List.mem_reverse.2 hx), e, by rw [hfirst x hx]; exact hf⟩
  · rintro ⟨y, hy, e, hf⟩
    obtain ⟨x, hx, rfl⟩ := List.mem_map.1 hy
    rw [List.mem_reverse] at hx
    exact ⟨x, hx, e, by rw [← hfirst x hx]; exact hf⟩
theorem run_one3 {P : Program} (t e : TypeId) (ht : P.underlying t = some (.slice e)) (he : (P.info? e).map (·.size) = some 3) (ad : Addr) (n c k : Nat) (hk : k + 1 ≤ c) (w : World) :
    (Instr.sliceAt t (.slice (some ad) n c) (some (.int .i64 (k : Int))) (some (.int .i64 ((k : Int) + 1))) none).run P w = .ok (.slice (some (ad.add (k * 3))) 1 (c - k)) w := by
  have he' : P.elem t = e := by simp [Program.elem, ht]
  have ht' : P.underlying t = some (.slice (P.elem t)) := by rw [he']; exact ht
  obtain ⟨y, hy, hs⟩ := Option.map_eq_some_iff.1 he
  rw [run_sliceAt_slice (h := ht'), run_slice_lh (ht := ht') (h0 := by omega) (h1 := by omega) (h2 := by omega)]
  rw [he']
  have e1 : ((k : Int) + 1).toNat = k + 1 := by omega
  have e2 : ¬ (c - k = 0) := by omega
  have e4 : ¬ c = k := by omega
  have e3 : k + 1 - k = 1 := by omega
  simp [sizeOf, typeInfo, hy, hs, sliced, e1, e2, e3, e4]
theorem size_cand16 : (Try.prog.info? 33).map (·.size) = some 3 := by kernel_rfl
theorem drop_rev_next {C : List Cn} {k : Nat} {x : Cn} (hx : C[k]? = some x) (o : Nat) : ((C.drop k).reverse).map (extC o) = ((C.drop (k + 1)).reverse).map (extC o) ++ [extC o x] := by
  have hk := (List.getElem?_eq_some_iff.1 hx).1
  rw [List.drop_eq_getElem_cons hk, (List.getElem?_eq_some_iff.1 hx).2]
  simp
theorem drop_mem_next {C : List Cn} {k : Nat} {x : Cn} (hx : C[k]? = some x) (o : Nat) : o ∈ (C.drop k).map Cn.v ↔ o ∈ (C.drop (k + 1)).map Cn.v ∨ x.v = o := by
  have hk := (List.getElem?_eq_some_iff.1 hx).1
  rw [List.drop_eq_getElem_cons hk, (List.getElem?_eq_some_iff.1 hx).2]
  simp only [List.map_cons, List.mem_cons]
  constructor
  · rintro (h | h)
    · exact .inr h.symm
    · exact .inl h
  · rintro (h | h)
    · exact .inr h
    · exact .inl h.symm
theorem Own.away {w : World} {base size n : Nat} {e : TypeId} {v : Value} {xs : List Value} (h : Own w base e size v n xs) {p : Addr} (hp : ∀ k, v.ownBlock = some k → k ≠ p.block) (u : Value) : Own (w.setCell p u) base e size v n xs := h.same fun k hk => Below.heap_setCell w p u k (hp k hk)

set_option maxHeartbeats 16000000 in
theorem order16_walk (K : PickOk) (A : Option Addr) (n c : Nat) (l : List Cd) (o : Nat) (ho : o < 4294967296) (w : World) (hl : CdsAt w A l) (hn : n = l.length) (hc : n ≤ c) (hm : c ≤ maxLen) :
    Calls Try.prog 5 #[.slice A n c, .int .u32 (o : Int)] w (Yes w) := by
  obtain ⟨i0, hi, hz0, hz1, hz2⟩ := info_partsU info_cand
  obtain ⟨j0, hj, hy0, hy1, hy2⟩ := info_partsU info_u32P
  have LG := Lib.hid (large16_any A n c l w hl hn)
  have WW := Lib.hid (works16 K)
  have HL := Lib.hid hl
  have HN := Lib.hid hn
  have PK := Lib.hid K
  have HO_ := Lib.hid ho
  have PPl := Lib.hid (fun (W : World) (k : Keeps w W) (h1 : n ≤ 100) (h2 : ∀ x ∈ l, x.near.length ≤ 2000) => K.pick A n c l W (hl.keep k) hn (by omega) hc hm (fun x hx => by have := h2 x hx; omega))
  clear hl hn hm hc K ho
  go_enter Try.func5, Try.ntmps5
  go_wp2_with fail
  refine LG.out.mono ?_
  rintro e w1 ⟨b, rfl, k1, hf⟩
  cases b with
  | true =>
    clear hf
    go_wp2_with fail
    refine (WW.out _).mono ?_
    rintro e w9 ⟨rfl, k9⟩
    go_wp2_with fail
    go_ret
    exact ⟨rfl, keeps_trans k1 k9⟩
  | false =>
    obtain ⟨f1, f2⟩ := hf rfl
    have HN2 := Lib.hid (show n ≤ 100 by have := HN.out; omega)
    have ON := Lib.hid (once16_any A n c l w1 (HL.out.keep k1) HN.out (by have := HN2.out; omega))
    have OKs := Lib.hid (fun (x : Cd) (hx : x ∈ onceD l) => And.intro (HL.out.ok x (onceD_sub hx)) (f2 x (onceD_sub hx)))
    have OL := Lib.hid (show (onceD l).length ≤ 100 by have := onceD_len l; have := HN.out; have := HN2.out; omega)
    have PQ := Lib.hid (fun W k => PPl.out W k HN2.out f2)
    have K1 := Lib.hid k1
    have CE := Lib.hid (onceD_n l)
    clear f1 f2 k1 hf LG PPl
    obtain ⟨D, hD⟩ : ∃ D, onceD l = D := ⟨_, rfl⟩
    rw [hD] at ON OKs OL CE
    obtain ⟨C, hC⟩ : ∃ C, onceC (l.map Cd.n) = C := ⟨_, rfl⟩
    rw [hC] at CE
    have HC := Lib.hid hC
    obtain ⟨m, hm⟩ : ∃ m, D.length = m := ⟨_, rfl⟩
    rw [hm] at ON OL
    have HM := Lib.hid hm
    have HCL := Lib.hid (show C.length = m by rw [← CE.out, List.length_map, hm])
    clear hD hC hm
    go_wp2_with fail
    refine ON.out.mono ?_
    rintro e w2 ⟨v2, rfl, o2, k2⟩
    obtain ⟨A2, c2, rfl, hc2, -, -, -⟩ := o2.form
    have K2 := Lib.hid (keeps_trans K1.out k2)
    have HD := Lib.hid (CdsAt.mk o2.at_ (fun x hx => (OKs.out x hx).1.keep K2.out))
    have HC2 := Lib.hid hc2
    have hm3 : (m : Int) ≤ 100 := by have := OL.out; omega
    clear o2 k2 ON hc2
    go_wp2_with fail
    go_loopw [6, 7, 8] (fun u b q wr => ∃ (i : Nat) (z : Int) (l' : List Cd), i ≤ m ∧ z = (i : Int) - 1 ∧ q = .int .i64 z ∧ b = .bool (decide (o ∈ (C.drop i).map Cn.v)) ∧ l'.map Cd.n = ((C.drop i).reverse).map (extC o) ∧ Own wr w2.heap.size 33 3 u l'.length (cdsC l') ∧ (∀ x ∈ l', CdOwn wr w2.heap.size x) ∧ Keeps w2 wr) (fun _ _ q _ => (intOf q + 1).toNat)
    case atStart => exact ⟨m, _, [], Nat.le_refl _, rfl, rfl, by rw [List.drop_eq_nil_of_le (by have := HCL.out; omega)]; simp, by rw [List.drop_eq_nil_of_le (by have := HCL.out; omega)]; rfl, Own.nil _ _ _ _, by simp, keeps_refl _⟩
    case round =>
      obtain ⟨i, z, l', hi2, hz, rfl, rfl, hmap, hO, hall, hkp⟩ := hrel
      have HO := Lib.hid hO
      have HKP := Lib.hid hkp
      have HP := Lib.hid hmap
      have HA := Lib.hid hall
      have LL := Lib.hid (show l'.length + i = m by
        have h1 := congrArg List.length hmap
        rw [List.length_map, List.length_map, List.length_reverse, List.length_drop, HCL.out] at h1
        omega)
      obtain ⟨Ao, co, rfl, hco, hcm, -, -⟩ := hO.form
      clear hO hkp hmap hall
      rcases i with _ | k
      · have hz1 : z = -1 := by omega
        subst hz1
        rw [show C.drop 0 = C from rfl]
        have F3 := Lib.hid (show ∀ x ∈ l', x.near.length ≤ 100000 from fun x hx => by
          have h1 : x.n ∈ (C.drop 0).reverse.map (extC o) := by rw [← HP.out]; exact List.mem_map_of_mem hx
          obtain ⟨y, hy, e⟩ := List.mem_map.1 h1
          have hyC : y ∈ C := by simpa using hy
          rw [← CE.out] at hyC
          obtain ⟨d, hd, e3⟩ := List.mem_map.1 hyC
          have e2 : y.near ++ [o, y.v] = x.near := congrArg Cn.near e
          have e4 : d.near = y.near := congrArg Cn.near e3
          have := (OKs.out d hd).2
          rw [← e2, List.length_append, ← e4]
          simp only [List.length_cons, List.length_nil]
          omega)
        have PP := Lib.hid (PK.out.pick Ao l'.length co l' wr (CdsAt.mk HO.out.at_ (fun x hx => (HA.out x hx).cd)) rfl (by have := LL.out; have := OL.out; omega) hco hcm F3.out)
        have KWr := Lib.hid (keeps_trans K2.out HKP.out)
        have HP0 := Lib.hid (show l'.map Cd.n = (C.reverse).map (extC o) from HP.out)
        clear hi2 hz
        by_cases hin : o ∈ C.map Cn.v
        · rw [decide_eq_true hin]
          clear hin
          go_wp2_with fail
          refine (WW.out _).mono ?_
          rintro e w11 ⟨rfl, k11⟩
          go_wp2_with fail
          go_ret
          exact ⟨rfl, keeps_trans KWr.out k11⟩
        · rw [decide_eq_false hin]
          have HIN := Lib.hid hin
          clear hin
          go_wp2_with fail
          refine PP.out.mono ?_
          rintro e w3 ⟨v3, out, rfl, hp, o3, k3⟩
          obtain ⟨A3, c3, rfl, -, -, -, -⟩ := o3.form
          have PP3 := Lib.hid (PQ.out w3 (keeps_trans KWr.out k3))
          have O3 := Lib.hid o3
          have K3 := Lib.hid k3
          have HP3 := Lib.hid hp
          clear o3 k3 hp PP PQ
          go_wp2_with fail
          refine PP3.out.mono ?_
          rintro e w4 ⟨v4, out4, rfl, hp4, o4, k4⟩
          have hp5 := order_pick HC.out HIN.out hp4
          rw [← HP0.out] at hp5
          obtain rfl : out4 = out := hp5.unique HP3.out
          obtain ⟨A4, c4, rfl, -, -, -, -⟩ := o4.form
          have EQ := Lib.hid (by
            have hl4 := hp4.len
            rw [List.length_map] at hl4
            have h := eq16_any A3 A4 out4.length c3 out4.length c4 out4 out4 w4 (O3.out.keep k4).at_ o4.at_ rfl rfl (by have := HN.out; have := HN2.out; omega) (by have := HN.out; have := HN2.out; omega)
            rw [decide_eq_true (rfl : out4 = out4)] at h
            exact h)
          have K4 := Lib.hid (keeps_trans K3.out k4)
          clear o4 k4 hp4 hp5
          go_wp2_with fail
          refine EQ.out.mono ?_
          rintro e w5 ⟨rfl, k5⟩
          go_wp2_with fail
          refine (WW.out _).mono ?_
          rintro e w11 ⟨rfl, k11⟩
          go_wp2_with fail
          go_ret
          exact ⟨rfl, keeps_trans KWr.out (keeps_trans K4.out (keeps_trans k5 k11))⟩
      · obtain rfl : z = (k : Int) := by omega
        have HI := Lib.hid (show k < m by omega)
        obtain ⟨x, hx⟩ : ∃ x, D[k]? = some x := ⟨_, List.getElem?_eq_getElem (by have := HM.out; have := HI.out; omega)⟩
        have CX := cn_get hx
        rw [CE.out] at CX
        have DR := Lib.hid (drop_rev_next CX o)
        have DM := Lib.hid (drop_mem_next CX o)
        have XO := Lib.hid (OKs.out x (List.mem_of_getElem? hx))
        obtain ⟨ad, hA, hadb, hXd⟩ := cds_at HD.out.cells hx
        subst hA
        have XD := Lib.hid hXd
        obtain ⟨b0, b1, b2⟩ := hXd.keep HKP.out
        have hkn : (k : Int) < (m : Int) := by have := HI.out; omega
        have hk0 : (0 : Int) ≤ (k : Int) := by omega
        obtain ⟨xv, xk, XA, xc, xn⟩ := x
        simp only at b0 b1 b2
        have SL := run_one3 (P := Try.prog) 22 33 Try.underlying22 size_cand16 ad m c2 k (by have := HI.out; have := HC2.out; omega)
        have CA := Lib.hid (show CdsAt wr (some (ad.add (k * 3))) [(⟨xv, xk, XA, xc, xn⟩ : Cd)] from by
          have hkw := keeps_trans K2.out HKP.out
          refine ⟨.inr ⟨_, rfl, by rw [addr_block]; exact Nat.lt_of_lt_of_le hadb HKP.out.size, fun j u hu => ?_⟩, fun y hy => by rw [List.mem_singleton] at hy; subst hy; exact XO.out.1.keep hkw⟩
          have hj : j < 3 := by have := (List.getElem?_eq_some_iff.1 hu).1; simpa [cdsC, cdC] using this
          have p1 : ∀ (p : Addr) (k : Nat), 0 < k → p.add k = ⟨p.block, p.off + k, none⟩ := fun p k hk => by unfold Addr.add; rw [if_neg (by omega)]
          rcases (show j = 0 ∨ j = 1 ∨ j = 2 by omega) with rfl | rfl | rfl
          · obtain rfl := Option.some.inj hu
            exact b0
          · obtain rfl := Option.some.inj hu
            rw [p1 _ 1 (by decide)]
            exact b1
          · obtain rfl := Option.some.inj hu
            rw [p1 _ 2 (by decide)]
            exact b2)
        have CP := Lib.hid (copied16_any (some (ad.add (k * 3))) 1 (c2 - k) [(⟨xv, xk, XA, xc, xn⟩ : Cd)] wr CA.out rfl (by decide) (fun y hy => by rw [List.mem_singleton] at hy; subst hy; have := XO.out.2; simp only at this ⊢; omega))
        obtain ⟨bi, hbi⟩ : ∃ bi, decide (o ∈ (C.drop (k + 1)).map Cn.v) = bi := ⟨_, rfl⟩
        rw [hbi]
        have HBI := Lib.hid hbi
        obtain ⟨ml, hml⟩ : ∃ ml, l'.length = ml := ⟨_, rfl⟩
        rw [hml] at HO LL ⊢
        have HML := Lib.hid hml
        clear hx CX hXd hadb hi2 hz hbi hml hco hcm
        go_wp2_with fail
        refine CP.out.mono ?_
        rintro e w3 ⟨v3, l1, rfl, m1, o3, a3, k3⟩
        obtain ⟨x', rfl⟩ : ∃ x', l1 = [x'] := by
          have h1 := congrArg List.length m1
          simp only [List.length_map, List.length_cons, List.length_nil] at h1
          rcases l1 with _ | ⟨x', _ | ⟨_, _⟩⟩
          · simp at h1
          · exact ⟨x', rfl⟩
          · simp at h1
        have hn1 : x'.n = (⟨xv, xk, xn⟩ : Cn) := by simpa [Cd.n] using m1
        obtain ⟨xv', xk', XB, xd, xn'⟩ := x'
        simp only [Cd.n, Cn.mk.injEq] at hn1
        obtain ⟨rfl, rfl, rfl⟩ := hn1
        have CO := Lib.hid (a3 _ (List.mem_singleton.2 rfl))
        obtain ⟨A3, c3, rfl, -, -, -, -⟩ := o3.form
        obtain ⟨g, rfl, d0, -, hgb⟩ := o3.cell (j := 0) (by simp [cdsC, cdC])
        obtain ⟨g1, e1, d1, -, -⟩ := o3.cell (j := 1) (by simp [cdsC, cdC])
        obtain ⟨g2, e2, d2, -, -⟩ := o3.cell (j := 2) (by simp [cdsC, cdC])
        obtain rfl : g = g1 := by injection e1 with e1; injection e1
        obtain rfl : g = g2 := by injection e2 with e2; injection e2
        have d0' : w3.cell? ⟨g, 0, none⟩ = some (.int .u32 (xv' : Int)) := d0
        have d1' : w3.cell? ⟨g, 1, none⟩ = some (.int .u64 (xk' : Int)) := d1
        have d2' : w3.cell? ⟨g, 2, none⟩ = some (.slice XB xn'.length xd) := d2
        have BX := Lib.hid (Box.new w3 33 #[.int .u32 (xv' : Int), .int .u64 (xk' : Int), .slice XB xn'.length xd])
        have kB := keeps_alloc w3 (.cells #[.int .u32 (xv' : Int), .int .u64 (xk' : Int), .slice XB xn'.length xd] 33)
        have CO4 := Lib.hid (CO.out.keep kB)
        have KR := Lib.hid (keeps_trans k3 kB)
        have NB := Lib.hid (show ∀ k', (Value.slice XB xn'.length xd).ownBlock = some k' → wr.heap.size ≤ k' ∧ k' < w3.heap.size from fun k' hk' => CO.out.own.lt k' hk')
        have LTB := Lib.hid k3.size
        obtain ⟨q, hq⟩ : ∃ q, xn'.length = q := ⟨_, rfl⟩
        have HQ := Lib.hid hq
        have XNl := Lib.hid (show q ≤ 2000 by rw [← hq]; exact XO.out.2)
        have y0 : (w3.alloc (.cells #[.int .u32 (xv' : Int), .int .u64 (xk' : Int), .slice XB xn'.length xd] 33)).cell? ⟨w3.heap.size, 0, none⟩ = some (.int .u32 (xv' : Int)) := BX.out.cell 0 rfl
        have y1 : (w3.alloc (.cells #[.int .u32 (xv' : Int), .int .u64 (xk' : Int), .slice XB xn'.length xd] 33)).cell? ⟨w3.heap.size, 1, none⟩ = some (.int .u64 (xk' : Int)) := BX.out.cell 1 rfl
        have y2 : (w3.alloc (.cells #[.int .u32 (xv' : Int), .int .u64 (xk' : Int), .slice XB xn'.length xd] 33)).cell? ⟨w3.heap.size, 2, none⟩ = some (.slice XB xn'.length xd) := BX.out.cell 2 rfl
        have CO5 := Lib.hid (show Own ((w3.alloc (.cells #[.int .u32 (xv' : Int), .int .u64 (xk' : Int), .slice XB xn'.length xd] 33)).alloc (.cells #[.int .u32 (o : Int), .int .u32 (xv' : Int)] 30)) wr.heap.size 30 1 (.slice XB q xd) q (celU xn') by
          have h := (CO4.out.keep (keeps_alloc _ (.cells #[.int .u32 (o : Int), .int .u32 (xv' : Int)] 30))).own
          simp only [hq] at h ⊢
          exact h)
        have AT2 := Lib.hid (show At ((w3.alloc (.cells #[.int .u32 (xv' : Int), .int .u64 (xk' : Int), .slice XB xn'.length xd] 33)).alloc (.cells #[.int .u32 (o : Int), .int .u32 (xv' : Int)] 30)) ((w3.alloc (.cells #[.int .u32 (xv' : Int), .int .u64 (xk' : Int), .slice XB xn'.length xd] 33)).alloc (.cells #[.int .u32 (o : Int), .int .u32 (xv' : Int)] 30)).heap.size (some ⟨w3.heap.size + 1, 0, none⟩) (celU [o, xv']) by
          have h := At.new (w3.alloc (.cells #[.int .u32 (xv' : Int), .int .u64 (xk' : Int), .slice XB xn'.length xd] 33)) (celU [o, xv']) 30 ((w3.alloc (.cells #[.int .u32 (xv' : Int), .int .u64 (xk' : Int), .slice XB xn'.length xd] 33)).alloc (.cells #[.int .u32 (o : Int), .int .u32 (xv' : Int)] 30)).heap.size (by simp)
          rw [show (w3.alloc (.cells #[.int .u32 (xv' : Int), .int .u64 (xk' : Int), .slice XB xn'.length xd] 33)).heap.size = w3.heap.size + 1 from World.size_alloc _ _] at h
          exact h)
        have BX5 := Lib.hid (BX.out.keep (keeps_alloc _ (.cells #[.int .u32 (o : Int), .int .u32 (xv' : Int)] 30)))
        have KR5 := Lib.hid (keeps_trans KR.out (keeps_alloc _ (.cells #[.int .u32 (o : Int), .int .u32 (xv' : Int)] 30)))
        have SZ5 := Lib.hid (show ((w3.alloc (.cells #[.int .u32 (xv' : Int), .int .u64 (xk' : Int), .slice XB xn'.length xd] 33)).alloc (.cells #[.int .u32 (o : Int), .int .u32 (xv' : Int)] 30)).heap.size = w3.heap.size + 2 by simp)
        simp only [hq] at CO5 AT2 BX5 KR5 SZ5 y0 y1 y2 BX NB
        clear m1 o3 a3 CP CA d0 d1 d2 e1 e2 k3 kB
        go_wp2_with (at_builtin; generalize (w3.alloc (.cells #[.int .u32 (xv' : Int), .int .u64 (xk' : Int), .slice XB q xd] 33)).alloc (.cells #[.int .u32 (o : Int), .int .u32 (xv' : Int)] 30) = W5 at *; refine wpList_app _ rfl _ _ 26 rfl wr.heap.size 30 j0 (.int .u32 0) 1 4 Try.underlying26 hj hy0 hy1 hy2 rfl (by decide) _ q (celU xn') rfl CO5.out _ _ 2 2 (celU [o, xv']) rfl rfl AT2.out (celU_one _) (by have := XNl.out; unfold maxLen; omega) (by have := XNl.out; omega) KR5.out.size ?_)
        intro v6 w6 o6 g6 b6
        have k6 : Keeps wr w6 := Below.grown KR5.out g6 KR5.out.size (fun g hg => (CO5.out.lt g hg).1)
        have BX6 : Box w6 w3.heap.size 33 #[.int .u32 (xv' : Int), .int .u64 (xk' : Int), .slice XB q xd] := (g6.block _ BX5.out.lt (fun e => by have := (NB.out _ e.symm).2; omega)).trans BX5.out
        have NE6 : ∀ k', v6.ownBlock = some k' → k' ≠ w3.heap.size := fun k' hk' => by
          rcases b6 with b6 | b6
          · rw [b6] at hk'
            have := (NB.out _ hk').2
            omega
          · rw [b6] at hk'
            have := Option.some.inj hk'
            have := SZ5.out
            omega
        have LT6 := BX6.lt
        obtain ⟨A6, c6, rfl, -, -, -, -⟩ := o6.form
        have N0 : w6.cell? ⟨w3.heap.size, 0, none⟩ = some (.int .u32 (xv' : Int)) := BX6.cell 0 rfl
        have N1 : w6.cell? ⟨w3.heap.size, 1, none⟩ = some (.int .u64 (xk' : Int)) := BX6.cell 1 rfl
        have N2 : w6.cell? ⟨w3.heap.size, 2, none⟩ = some (.slice XB q xd) := BX6.cell 2 rfl
        have F2_ := BX6.frozen 2
        have BY : Box (w6.setCell ⟨w3.heap.size, 2, none⟩ (.slice A6 (q + 2) c6)) w3.heap.size 33 #[.int .u32 (xv' : Int), .int .u64 (xk' : Int), .slice A6 (q + 2) c6] := BX6.set 2 _
        have O7 := Lib.hid (o6.away (p := ⟨w3.heap.size, 2, none⟩) NE6 (.slice A6 (q + 2) c6))
        have K7 := Lib.hid (show Keeps wr (w6.setCell ⟨w3.heap.size, 2, none⟩ (.slice A6 (q + 2) c6)) from k6.setCell (p := ⟨w3.heap.size, 2, none⟩) LTB.out _)
        have z0 : (w6.setCell ⟨w3.heap.size, 2, none⟩ (.slice A6 (q + 2) c6)).cell? ⟨w3.heap.size, 0, none⟩ = some (.int .u32 (xv' : Int)) := BY.cell 0 rfl
        have z1 : (w6.setCell ⟨w3.heap.size, 2, none⟩ (.slice A6 (q + 2) c6)).cell? ⟨w3.heap.size, 1, none⟩ = some (.int .u64 (xk' : Int)) := BY.cell 1 rfl
        have z2 : (w6.setCell ⟨w3.heap.size, 2, none⟩ (.slice A6 (q + 2) c6)).cell? ⟨w3.heap.size, 2, none⟩ = some (.slice A6 (q + 2) c6) := BY.cell 2 rfl
        obtain ⟨W7, hW7⟩ : ∃ W7, w6.setCell ⟨w3.heap.size, 2, none⟩ (.slice A6 (q + 2) c6) = W7 := ⟨_, rfl⟩
        rw [hW7] at O7 K7 z0 z1 z2
        have HW7 := Lib.hid hW7
        have SZ7 := Lib.hid (show W7.heap.size = w6.heap.size by rw [← hW7]; simp)
        have NL := Lib.hid (show (xn' ++ [o, xv']).length = q + 2 by rw [List.length_append, HQ.out]; rfl)
        have NEW := Lib.hid (show CdOwn W7 w2.heap.size ⟨xv', xk', A6, c6, xn' ++ [o, xv']⟩ from ⟨XO.out.1.v, XO.out.1.key, fun y hy => by
          rcases List.mem_append.1 hy with hy | hy
          · exact XO.out.1.ok y hy
          · simp only [List.mem_cons, List.mem_nil_iff, or_false] at hy
            rcases hy with rfl | rfl
            · exact HO_.out
            · exact XO.out.1.v, by
          have h := O7.out.base_le HKP.out.size
          simp only [NL.out]
          have e : celU (xn' ++ [o, xv']) = celU xn' ++ celU [o, xv'] := by simp [celU]
          rw [e]
          exact h⟩)
        have HO7 := Lib.hid (HO.out.keep K7.out)
        have HA7 := Lib.hid (fun y hy => (HA.out y hy).keep K7.out)
        have KW7 := Lib.hid (keeps_trans HKP.out K7.out)
        have b7 := (keeps_trans HKP.out k6).cellOf (XD.out.1)
        clear o6 g6 b6 k6 BX6 NE6 BY y0 y1 y2 hq hW7
        have AT := Lib.hid (show At (W7.alloc (.cells #[.int .u32 (xv' : Int), .int .u64 (xk' : Int), .slice A6 (q + 2) c6] 33)) (W7.alloc (.cells #[.int .u32 (xv' : Int), .int .u64 (xk' : Int), .slice A6 (q + 2) c6] 33)).heap.size (some ⟨w6.heap.size, 0, none⟩) (cdC ⟨xv', xk', A6, c6, xn' ++ [o, xv']⟩) by
          have h := At.new W7 [.int .u32 (xv' : Int), .int .u64 (xk' : Int), .slice A6 (q + 2) c6] 33 ((W7.alloc (.cells #[.int .u32 (xv' : Int), .int .u64 (xk' : Int), .slice A6 (q + 2) c6] 33)).heap.size) (by simp)
          rw [SZ7.out] at h
          unfold cdC
          simp only [NL.out]
          exact h)
        go_wp2_with (at_builtin; rw [HW7.out]; refine wpList_app _ rfl _ _ 22 rfl w2.heap.size 33 i0 (.agg #[.int .u32 0, .int .u64 0, .slice none 0 0]) 3 40 Try.underlying22 hi hz0 hz1 hz2 rfl (by decide) _ ml (cdsC l') rfl (HO7.out.keep (keeps_alloc _ _)) _ _ 1 1 (cdC ⟨xv', xk', A6, c6, xn' ++ [o, xv']⟩) rfl rfl AT.out (cdC_ones _) (by have := LL.out; have := OL.out; unfold maxLen; omega) (by have := LL.out; have := OL.out; omega) (keeps_trans KW7.out (keeps_alloc _ _)).size ?_)
        intro v8 w8 o8 g8 b8
        have kB := keeps_alloc W7 (.cells #[.int .u32 (xv' : Int), .int .u64 (xk' : Int), .slice A6 (q + 2) c6] 33)
        have k8 : Keeps w2 w8 := Below.grown (keeps_trans KW7.out kB) g8 (keeps_trans KW7.out kB).size (fun g hg => (HO7.out.lt g hg).1)
        have O8 := Lib.hid (show Own w8 w2.heap.size 33 3 v8 (l' ++ [(⟨xv', xk', A6, c6, xn' ++ [o, xv']⟩ : Cd)]).length (cdsC (l' ++ [(⟨xv', xk', A6, c6, xn' ++ [o, xv']⟩ : Cd)])) by
          rw [cdsC_put, List.length_append, HML.out]
          exact o8)
        have A8 := Lib.hid (show ∀ y ∈ l' ++ [(⟨xv', xk', A6, c6, xn' ++ [o, xv']⟩ : Cd)], CdOwn w8 w2.heap.size y from fun y hy => by
          rcases List.mem_append.1 hy with hy | hy
          · exact ((HA7.out y hy).keep kB).grown (HO7.out.keep kB) g8
          · rw [List.mem_singleton] at hy
            subst hy
            exact (NEW.out.keep kB).grown (HO7.out.keep kB) g8)
        have MP := Lib.hid (show (l' ++ [(⟨xv', xk', A6, c6, xn' ++ [o, xv']⟩ : Cd)]).map Cd.n = ((C.drop k).reverse).map (extC o) by
          rw [List.map_append, HP.out, DR.out]
          rfl)
        have K8 := Lib.hid k8
        obtain ⟨d0, d1, d2⟩ := XD.out.keep k8
        clear o8 g8 b8 kB k8 AT z0 z1 z2 N0 N1 N2 F2_
        simp only at d0 d1 d2
        cases bi with
        | true =>
          have BN := Lib.hid (show decide (o ∈ (C.drop k).map Cn.v) = true from decide_eq_true (DM.out.2 (.inl (of_decide_eq_true HBI.out))))
          go_wp2_with fail
          go_roundw
          case rel => exact ⟨k, _, _, by have := HI.out; omega, rfl, rfl, by rw [BN.out], MP.out, O8.out, A8.out, K8.out⟩
          case measure => simp [intOf]
        | false =>
          by_cases hvo : xv' = o
          · have BN := Lib.hid (show decide (o ∈ (C.drop k).map Cn.v) = true from decide_eq_true (DM.out.2 (.inr hvo)))
            have t4 : ((xv' : Int) == (o : Int)) = true := by rw [hvo]; simp
            clear hvo
            go_wp2_with fail
            go_roundw
            case rel => exact ⟨k, _, _, by have := HI.out; omega, rfl, rfl, by rw [BN.out], MP.out, O8.out, A8.out, K8.out⟩
            case measure => simp [intOf]
          · have BN := Lib.hid (show decide (o ∈ (C.drop k).map Cn.v) = false from decide_eq_false (fun h => by
              rcases DM.out.1 h with h | h
              · exact of_decide_eq_false HBI.out h
              · exact hvo h))
            have t4 : ((xv' : Int) == (o : Int)) = false := by simp only [beq_eq_false_iff_ne, ne_eq, Int.natCast_inj]; exact hvo
            clear hvo
            go_wp2_with fail
            go_roundw
            case rel => exact ⟨k, _, _, by have := HI.out; omega, rfl, rfl, by rw [BN.out], MP.out, O8.out, A8.out, K8.out⟩
            case measure => simp [intOf]
end Go.Proofs.Ytdfaogagadoooaa
