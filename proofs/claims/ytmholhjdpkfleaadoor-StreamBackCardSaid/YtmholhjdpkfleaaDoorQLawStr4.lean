/- StreamBack. (Written by mkback11.py.) -/
import Derived.Test.YtmholhjdpkfleaaDoorQLawStr2
import Derived.Test.YtmholhjdpkfleaaDoorQStrDo2
namespace Go.Proofs.YtmholhjdpkfleaaDoor
open Go.RowKit
set_option linter.unusedSimpArgs false
set_option linter.unusedVariables false
set_option maxRecDepth 100000

/-- a record that came in -/
structure Rc where
  A : Option Addr
  c : Nat
  b : List UInt8
def rcV (x : Rc) : Value := .slice x.A x.b.length x.c
structure RcOk (w : World) (x : Rc) : Prop where
  at_ : At w w.heap.size x.A (cel x.b)
  len : x.b.length ≤ 65536
theorem eqBytes_yes (A : Option Addr) (n c : Nat) (b : List UInt8) (B : Option Addr) (d : Nat) (w : World) (hA : Bs w A b) (hn : n = b.length) (hB : Bs w B b) :
    Calls Tryd.prog 11 #[.slice A n c, .slice B n d] w fun e w' => e = .returned (.bool true) ∧ w = w' :=
  (eqBytes_any A n c b B n d b w hA hn hB hn).mono fun e w' h => ⟨by rw [h.1, decide_eq_true rfl], h.2⟩
theorem rk_push {w : World} {rs : List Rc} {y : Rc} (h : ∀ x ∈ rs, RcOk w x) (hy : RcOk w y) : ∀ x ∈ rs ++ [y], RcOk w x := fun x hx => by
  rcases List.mem_append.1 hx with hx | hx
  · exact h x hx
  · rw [List.mem_singleton] at hx
    rw [hx]
    exact hy
theorem rk_set {w : World} {rs : List Rc} {y : Rc} {i : Nat} (h : ∀ x ∈ rs, RcOk w x) (hy : RcOk w y) : ∀ x ∈ rs.set i y, RcOk w x := fun x hx => by
  rcases List.mem_or_eq_of_mem_set hx with hx | hx
  · exact h x hx
  · rw [hx]
    exact hy
theorem info_rc : (Tryd.prog.info? 31).map (fun i => (i.zero, i.size, i.bytes)) = some (some (.slice none 0 0), 1, 24) := by kernel_rfl
theorem str_rc : 68 ≠ 31 := by decide
theorem op_rc : 33 ≠ 31 := by decide
section
variable {p : Pst} {size c : Nat} {rs : List (List UInt8)} {o : Op11}
theorem dt_len (h : HealS p size rs c) (hc : c ≤ 1000) (e : o.kind = 0) : (doT p size o).2 = ([], rs.length, 0) ∧ HealS (doT p size o).1 size rs c := by
  obtain ⟨h1, h2⟩ := h.len hc
  have hd : doT p size o = ((lenT p sN size).1, [], (lenT p sN size).2.1, (lenT p sN size).2.2) := by unfold doT; rw [e]; rfl
  rw [hd, h1]
  exact ⟨rfl, h2⟩
theorem dt_get (h : HealS p size rs c) (hc : c ≤ 1000) (e : o.kind = 1) {i : Nat} (hi : o.i = (i : Int)) {r : List UInt8} (hr : rs[i]? = some r) : (doT p size o).2 = (r, 0, 0) ∧ HealS (doT p size o).1 size rs c := by
  obtain ⟨h1, h2⟩ := h.get hc hr
  have hd : doT p size o = ((getT p sN size o.i).1, (getT p sN size o.i).2.1, 0, (getT p sN size o.i).2.2) := by unfold doT; rw [e]; rfl
  rw [hd, hi, h1]
  exact ⟨rfl, h2⟩
theorem dt_get_no (h : HealS p size rs c) (hc : c ≤ 1000) (e : o.kind = 1) (hi : o.i < 0 ∨ rs.length ≤ o.i.toNat) : ∃ E, E ≠ 0 ∧ (doT p size o).2 = ([], 0, E) ∧ HealS (doT p size o).1 size rs c := by
  obtain ⟨E, h1, h3, h2⟩ := h.get_no hc hi
  have hd : doT p size o = ((getT p sN size o.i).1, (getT p sN size o.i).2.1, 0, (getT p sN size o.i).2.2) := by unfold doT; rw [e]; rfl
  rw [hd, h1]
  exact ⟨E, h3, rfl, h2⟩
theorem dt_add (h : HealS p size rs c) (hc : c ≤ 999) (e : o.kind = 2) (hr : o.b.length = size) : (doT p size o).2 = (o.b, 0, 0) ∧ HealS (doT p size o).1 size (rs ++ [o.b]) (c + 1) := by
  obtain ⟨h1, h2⟩ := h.add hc hr
  have hd : doT p size o = ((addT p sN size o.b).1, o.b, 0, (addT p sN size o.b).2) := by unfold doT; rw [e]; rfl
  rw [hd, h1]
  exact ⟨rfl, h2⟩
theorem dt_add_no (h : HealS p size rs c) (e : o.kind = 2) (hr : o.b.length ≠ size) : (doT p size o).2 = (o.b, 0, 1) ∧ HealS (doT p size o).1 size rs c := by
  have h1 := h.add_no hr
  have hd : doT p size o = ((addT p sN size o.b).1, o.b, 0, (addT p sN size o.b).2) := by unfold doT; rw [e]; rfl
  rw [hd, h1]
  exact ⟨rfl, h⟩
theorem dt_set (h : HealS p size rs c) (hc : c ≤ 999) (e : o.kind = 3) {i : Nat} (hi : o.i = (i : Int)) (hl : i < rs.length) (hr : o.b.length = size) : (doT p size o).2 = (o.b, 0, 0) ∧ HealS (doT p size o).1 size (rs.set i o.b) (c + 1) := by
  obtain ⟨h1, h2⟩ := h.set hc hl hr
  have hd : doT p size o = ((setT p sN size o.i o.b).1, o.b, 0, (setT p sN size o.i o.b).2) := by unfold doT; rw [e]; rfl
  rw [hd, hi, h1]
  exact ⟨rfl, h2⟩
theorem dt_set_no (h : HealS p size rs c) (hc : c ≤ 1000) (e : o.kind = 3) (hi : o.b.length ≠ size ∨ o.i < 0 ∨ rs.length ≤ o.i.toNat) : ∃ E, E ≠ 0 ∧ (doT p size o).2 = (o.b, 0, E) ∧ HealS (doT p size o).1 size rs c := by
  obtain ⟨h1, h2⟩ := h.set_no hc hi
  have hd : doT p size o = ((setT p sN size o.i o.b).1, o.b, 0, (setT p sN size o.i o.b).2) := by unfold doT; rw [e]; rfl
  rw [hd]
  exact ⟨_, h1, rfl, h2⟩
theorem dt_rest (h : HealS p size rs c) (hc : c ≤ 1000) (h0 : o.kind ≠ 0) (h1 : o.kind ≠ 1) (h2 : o.kind ≠ 2) (h3 : o.kind ≠ 3) : (doT p size o).2 = ([], 0, 0) ∧ HealS (doT p size o).1 size rs c := by
  by_cases e : o.kind = 5
  · obtain ⟨f1, f2⟩ := h.flush hc
    have hd : doT p size o = ((flushPl p sN).1, [], 0, (flushPl p sN).2) := by unfold doT; rw [e]; rfl
    rw [hd, f1]
    exact ⟨rfl, f2⟩
  · have hd : doT p size o = (p, [], 0, 0) := by
      unfold doT
      rw [if_neg h0, if_neg h1, if_neg h2, if_neg h3, if_neg e]
    rw [hd]
    exact ⟨rfl, h⟩
end
set_option maxHeartbeats 64000000 in
theorem back11_walk (K : DiskOk) (PK : PageOk) (m : Int) (hmI : IsI m) (z : Int) (hzI : IsI z) (A : Option Addr) (len c : Nat) (l : List Op11) (w : World) (hZ : K.Z w) (hS : Sizes w) (hO : Ops11At w A l) (hlen : len = l.length) (hm : len ≤ 9223372036854775807) :
    Calls Tryd.prog 3 #[.int .i64 m, .int .i64 z, .slice A len c] w (Yes11 w) := by
  obtain ⟨i1, hi1, hy0, hy1, hy2⟩ := info_parts info_rc
  have WK := Lib.hid (fun (W : World) (q : Keeps w W) => works11 K PK W (K.keep hZ q) (hS.keep q))
  have VA := Lib.hid (vast11_any m A len c l w hO hlen hm)
  have BG := Lib.hid (fun (W : World) (kk : Keeps w W) (n s : Nat) (hn : 1 ≤ n ∧ n ≤ 4096) (hs : 1 ≤ s ∧ s ≤ 240) => begun_any K W (K.keep hZ kk) hn hs)
  have HO := Lib.hid hO
  have HL := Lib.hid hlen
  have HZ := Lib.hid hZ
  have HS := Lib.hid hS
  clear hZ hS hO hlen
  go_enter Tryd.func3, Tryd.ntmps3
  go_wp2_with fail
  refine VA.out.mono ?_
  rintro e w1 ⟨v, rfl, k1, hv⟩
  have K1 := Lib.hid k1
  clear k1
  rcases v with _ | _
  · obtain ⟨few, hm64⟩ := hv rfl
    have FEW := Lib.hid few
    clear hv few
    by_cases hm1 : m < 1
    · go_wp2_with fail
      refine (WK.out _ K1.out).mono ?_
      rintro e w9 ⟨rfl, k9⟩
      have K9 := Lib.hid (keeps_trans K1.out k9)
      clear k9
      go_wp2_with fail
      go_ret
      exact ⟨rfl, K9.out⟩
    · have hm1b : decide (m < 1) = false := decide_eq_false hm1
      by_cases hz1 : z < 1
      · go_wp2_with fail
        refine (WK.out _ K1.out).mono ?_
        rintro e w9 ⟨rfl, k9⟩
        have K9 := Lib.hid (keeps_trans K1.out k9)
        clear k9
        go_wp2_with fail
        go_ret
        exact ⟨rfl, K9.out⟩
      · have hz1b : decide (z < 1) = false := decide_eq_false hz1
        by_cases hz2 : 240 < z
        · go_wp2_with fail
          refine (WK.out _ K1.out).mono ?_
          rintro e w9 ⟨rfl, k9⟩
          have K9 := Lib.hid (keeps_trans K1.out k9)
          clear k9
          go_wp2_with fail
          go_ret
          exact ⟨rfl, K9.out⟩
        · have hz2b : decide (240 < z) = false := decide_eq_false hz2
          obtain ⟨M, rfl⟩ : ∃ M : Nat, m = (M : Int) := ⟨m.toNat, by omega⟩
          obtain ⟨size, rfl⟩ : ∃ size : Nat, z = (size : Int) := ⟨z.toNat, by omega⟩
          have hMN : M ≤ 4096 := by omega
          have hszz : 1 ≤ size ∧ size ≤ 240 := by omega
          have HSZ := Lib.hid hszz
          have BGM := Lib.hid (BG.out w1 K1.out M size ⟨by omega, by omega⟩ hszz)
          have HZ1 := Lib.hid (K.keep HZ.out K1.out)
          have HS1 := Lib.hid (HS.out.keep K1.out)
          have HO1 := Lib.hid (HO.out.keep K1.out)
          have hl120 : len ≤ 120 := by have := FEW.out.most; have := HL.out; omega
          clear BG HO
          go_wp2_with fail
          refine BGM.out.mono ?_
          rintro e wq ⟨B, S, p0, sb, rfl, hJ, hBx, hnS, hlt, hR, hH⟩
          have J0 := Lib.hid hJ
          have B0 := Lib.hid hBx
          have N0 := Lib.hid hnS
          have R0 := Lib.hid hR
          have H0 := Lib.hid hH
          clear hJ hBx hnS hlt hR hH BGM
          go_wp2_with fail
          go_loopw [10, 11] (fun v i wr => ∃ (j : Nat) (p : Pst) (S1 : Nat → Prop) (rs : List Rc) (lv : Value), j ≤ len ∧ i = .int .i64 j ∧ lv = v ∧ Hid (PJ K w1 B p S1 wr) ∧ Hid (StrAt wr sb B.pb sN size) ∧ Hid (¬ S1 sb) ∧ Hid (Runs p M (1 + 2 * j)) ∧ Hid (HealS p size (rs.map (·.b)) j) ∧ Hid (Own wr w1.heap.size 31 1 lv rs.length (rs.map rcV)) ∧ Hid (∀ g, lv.ownBlock = some g → ¬ S1 g) ∧ Hid (∀ x ∈ rs, RcOk w1 x) ∧ Hid (rs.length ≤ j)) (fun _ i _ => len - (intOf i).toNat)
          case atStart => exact ⟨0, p0, S, [], _, Nat.zero_le _, rfl, rfl, J0, B0, N0, R0, H0, Lib.hid (Own.nil _ _ _ _), Lib.hid (fun g hg => by cases hg), Lib.hid (fun x hx => by simp at hx), Lib.hid (Nat.le_refl _)⟩
          case round =>
            clear J0 B0 N0 R0 H0
            obtain ⟨j, p, S1, rs, lv, hj, rfl, rfl, I1, B1, N1, Q1, H1, L1, F1, RK, RLE⟩ := hrel
            by_cases hlt : j < len
            · have hjl : (j : Int) < (len : Int) := by omega
              have hj120 : j < 120 := by omega
              obtain ⟨R, hrl⟩ : ∃ R, rs.length = R := ⟨_, rfl⟩
              have hR120 : R ≤ 120 := by have := RLE.out; omega
              obtain ⟨o, ho⟩ : ∃ o, l[j]? = some o := ⟨_, List.getElem?_eq_getElem (by have := HL.out; omega)⟩
              have hom := List.mem_of_getElem? ho
              have OK := Lib.hid (HO1.out.ok o hom)
              have OKL := Lib.hid OK.out.len
              have hol := FEW.out.each o hom
              obtain ⟨ad, rfl, -⟩ := (HO1.out.keep I1.out.kp).cell0 ho
              obtain ⟨c0, c1, c2⟩ := (HO1.out.keep I1.out.kp).three ho (ad := ad) rfl
              have kO := keeps_alloc wr (.cells #[.int .i64 o.kind, .int .i64 o.i, .slice o.A o.len o.c] 33)
              have KO := Lib.hid kO
              have BO := Lib.hid (Box.new wr 33 #[.int .i64 o.kind, .int .i64 o.i, .slice o.A o.len o.c])
              have b0 := BO.out.cell 0 rfl
              have b1 := BO.out.cell 1 rfl
              have b2 := BO.out.cell 2 rfl
              have HFND := Lib.hid (show (findP p sN).1 ≤ 1000000 by
                rw [H1.out.find, List.length_map, hrl]
                have := pages_le (per_pos HSZ.out) R
                simp only
                omega)
              clear ho hom kO
              by_cases k4 : o.kind = 4
              · rw [k4] at c0 b0 b1 b2 KO
                go_wp2_with fail
                go_roundw
                case rel => exact ⟨j + 1, p, S1, rs, _, by omega, by go_num, rfl, Lib.hid (I1.out.keep KO.out), Lib.hid (B1.out.keep KO.out), N1, Lib.hid (Q1.out.more (by omega)), Lib.hid (H1.out.more (by omega)), Lib.hid (L1.out.keep KO.out), F1, RK, Lib.hid (by have := RLE.out; omega)⟩
                case measure => simp [intOf] <;> omega
              · by_cases k6 : o.kind = 6
                · rw [k6] at c0 b0 b1 b2 KO
                  go_wp2_with fail
                  go_roundw
                  case rel => exact ⟨j + 1, p, S1, rs, _, by omega, by go_num, rfl, Lib.hid (I1.out.keep KO.out), Lib.hid (B1.out.keep KO.out), N1, Lib.hid (Q1.out.more (by omega)), Lib.hid (H1.out.more (by omega)), Lib.hid (L1.out.keep KO.out), F1, RK, Lib.hid (by have := RLE.out; omega)⟩
                  case measure => simp [intOf] <;> omega
                · have q4 : (o.kind == 4) = false := by rw [beq_eq_false_iff_ne]; exact k4
                  have q6 : (o.kind == 6) = false := by rw [beq_eq_false_iff_ne]; exact k6
                  by_cases h0 : o.kind = 0
                  · as_aux_lemma =>
                      have ek := h0
                      obtain ⟨D1, D2⟩ := dt_len (o := o) H1.out (by omega) ek
                      rw [List.length_map, hrl] at D1
                      have H9 := Lib.hid (D2.more (show j ≤ j + 1 by omega))
                      have DO := does11_any PK (I1.out.keep KO.out) HZ1.out HS1.out Q1.out hMN (by omega) (B1.out.keep KO.out) N1.out HSZ.out HFND.out o OK.out hol k4 k6
                      unfold op11C at DO
                      rw [D1] at DO
                      dsimp only at DO
                      rw [ek] at DO c0 b0 b1 b2 KO BO
                      have DO := Lib.hid DO
                      generalize (doT p size o).1 = p' at *
                      clear D1 D2
                      go_wp2_with fail
                      refine DO.out.mono ?_
                      rintro e w8 ⟨v, S8, rfl, o8, hJ8, t8, n8⟩
                      obtain ⟨A8, d8, rfl, -⟩ := o8.form
                      have kT := keeps_alloc w8 (.cells #[.slice A8 0 d8, .int .i64 (R : Int), .int .i64 0] 36)
                      have BT := Lib.hid (Box.new w8 36 #[.slice A8 0 d8, .int .i64 (R : Int), .int .i64 0])
                      have J9 := Lib.hid (hJ8.1.keep kT)
                      have Q9 := Lib.hid (hJ8.2.more (show 1 + 2 * j + 2 ≤ 1 + 2 * (j + 1) by omega))
                      have B9 := Lib.hid (((B1.out.keep KO.out).turn t8 N1.out).keep kT)
                      have N9 := Lib.hid (t8.notIn (B1.out.keep KO.out).lt N1.out)
                      obtain ⟨a1, a2⟩ := own_far (L1.out.keep KO.out) F1.out t8
                      have L9 := Lib.hid (a1.keep kT)
                      have F9 := Lib.hid a2
                      have BO9 := Lib.hid ((BO.out.turned t8 (fun e => by have := I1.out.lt _ e; omega)).keep kT)
                      have OX9 := Lib.hid (o8.keep kT)
                      clear o8 hJ8 t8 n8 kT a1 a2 DO b0 b1 b2

                      have a0 := BO9.out.cell 0 rfl
                      have a1 := BO9.out.cell 1 rfl
                      have a2 := BO9.out.cell 2 rfl
                      have x0 := BT.out.cell 0 rfl
                      have x1 := BT.out.cell 1 rfl
                      have x2 := BT.out.cell 2 rfl
                      obtain ⟨Al, cl, rfl, -⟩ := L9.out.form
                      rw [hrl] at L9 F9 ⊢
                      have nn0 : ((R : Int) != (R : Int)) = false := by simp
                      go_wp2_with fail
                      go_roundw
                      case rel => exact ⟨j + 1, p', S8, rs, _, by omega, by go_num, rfl, J9, B9, N9, Q9, H9, Lib.hid (by rw [hrl]; exact L9.out), F9, RK, Lib.hid (by have := RLE.out; omega)⟩
                      case measure => simp [intOf] <;> omega
                  by_cases h1 : o.kind = 1
                  · as_aux_lemma =>
                      have ek := h1
                      by_cases hi0 : o.i < 0
                      · have i0 : decide ((0 : Int) ≤ o.i) = false := decide_eq_false (by omega)
                        obtain ⟨E, hE, D1, D2⟩ := dt_get_no (o := o) H1.out (by omega) ek (by rw [List.length_map]; omega)
                        have H9 := Lib.hid (D2.more (show j ≤ j + 1 by omega))
                        have DO := does11_any PK (I1.out.keep KO.out) HZ1.out HS1.out Q1.out hMN (by omega) (B1.out.keep KO.out) N1.out HSZ.out HFND.out o OK.out hol k4 k6
                        unfold op11C at DO
                        rw [D1] at DO
                        dsimp only at DO
                        rw [ek] at DO c0 b0 b1 b2 KO BO
                        have DO := Lib.hid DO
                        generalize (doT p size o).1 = p' at *
                        clear D1 D2
                        go_wp2_with fail
                        refine DO.out.mono ?_
                        rintro e w8 ⟨v, S8, rfl, o8, hJ8, t8, n8⟩
                        obtain ⟨A8, d8, rfl, -⟩ := o8.form
                        have kT := keeps_alloc w8 (.cells #[.slice A8 0 d8, .int .i64 0, .int .i64 (E : Int)] 36)
                        have BT := Lib.hid (Box.new w8 36 #[.slice A8 0 d8, .int .i64 0, .int .i64 (E : Int)])
                        have J9 := Lib.hid (hJ8.1.keep kT)
                        have Q9 := Lib.hid (hJ8.2.more (show 1 + 2 * j + 2 ≤ 1 + 2 * (j + 1) by omega))
                        have B9 := Lib.hid (((B1.out.keep KO.out).turn t8 N1.out).keep kT)
                        have N9 := Lib.hid (t8.notIn (B1.out.keep KO.out).lt N1.out)
                        obtain ⟨a1, a2⟩ := own_far (L1.out.keep KO.out) F1.out t8
                        have L9 := Lib.hid (a1.keep kT)
                        have F9 := Lib.hid a2
                        have BO9 := Lib.hid ((BO.out.turned t8 (fun e => by have := I1.out.lt _ e; omega)).keep kT)
                        have OX9 := Lib.hid (o8.keep kT)
                        clear o8 hJ8 t8 n8 kT a1 a2 DO b0 b1 b2
                        have a0 := BO9.out.cell 0 rfl
                        have a1 := BO9.out.cell 1 rfl
                        have a2 := BO9.out.cell 2 rfl
                        have x0 := BT.out.cell 0 rfl
                        have x1 := BT.out.cell 1 rfl
                        have x2 := BT.out.cell 2 rfl
                        obtain ⟨Al, cl, rfl, -⟩ := L9.out.form
                        rw [hrl] at L9 F9 ⊢
                        have e0 : ((E : Int) == 0) = false := by rw [beq_eq_false_iff_ne]; omega
                        have nn0 : (false != false) = false := rfl
                        have nn1 : (true != true) = false := rfl
                        go_wp2_with fail
                        generalize w8.alloc (.cells #[.slice A8 0 d8, .int .i64 0, .int .i64 (E : Int)] 36) = w9 at *
                        generalize w8.heap.size = t9 at *
                        go_quiet (fail)
                        have k11 := keeps_drewN w9 nq
                        have J11 := Lib.hid (J9.out.keep k11)
                        have B11 := Lib.hid (B9.out.keep k11)
                        have L11 := Lib.hid (L9.out.keep k11)
                        go_wp2_with fail
                        go_roundw
                        case rel => exact ⟨j + 1, p', S8, rs, _, by omega, by go_num, rfl, J11, B11, N9, Q9, H9, Lib.hid (by rw [hrl]; exact L11.out), F9, RK, Lib.hid (by have := RLE.out; omega)⟩
                        case measure => simp [intOf] <;> omega
                      · by_cases hi1 : o.i < (R : Int)
                        · obtain ⟨ix, hix⟩ : ∃ ix : Nat, o.i = (ix : Int) := ⟨o.i.toNat, by omega⟩
                          obtain ⟨x, hx⟩ : ∃ x, rs[ix]? = some x := ⟨_, List.getElem?_eq_getElem (by omega)⟩
                          have HX := Lib.hid hx
                          obtain ⟨NX, hnx⟩ : ∃ NX, x.b.length = NX := ⟨_, rfl⟩
                          have HNX := Lib.hid hnx
                          have i0 : (0 : Int) ≤ (ix : Int) := by omega
                          have i1 : (ix : Int) < (R : Int) := by omega
                          have hxi := hix
                          clear hx hi0 hi1
                          obtain ⟨D1, D2⟩ := dt_get (o := o) H1.out (by omega) ek hix (r := x.b) (by rw [List.getElem?_map, HX.out]; rfl)
                          have H9 := Lib.hid (D2.more (show j ≤ j + 1 by omega))
                          have DO := does11_any PK (I1.out.keep KO.out) HZ1.out HS1.out Q1.out hMN (by omega) (B1.out.keep KO.out) N1.out HSZ.out HFND.out o OK.out hol k4 k6
                          unfold op11C at DO
                          rw [D1] at DO
                          dsimp only at DO
                          rw [ek] at DO c0 b0 b1 b2 KO BO
                          rw [hix] at DO c1 b0 b1 b2 KO BO
                          have DO := Lib.hid DO
                          generalize (doT p size o).1 = p' at *
                          clear D1 D2
                          go_wp2_with fail
                          refine DO.out.mono ?_
                          rintro e w8 ⟨v, S8, rfl, o8, hJ8, t8, n8⟩
                          rw [hnx] at o8
                          obtain ⟨A8, d8, rfl, -⟩ := o8.form
                          have kT := keeps_alloc w8 (.cells #[.slice A8 NX d8, .int .i64 0, .int .i64 0] 36)
                          have BT := Lib.hid (Box.new w8 36 #[.slice A8 NX d8, .int .i64 0, .int .i64 0])
                          have J9 := Lib.hid (hJ8.1.keep kT)
                          have Q9 := Lib.hid (hJ8.2.more (show 1 + 2 * j + 2 ≤ 1 + 2 * (j + 1) by omega))
                          have B9 := Lib.hid (((B1.out.keep KO.out).turn t8 N1.out).keep kT)
                          have N9 := Lib.hid (t8.notIn (B1.out.keep KO.out).lt N1.out)
                          obtain ⟨a1, a2⟩ := own_far (L1.out.keep KO.out) F1.out t8
                          have L9 := Lib.hid (a1.keep kT)
                          have F9 := Lib.hid a2
                          have BO9 := Lib.hid ((BO.out.turned t8 (fun e => by have := I1.out.lt _ e; omega)).keep kT)
                          have OX9 := Lib.hid (o8.keep kT)
                          clear o8 hJ8 t8 n8 kT a1 a2 DO b0 b1 b2
                          have a0 := BO9.out.cell 0 rfl
                          have a1 := BO9.out.cell 1 rfl
                          have a2 := BO9.out.cell 2 rfl
                          have x0 := BT.out.cell 0 rfl
                          have x1 := BT.out.cell 1 rfl
                          have x2 := BT.out.cell 2 rfl
                          obtain ⟨Al, cl, rfl, -⟩ := L9.out.form
                          rw [hrl] at L9 F9 ⊢
                          obtain ⟨gl, rfl, qo, -⟩ := L9.out.cell (j := ix) (by rw [List.length_map]; omega)
                          have q2 : (w8.alloc (.cells #[.slice A8 NX d8, .int .i64 0, .int .i64 0] 36)).cell? ⟨gl, ix, none⟩ = some (Value.slice x.A NX x.c) := by
                            rw [qo, List.getElem?_map, HX.out, ← HNX.out]
                            rfl
                          clear qo
                          have EQ := Lib.hid (fun (W : World) (kw : Keeps (w8.alloc (.cells #[.slice A8 NX d8, .int .i64 0, .int .i64 0] 36)) W) => eqBytes_yes A8 NX d8 x.b x.A x.c W (show Bs W A8 x.b from (OX9.out.keep kw).at_) HNX.out.symm ((show Bs w1 x.A x.b from (RK.out x (List.mem_of_getElem? HX.out)).at_).keep (keeps_trans J9.out.kp kw)))
                          have nn0 : (false != false) = false := rfl
                          have nn1 : (true != true) = false := rfl
                          go_wp2_with fail
                          generalize w8.alloc (.cells #[.slice A8 NX d8, .int .i64 0, .int .i64 0] 36) = w9 at *
                          generalize w8.heap.size = t9 at *
                          go_quiet (first
                            | (go_at_call 11; exact Calls.quiet_of_same ((EQ.out _ (keeps_drewN w9 _)).mono fun _ _ h => ⟨h.1, h.2.symm⟩))
                            | exact Calls.quiet_of_same ((EQ.out _ (keeps_drewN w9 _)).mono fun _ _ h => ⟨h.1, h.2.symm⟩))
                          have k11 := keeps_drewN w9 nq
                          have J11 := Lib.hid (J9.out.keep k11)
                          have B11 := Lib.hid (B9.out.keep k11)
                          have L11 := Lib.hid (L9.out.keep k11)
                          go_wp2_with fail
                          go_roundw
                          case rel => exact ⟨j + 1, p', S8, rs, _, by omega, by go_num, rfl, J11, B11, N9, Q9, H9, Lib.hid (by rw [hrl]; exact L11.out), F9, RK, Lib.hid (by have := RLE.out; omega)⟩
                          case measure => simp [intOf] <;> omega
                        · have i0 : decide ((0 : Int) ≤ o.i) = true := decide_eq_true (by omega)
                          have i1 : decide (o.i < (R : Int)) = false := decide_eq_false hi1
                          obtain ⟨E, hE, D1, D2⟩ := dt_get_no (o := o) H1.out (by omega) ek (by rw [List.length_map]; omega)
                          have H9 := Lib.hid (D2.more (show j ≤ j + 1 by omega))
                          have DO := does11_any PK (I1.out.keep KO.out) HZ1.out HS1.out Q1.out hMN (by omega) (B1.out.keep KO.out) N1.out HSZ.out HFND.out o OK.out hol k4 k6
                          unfold op11C at DO
                          rw [D1] at DO
                          dsimp only at DO
                          rw [ek] at DO c0 b0 b1 b2 KO BO
                          have DO := Lib.hid DO
                          generalize (doT p size o).1 = p' at *
                          clear D1 D2
                          go_wp2_with fail
                          refine DO.out.mono ?_
                          rintro e w8 ⟨v, S8, rfl, o8, hJ8, t8, n8⟩
                          obtain ⟨A8, d8, rfl, -⟩ := o8.form
                          have kT := keeps_alloc w8 (.cells #[.slice A8 0 d8, .int .i64 0, .int .i64 (E : Int)] 36)
                          have BT := Lib.hid (Box.new w8 36 #[.slice A8 0 d8, .int .i64 0, .int .i64 (E : Int)])
                          have J9 := Lib.hid (hJ8.1.keep kT)
                          have Q9 := Lib.hid (hJ8.2.more (show 1 + 2 * j + 2 ≤ 1 + 2 * (j + 1) by omega))
                          have B9 := Lib.hid (((B1.out.keep KO.out).turn t8 N1.out).keep kT)
                          have N9 := Lib.hid (t8.notIn (B1.out.keep KO.out).lt N1.out)
                          obtain ⟨a1, a2⟩ := own_far (L1.out.keep KO.out) F1.out t8
                          have L9 := Lib.hid (a1.keep kT)
                          have F9 := Lib.hid a2
                          have BO9 := Lib.hid ((BO.out.turned t8 (fun e => by have := I1.out.lt _ e; omega)).keep kT)
                          have OX9 := Lib.hid (o8.keep kT)
                          clear o8 hJ8 t8 n8 kT a1 a2 DO b0 b1 b2
                          have a0 := BO9.out.cell 0 rfl
                          have a1 := BO9.out.cell 1 rfl
                          have a2 := BO9.out.cell 2 rfl
                          have x0 := BT.out.cell 0 rfl
                          have x1 := BT.out.cell 1 rfl
                          have x2 := BT.out.cell 2 rfl
                          obtain ⟨Al, cl, rfl, -⟩ := L9.out.form
                          rw [hrl] at L9 F9 ⊢
                          have e0 : ((E : Int) == 0) = false := by rw [beq_eq_false_iff_ne]; omega
                          have nn0 : (false != false) = false := rfl
                          have nn1 : (true != true) = false := rfl
                          go_wp2_with fail
                          generalize w8.alloc (.cells #[.slice A8 0 d8, .int .i64 0, .int .i64 (E : Int)] 36) = w9 at *
                          generalize w8.heap.size = t9 at *
                          go_quiet (fail)
                          have k11 := keeps_drewN w9 nq
                          have J11 := Lib.hid (J9.out.keep k11)
                          have B11 := Lib.hid (B9.out.keep k11)
                          have L11 := Lib.hid (L9.out.keep k11)
                          go_wp2_with fail
                          go_roundw
                          case rel => exact ⟨j + 1, p', S8, rs, _, by omega, by go_num, rfl, J11, B11, N9, Q9, H9, Lib.hid (by rw [hrl]; exact L11.out), F9, RK, Lib.hid (by have := RLE.out; omega)⟩
                          case measure => simp [intOf] <;> omega
                  by_cases h2 : o.kind = 2
                  · as_aux_lemma =>
                      have ek := h2
                      by_cases hbl : o.b.length = size
                      · obtain ⟨D1, D2⟩ := dt_add (o := o) H1.out (by omega) ek hbl
                        have H9 := Lib.hid D2
                        have DO := does11_any PK (I1.out.keep KO.out) HZ1.out HS1.out Q1.out hMN (by omega) (B1.out.keep KO.out) N1.out HSZ.out HFND.out o OK.out hol k4 k6
                        unfold op11C at DO
                        rw [D1] at DO
                        dsimp only at DO
                        rw [ek] at DO c0 b0 b1 b2 KO BO
                        have DO := Lib.hid DO
                        generalize (doT p size o).1 = p' at *
                        clear D1 D2
                        go_wp2_with fail
                        refine DO.out.mono ?_
                        rintro e w8 ⟨v, S8, rfl, o8, hJ8, t8, n8⟩
                        rw [hbl] at o8
                        obtain ⟨A8, d8, rfl, -⟩ := o8.form
                        have kT := keeps_alloc w8 (.cells #[.slice A8 size d8, .int .i64 0, .int .i64 0] 36)
                        have BT := Lib.hid (Box.new w8 36 #[.slice A8 size d8, .int .i64 0, .int .i64 0])
                        have J9 := Lib.hid (hJ8.1.keep kT)
                        have Q9 := Lib.hid (hJ8.2.more (show 1 + 2 * j + 2 ≤ 1 + 2 * (j + 1) by omega))
                        have B9 := Lib.hid (((B1.out.keep KO.out).turn t8 N1.out).keep kT)
                        have N9 := Lib.hid (t8.notIn (B1.out.keep KO.out).lt N1.out)
                        obtain ⟨a1, a2⟩ := own_far (L1.out.keep KO.out) F1.out t8
                        have L9 := Lib.hid (a1.keep kT)
                        have F9 := Lib.hid a2
                        have BO9 := Lib.hid ((BO.out.turned t8 (fun e => by have := I1.out.lt _ e; omega)).keep kT)
                        have OX9 := Lib.hid (o8.keep kT)
                        clear o8 hJ8 t8 n8 kT a1 a2 DO b0 b1 b2
                        rw [OKL.out, hbl] at BO9
                        have a0 := BO9.out.cell 0 rfl
                        have a1 := BO9.out.cell 1 rfl
                        have a2 := BO9.out.cell 2 rfl
                        have x0 := BT.out.cell 0 rfl
                        have x1 := BT.out.cell 1 rfl
                        have x2 := BT.out.cell 2 rfl
                        have nn0 : (false != false) = false := rfl
                        have nn1 : (true != true) = false := rfl
                        have se : ((size : Int) == (size : Int)) = true := by simp
                        have HRV := Lib.hid (show rcV ⟨o.A, o.c, o.b⟩ = .slice o.A size o.c by show Value.slice o.A o.b.length o.c = _; rw [hbl])
                        have kN := keeps_alloc (w8.alloc (.cells #[.slice A8 size d8, .int .i64 0, .int .i64 0] 36)) (.cells #[.slice o.A size o.c] 31)
                        have KN := Lib.hid kN
                        have AN := At.new (w8.alloc (.cells #[.slice A8 size d8, .int .i64 0, .int .i64 0] 36)) [.slice o.A size o.c] 31 ((w8.alloc (.cells #[.slice A8 size d8, .int .i64 0, .int .i64 0] 36)).alloc (.cells #[.slice o.A size o.c] 31)).heap.size (by simp)
                        have es8 : (w8.alloc (.cells #[.slice A8 size d8, .int .i64 0, .int .i64 0] 36)).heap.size = w8.heap.size + 1 := by simp
                        rw [es8] at AN
                        have AN := Lib.hid AN
                        clear es8
                        have hRb : R ≤ 120 := by have := RLE.out; omega
                        clear kN
                        go_wp2_with (at_builtin; refine wpList_app _ rfl _ _ 30 rfl w1.heap.size 31 i1 (.slice none 0 0) 1 24 Tryd.underlying30 hi1 hy0 hy1 hy2 rfl (by decide) _ R (rs.map rcV) rfl (by have := L9.out.keep KN.out; rw [hrl] at this; exact this) _ _ 1 1 [.slice o.A size o.c] rfl rfl AN.out (by intro u hu; simp only [List.mem_cons, List.not_mem_nil, or_false] at hu; subst hu; rfl) (by unfold maxLen; omega) (by omega) (Nat.le_trans J9.out.kp.size KN.out.size) ?_; intro v2 w2 ho2 hg2 hb2; have JE := Lib.hid ((J9.out.keep KN.out).grown_ hg2 (fun g hg => ⟨(L9.out.lt g hg).1, F9.out g hg⟩)); have BE := Lib.hid (show StrAt w2 sb B.pb sN size from Box.only_ (B9.out.keep KN.out) ((Only.refl _ (fun i => lv.ownBlock = some i)).grown hg2 (fun g hg => .inl hg)) (fun e => (L9.out.keep KN.out).not_box (B9.out.keep KN.out) str_rc e)); have LE := Lib.hid ho2; have FE := Lib.hid (far_grown hb2 F9.out (fun e => by have h1 := J9.out.lt _ e; have h2 := KN.out.size; omega)); clear ho2 hg2 hb2)
                        go_roundw
                        case rel => exact ⟨j + 1, p', S8, rs ++ [⟨o.A, o.c, o.b⟩], _, by omega, by go_num, rfl, JE, BE, N9, Q9, Lib.hid (by rw [List.map_append]; exact H9.out), Lib.hid (by rw [List.length_append, List.map_append, hrl]; show Own _ _ _ _ _ (R + 1) (rs.map rcV ++ [rcV ⟨o.A, o.c, o.b⟩]); rw [HRV.out]; exact LE.out), FE, Lib.hid (rk_push RK.out ⟨OK.out.b, by show o.b.length ≤ 65536; omega⟩), Lib.hid (by rw [List.length_append]; have := RLE.out; simp only [List.length_cons, List.length_nil]; omega)⟩
                        case measure => simp [intOf] <;> omega
                      · obtain ⟨D1, D2⟩ := dt_add_no (o := o) H1.out ek hbl
                        have H9 := Lib.hid (D2.more (show j ≤ j + 1 by omega))
                        have DO := does11_any PK (I1.out.keep KO.out) HZ1.out HS1.out Q1.out hMN (by omega) (B1.out.keep KO.out) N1.out HSZ.out HFND.out o OK.out hol k4 k6
                        unfold op11C at DO
                        rw [D1] at DO
                        dsimp only at DO
                        rw [ek] at DO c0 b0 b1 b2 KO BO
                        have DO := Lib.hid DO
                        generalize (doT p size o).1 = p' at *
                        clear D1 D2
                        go_wp2_with fail
                        refine DO.out.mono ?_
                        rintro e w8 ⟨v, S8, rfl, o8, hJ8, t8, n8⟩
                        obtain ⟨A8, d8, rfl, -⟩ := o8.form
                        have kT := keeps_alloc w8 (.cells #[.slice A8 o.b.length d8, .int .i64 0, .int .i64 1] 36)
                        have BT := Lib.hid (Box.new w8 36 #[.slice A8 o.b.length d8, .int .i64 0, .int .i64 1])
                        have J9 := Lib.hid (hJ8.1.keep kT)
                        have Q9 := Lib.hid (hJ8.2.more (show 1 + 2 * j + 2 ≤ 1 + 2 * (j + 1) by omega))
                        have B9 := Lib.hid (((B1.out.keep KO.out).turn t8 N1.out).keep kT)
                        have N9 := Lib.hid (t8.notIn (B1.out.keep KO.out).lt N1.out)
                        obtain ⟨a1, a2⟩ := own_far (L1.out.keep KO.out) F1.out t8
                        have L9 := Lib.hid (a1.keep kT)
                        have F9 := Lib.hid a2
                        have BO9 := Lib.hid ((BO.out.turned t8 (fun e => by have := I1.out.lt _ e; omega)).keep kT)
                        have OX9 := Lib.hid (o8.keep kT)
                        clear o8 hJ8 t8 n8 kT a1 a2 DO b0 b1 b2
                        rw [OKL.out] at BO9
                        have a0 := BO9.out.cell 0 rfl
                        have a1 := BO9.out.cell 1 rfl
                        have a2 := BO9.out.cell 2 rfl
                        have x0 := BT.out.cell 0 rfl
                        have x1 := BT.out.cell 1 rfl
                        have x2 := BT.out.cell 2 rfl
                        have se : ((o.b.length : Int) == (size : Int)) = false := by rw [beq_eq_false_iff_ne]; omega
                        have nn0 : (false != false) = false := rfl
                        have nn1 : (true != true) = false := rfl
                        go_wp2_with fail
                        go_roundw
                        case rel => exact ⟨j + 1, p', S8, rs, _, by omega, by go_num, rfl, J9, B9, N9, Q9, H9, L9, F9, RK, Lib.hid (by have := RLE.out; omega)⟩
                        case measure => simp [intOf] <;> omega
                  by_cases h3 : o.kind = 3
                  · as_aux_lemma =>
                      have ek := h3
                      by_cases hi0 : o.i < 0
                      · have i0 : decide ((0 : Int) ≤ o.i) = false := decide_eq_false (by omega)
                        obtain ⟨E, hE, D1, D2⟩ := dt_set_no (o := o) H1.out (by omega) ek (by rw [List.length_map]; omega)
                        have H9 := Lib.hid (D2.more (show j ≤ j + 1 by omega))
                        have DO := does11_any PK (I1.out.keep KO.out) HZ1.out HS1.out Q1.out hMN (by omega) (B1.out.keep KO.out) N1.out HSZ.out HFND.out o OK.out hol k4 k6
                        unfold op11C at DO
                        rw [D1] at DO
                        dsimp only at DO
                        rw [ek] at DO c0 b0 b1 b2 KO BO
                        have DO := Lib.hid DO
                        generalize (doT p size o).1 = p' at *
                        clear D1 D2
                        go_wp2_with fail
                        refine DO.out.mono ?_
                        rintro e w8 ⟨v, S8, rfl, o8, hJ8, t8, n8⟩
                        obtain ⟨A8, d8, rfl, -⟩ := o8.form
                        have kT := keeps_alloc w8 (.cells #[.slice A8 o.b.length d8, .int .i64 0, .int .i64 (E : Int)] 36)
                        have BT := Lib.hid (Box.new w8 36 #[.slice A8 o.b.length d8, .int .i64 0, .int .i64 (E : Int)])
                        have J9 := Lib.hid (hJ8.1.keep kT)
                        have Q9 := Lib.hid (hJ8.2.more (show 1 + 2 * j + 2 ≤ 1 + 2 * (j + 1) by omega))
                        have B9 := Lib.hid (((B1.out.keep KO.out).turn t8 N1.out).keep kT)
                        have N9 := Lib.hid (t8.notIn (B1.out.keep KO.out).lt N1.out)
                        obtain ⟨a1, a2⟩ := own_far (L1.out.keep KO.out) F1.out t8
                        have L9 := Lib.hid (a1.keep kT)
                        have F9 := Lib.hid a2
                        have BO9 := Lib.hid ((BO.out.turned t8 (fun e => by have := I1.out.lt _ e; omega)).keep kT)
                        have OX9 := Lib.hid (o8.keep kT)
                        clear o8 hJ8 t8 n8 kT a1 a2 DO b0 b1 b2
                        rw [OKL.out] at BO9
                        have a0 := BO9.out.cell 0 rfl
                        have a1 := BO9.out.cell 1 rfl
                        have a2 := BO9.out.cell 2 rfl
                        have x0 := BT.out.cell 0 rfl
                        have x1 := BT.out.cell 1 rfl
                        have x2 := BT.out.cell 2 rfl
                        obtain ⟨Al, cl, rfl, -⟩ := L9.out.form
                        rw [hrl] at L9 F9 ⊢
                        have e0 : ((E : Int) == 0) = false := by rw [beq_eq_false_iff_ne]; omega
                        have nn0 : (false != false) = false := rfl
                        have nn1 : (true != true) = false := rfl
                        go_wp2_with fail
                        go_roundw
                        case rel => exact ⟨j + 1, p', S8, rs, _, by omega, by go_num, rfl, J9, B9, N9, Q9, H9, Lib.hid (by rw [hrl]; exact L9.out), F9, RK, Lib.hid (by have := RLE.out; omega)⟩
                        case measure => simp [intOf] <;> omega
                      · by_cases hi1 : o.i < (R : Int)
                        · by_cases hbl : o.b.length = size
                          · obtain ⟨ix, hix⟩ : ∃ ix : Nat, o.i = (ix : Int) := ⟨o.i.toNat, by omega⟩
                            have i0 : (0 : Int) ≤ (ix : Int) := by omega
                            have i1 : (ix : Int) < (R : Int) := by omega
                            have hixR : ix < R := by omega
                            clear hi0 hi1
                            obtain ⟨D1, D2⟩ := dt_set (o := o) H1.out (by omega) ek hix (by rw [List.length_map]; omega) hbl
                            have H9 := Lib.hid D2
                            have DO := does11_any PK (I1.out.keep KO.out) HZ1.out HS1.out Q1.out hMN (by omega) (B1.out.keep KO.out) N1.out HSZ.out HFND.out o OK.out hol k4 k6
                            unfold op11C at DO
                            rw [D1] at DO
                            dsimp only at DO
                            rw [ek] at DO c0 b0 b1 b2 KO BO
                            rw [hix] at DO c1 b0 b1 b2 KO BO
                            have DO := Lib.hid DO
                            generalize (doT p size o).1 = p' at *
                            clear D1 D2
                            go_wp2_with fail
                            refine DO.out.mono ?_
                            rintro e w8 ⟨v, S8, rfl, o8, hJ8, t8, n8⟩
                            rw [hbl] at o8
                            obtain ⟨A8, d8, rfl, -⟩ := o8.form
                            have kT := keeps_alloc w8 (.cells #[.slice A8 size d8, .int .i64 0, .int .i64 0] 36)
                            have BT := Lib.hid (Box.new w8 36 #[.slice A8 size d8, .int .i64 0, .int .i64 0])
                            have J9 := Lib.hid (hJ8.1.keep kT)
                            have Q9 := Lib.hid (hJ8.2.more (show 1 + 2 * j + 2 ≤ 1 + 2 * (j + 1) by omega))
                            have B9 := Lib.hid (((B1.out.keep KO.out).turn t8 N1.out).keep kT)
                            have N9 := Lib.hid (t8.notIn (B1.out.keep KO.out).lt N1.out)
                            obtain ⟨a1, a2⟩ := own_far (L1.out.keep KO.out) F1.out t8
                            have L9 := Lib.hid (a1.keep kT)
                            have F9 := Lib.hid a2
                            have BO9 := Lib.hid ((BO.out.turned t8 (fun e => by have := I1.out.lt _ e; omega)).keep kT)
                            have OX9 := Lib.hid (o8.keep kT)
                            clear o8 hJ8 t8 n8 kT a1 a2 DO b0 b1 b2
                            rw [OKL.out, hbl] at BO9
                            have a0 := BO9.out.cell 0 rfl
                            have a1 := BO9.out.cell 1 rfl
                            have a2 := BO9.out.cell 2 rfl
                            have x0 := BT.out.cell 0 rfl
                            have x1 := BT.out.cell 1 rfl
                            have x2 := BT.out.cell 2 rfl
                            obtain ⟨Al, cl, rfl, -⟩ := L9.out.form
                            obtain ⟨gl, rfl, q2, z2, -⟩ := L9.out.cell (j := ix) (by rw [List.length_map]; omega)
                            obtain ⟨u2, hu2⟩ : ∃ u, (rs.map rcV)[ix]? = some u := ⟨_, List.getElem?_eq_getElem (by rw [List.length_map]; omega)⟩
                            rw [hu2] at q2
                            have LX := Lib.hid (L9.out.store (j := ix) (by rw [List.length_map]; omega) (.slice o.A size o.c))
                            have JX := Lib.hid (J9.out.put_ ⟨gl, ix, none⟩ (.slice o.A size o.c) (L9.out.lt gl rfl).1 (F9.out gl rfl))
                            have BX := Lib.hid (show StrAt _ sb B.pb sN size from Box.far B9.out (p := ⟨gl, ix, none⟩) (fun e => L9.out.not_box B9.out str_rc (by rw [show gl = sb from e.symm]; rfl)) (.slice o.A size o.c))
                            rw [hrl] at LX ⊢
                            have se : ((size : Int) == (size : Int)) = true := by simp
                            have HRV := Lib.hid (show rcV ⟨o.A, o.c, o.b⟩ = .slice o.A size o.c by show Value.slice o.A o.b.length o.c = _; rw [hbl])
                            have nn0 : (false != false) = false := rfl
                            have nn1 : (true != true) = false := rfl
                            clear hu2
                            go_wp2_with fail
                            go_roundw
                            case rel => exact ⟨j + 1, p', S8, rs.set ix ⟨o.A, o.c, o.b⟩, _, by omega, by go_num, rfl, JX, BX, N9, Q9, Lib.hid (by rw [List.map_set]; exact H9.out), Lib.hid (by rw [List.length_set, List.map_set, hrl, HRV.out]; exact LX.out), F9, Lib.hid (rk_set RK.out ⟨OK.out.b, by show o.b.length ≤ 65536; omega⟩), Lib.hid (by rw [List.length_set]; have := RLE.out; omega)⟩
                            case measure => simp [intOf] <;> omega
                          · have i0 : decide ((0 : Int) ≤ o.i) = true := decide_eq_true (by omega)
                            obtain ⟨E, hE, D1, D2⟩ := dt_set_no (o := o) H1.out (by omega) ek (by rw [List.length_map]; omega)
                            have H9 := Lib.hid (D2.more (show j ≤ j + 1 by omega))
                            have DO := does11_any PK (I1.out.keep KO.out) HZ1.out HS1.out Q1.out hMN (by omega) (B1.out.keep KO.out) N1.out HSZ.out HFND.out o OK.out hol k4 k6
                            unfold op11C at DO
                            rw [D1] at DO
                            dsimp only at DO
                            rw [ek] at DO c0 b0 b1 b2 KO BO
                            have DO := Lib.hid DO
                            generalize (doT p size o).1 = p' at *
                            clear D1 D2
                            go_wp2_with fail
                            refine DO.out.mono ?_
                            rintro e w8 ⟨v, S8, rfl, o8, hJ8, t8, n8⟩
                            obtain ⟨A8, d8, rfl, -⟩ := o8.form
                            have kT := keeps_alloc w8 (.cells #[.slice A8 o.b.length d8, .int .i64 0, .int .i64 (E : Int)] 36)
                            have BT := Lib.hid (Box.new w8 36 #[.slice A8 o.b.length d8, .int .i64 0, .int .i64 (E : Int)])
                            have J9 := Lib.hid (hJ8.1.keep kT)
                            have Q9 := Lib.hid (hJ8.2.more (show 1 + 2 * j + 2 ≤ 1 + 2 * (j + 1) by omega))
                            have B9 := Lib.hid (((B1.out.keep KO.out).turn t8 N1.out).keep kT)
                            have N9 := Lib.hid (t8.notIn (B1.out.keep KO.out).lt N1.out)
                            obtain ⟨a1, a2⟩ := own_far (L1.out.keep KO.out) F1.out t8
                            have L9 := Lib.hid (a1.keep kT)
                            have F9 := Lib.hid a2
                            have BO9 := Lib.hid ((BO.out.turned t8 (fun e => by have := I1.out.lt _ e; omega)).keep kT)
                            have OX9 := Lib.hid (o8.keep kT)
                            clear o8 hJ8 t8 n8 kT a1 a2 DO b0 b1 b2
                            rw [OKL.out] at BO9
                            have a0 := BO9.out.cell 0 rfl
                            have a1 := BO9.out.cell 1 rfl
                            have a2 := BO9.out.cell 2 rfl
                            have x0 := BT.out.cell 0 rfl
                            have x1 := BT.out.cell 1 rfl
                            have x2 := BT.out.cell 2 rfl
                            obtain ⟨Al, cl, rfl, -⟩ := L9.out.form
                            rw [hrl] at L9 F9 ⊢
                            have e0 : ((E : Int) == 0) = false := by rw [beq_eq_false_iff_ne]; omega
                            have se : ((o.b.length : Int) == (size : Int)) = false := by rw [beq_eq_false_iff_ne]; omega
                            have nn0 : (false != false) = false := rfl
                            have nn1 : (true != true) = false := rfl
                            go_wp2_with fail
                            go_roundw
                            case rel => exact ⟨j + 1, p', S8, rs, _, by omega, by go_num, rfl, J9, B9, N9, Q9, H9, Lib.hid (by rw [hrl]; exact L9.out), F9, RK, Lib.hid (by have := RLE.out; omega)⟩
                            case measure => simp [intOf] <;> omega
                        · have i0 : decide ((0 : Int) ≤ o.i) = true := decide_eq_true (by omega)
                          have i1 : decide (o.i < (R : Int)) = false := decide_eq_false hi1
                          obtain ⟨E, hE, D1, D2⟩ := dt_set_no (o := o) H1.out (by omega) ek (by rw [List.length_map]; omega)
                          have H9 := Lib.hid (D2.more (show j ≤ j + 1 by omega))
                          have DO := does11_any PK (I1.out.keep KO.out) HZ1.out HS1.out Q1.out hMN (by omega) (B1.out.keep KO.out) N1.out HSZ.out HFND.out o OK.out hol k4 k6
                          unfold op11C at DO
                          rw [D1] at DO
                          dsimp only at DO
                          rw [ek] at DO c0 b0 b1 b2 KO BO
                          have DO := Lib.hid DO
                          generalize (doT p size o).1 = p' at *
                          clear D1 D2
                          go_wp2_with fail
                          refine DO.out.mono ?_
                          rintro e w8 ⟨v, S8, rfl, o8, hJ8, t8, n8⟩
                          obtain ⟨A8, d8, rfl, -⟩ := o8.form
                          have kT := keeps_alloc w8 (.cells #[.slice A8 o.b.length d8, .int .i64 0, .int .i64 (E : Int)] 36)
                          have BT := Lib.hid (Box.new w8 36 #[.slice A8 o.b.length d8, .int .i64 0, .int .i64 (E : Int)])
                          have J9 := Lib.hid (hJ8.1.keep kT)
                          have Q9 := Lib.hid (hJ8.2.more (show 1 + 2 * j + 2 ≤ 1 + 2 * (j + 1) by omega))
                          have B9 := Lib.hid (((B1.out.keep KO.out).turn t8 N1.out).keep kT)
                          have N9 := Lib.hid (t8.notIn (B1.out.keep KO.out).lt N1.out)
                          obtain ⟨a1, a2⟩ := own_far (L1.out.keep KO.out) F1.out t8
                          have L9 := Lib.hid (a1.keep kT)
                          have F9 := Lib.hid a2
                          have BO9 := Lib.hid ((BO.out.turned t8 (fun e => by have := I1.out.lt _ e; omega)).keep kT)
                          have OX9 := Lib.hid (o8.keep kT)
                          clear o8 hJ8 t8 n8 kT a1 a2 DO b0 b1 b2
                          rw [OKL.out] at BO9
                          have a0 := BO9.out.cell 0 rfl
                          have a1 := BO9.out.cell 1 rfl
                          have a2 := BO9.out.cell 2 rfl
                          have x0 := BT.out.cell 0 rfl
                          have x1 := BT.out.cell 1 rfl
                          have x2 := BT.out.cell 2 rfl
                          obtain ⟨Al, cl, rfl, -⟩ := L9.out.form
                          rw [hrl] at L9 F9 ⊢
                          have e0 : ((E : Int) == 0) = false := by rw [beq_eq_false_iff_ne]; omega
                          have nn0 : (false != false) = false := rfl
                          have nn1 : (true != true) = false := rfl
                          go_wp2_with fail
                          go_roundw
                          case rel => exact ⟨j + 1, p', S8, rs, _, by omega, by go_num, rfl, J9, B9, N9, Q9, H9, Lib.hid (by rw [hrl]; exact L9.out), F9, RK, Lib.hid (by have := RLE.out; omega)⟩
                          case measure => simp [intOf] <;> omega
                  · as_aux_lemma =>
                      obtain ⟨D1, D2⟩ := dt_rest (o := o) H1.out (by omega) h0 h1 h2 h3
                      have H9 := Lib.hid (D2.more (show j ≤ j + 1 by omega))
                      have DO := does11_any PK (I1.out.keep KO.out) HZ1.out HS1.out Q1.out hMN (by omega) (B1.out.keep KO.out) N1.out HSZ.out HFND.out o OK.out hol k4 k6
                      unfold op11C at DO
                      rw [D1] at DO
                      dsimp only at DO
                      have DO := Lib.hid DO
                      generalize (doT p size o).1 = p' at *
                      clear D1 D2
                      go_wp2_with fail
                      refine DO.out.mono ?_
                      rintro e w8 ⟨v, S8, rfl, o8, hJ8, t8, n8⟩
                      obtain ⟨A8, d8, rfl, -⟩ := o8.form
                      have kT := keeps_alloc w8 (.cells #[.slice A8 0 d8, .int .i64 0, .int .i64 0] 36)
                      have BT := Lib.hid (Box.new w8 36 #[.slice A8 0 d8, .int .i64 0, .int .i64 0])
                      have J9 := Lib.hid (hJ8.1.keep kT)
                      have Q9 := Lib.hid (hJ8.2.more (show 1 + 2 * j + 2 ≤ 1 + 2 * (j + 1) by omega))
                      have B9 := Lib.hid (((B1.out.keep KO.out).turn t8 N1.out).keep kT)
                      have N9 := Lib.hid (t8.notIn (B1.out.keep KO.out).lt N1.out)
                      obtain ⟨a1, a2⟩ := own_far (L1.out.keep KO.out) F1.out t8
                      have L9 := Lib.hid (a1.keep kT)
                      have F9 := Lib.hid a2
                      have BO9 := Lib.hid ((BO.out.turned t8 (fun e => by have := I1.out.lt _ e; omega)).keep kT)
                      have OX9 := Lib.hid (o8.keep kT)
                      clear o8 hJ8 t8 n8 kT a1 a2 DO b0 b1 b2
                      have a0 := BO9.out.cell 0 rfl
                      have a1 := BO9.out.cell 1 rfl
                      have a2 := BO9.out.cell 2 rfl
                      have x0 := BT.out.cell 0 rfl
                      have x1 := BT.out.cell 1 rfl
                      have x2 := BT.out.cell 2 rfl
                      have q0 : (o.kind == 0) = false := by rw [beq_eq_false_iff_ne]; exact h0
                      have q1 : (o.kind == 1) = false := by rw [beq_eq_false_iff_ne]; exact h1
                      have q2 : (o.kind == 2) = false := by rw [beq_eq_false_iff_ne]; exact h2
                      have q3 : (o.kind == 3) = false := by rw [beq_eq_false_iff_ne]; exact h3
                      go_wp2_with fail
                      go_roundw
                      case rel => exact ⟨j + 1, p', S8, rs, _, by omega, by go_num, rfl, J9, B9, N9, Q9, H9, L9, F9, RK, Lib.hid (by have := RLE.out; omega)⟩
                      case measure => simp [intOf] <;> omega
            · as_aux_lemma =>
                obtain rfl : j = len := by omega
                obtain ⟨R, hrl⟩ : ∃ R, rs.length = R := ⟨_, rfl⟩
                have hR120 : R ≤ 120 := by have := RLE.out; omega
                have HFND := Lib.hid (show (findP p sN).1 ≤ 1000000 by
                  rw [H1.out.find, List.length_map, hrl]
                  have := pages_le (per_pos HSZ.out) R
                  simp only
                  omega)
                have LN := slen_any PK I1.out HZ1.out HS1.out Q1.out hMN (by omega) B1.out N1.out sN_len HSZ.out HFND.out
                obtain ⟨l1, l2⟩ := H1.out.len (by omega)
                rw [l1, List.length_map, hrl] at LN
                dsimp only at LN
                have LN := Lib.hid LN
                have H2 := Lib.hid l2
                have Q2 := Lib.hid (Q1.out.lenS I1.out.dok sN size)
                generalize (lenT p sN size).1 = p2 at *
                obtain ⟨Al, cl, rfl, -⟩ := L1.out.form
                have nn0 : ((R : Int) != (R : Int)) = false := by simp
                rw [hrl] at L1 F1 ⊢
                clear l1 l2 hlt hj
                go_wp2_with fail
                refine LN.out.mono ?_
                rintro e w2 ⟨rfl, S2, j2, t2⟩
                have J2 := Lib.hid j2
                have B2 := Lib.hid (B1.out.turn t2 N1.out)
                have N2 := Lib.hid (t2.notIn B1.out.lt N1.out)
                obtain ⟨a1, a2⟩ := own_far L1.out F1.out t2
                have L2 := Lib.hid a1
                have F2 := Lib.hid a2
                clear j2 t2 a1 a2 LN I1 B1 N1 L1 F1 Q1 H1
                go_wp2_with fail
                go_loopw [18] (fun i wr => ∃ (k : Nat) (q : Pst) (T : Nat → Prop), k ≤ R ∧ i = .int .i64 k ∧ Hid (PJ K w1 B q T wr) ∧ Hid (StrAt wr sb B.pb sN size) ∧ Hid (¬ T sb) ∧ Hid (Runs q M (1 + 2 * j + 1 + k)) ∧ Hid (HealS q size (rs.map (·.b)) j) ∧ Hid (Own wr w1.heap.size 31 1 (.slice Al R cl) R (rs.map rcV)) ∧ Hid (∀ g, (Value.slice Al R cl).ownBlock = some g → ¬ T g)) (fun i _ => R - (intOf i).toNat)
                case atStart => exact ⟨0, p2, S2, Nat.zero_le _, rfl, J2, B2, N2, Q2, H2, L2, F2⟩
                case round =>
                  clear J2 B2 N2 Q2 H2 L2 F2
                  obtain ⟨k, q, T, hk, rfl, J3, B3, N3, Q3, H3, L3, F3⟩ := hrel
                  by_cases hlt : k < R
                  · have hki : (k : Int) < (R : Int) := by omega
                    have hkb : (k : Int) ≤ 120 := by omega
                    obtain ⟨x, hx⟩ : ∃ x, rs[k]? = some x := ⟨_, List.getElem?_eq_getElem (by omega)⟩
                    have HX := Lib.hid hx
                    obtain ⟨NX, hnx⟩ : ∃ NX, x.b.length = NX := ⟨_, rfl⟩
                    have HNX := Lib.hid hnx
                    obtain ⟨g1, g2⟩ := H3.out.get (by omega) (i := k) (r := x.b) (by rw [List.getElem?_map, hx]; rfl)
                    have GT := sget_any PK J3.out HZ1.out HS1.out Q3.out hMN (by omega) B3.out N3.out sN_len HSZ.out (k : Int) ⟨by omega, by omega⟩
                    rw [g1] at GT
                    dsimp only at GT
                    have GT := Lib.hid GT
                    have H4 := Lib.hid g2
                    have Q4 := Lib.hid (Q3.out.getS J3.out.dok sN size (k : Int))
                    generalize (getT q sN size (k : Int)).1 = q2 at *
                    clear g1 g2 hx hnx hlt
                    go_wp2_with fail
                    refine GT.out.mono ?_
                    rintro e wb ⟨v, rfl, ob, Sb, jb, tb, nb⟩
                    obtain ⟨Ab, cb, rfl, -⟩ := ob.form
                    rw [HNX.out] at ob ⊢
                    have J4 := Lib.hid jb
                    have B4 := Lib.hid (B3.out.turn tb N3.out)
                    have N4 := Lib.hid (tb.notIn B3.out.lt N3.out)
                    obtain ⟨a1, a2⟩ := own_far L3.out F3.out tb
                    have L4 := Lib.hid a1
                    have F4 := Lib.hid a2
                    obtain ⟨gl, rfl, qo, -⟩ := L4.out.cell (j := k) (by rw [List.length_map]; omega)
                    have q2' : wb.cell? ⟨gl, k, none⟩ = some (Value.slice x.A NX x.c) := by
                      rw [qo, List.getElem?_map, HX.out, ← HNX.out]
                      rfl
                    have EQ := Lib.hid (eqBytes_yes Ab NX cb x.b x.A x.c wb (show Bs wb Ab x.b from ob.at_) HNX.out.symm ((show Bs w1 x.A x.b from (RK.out x (List.mem_of_getElem? HX.out)).at_).keep jb.kp))
                    clear jb tb nb ob a1 a2 qo GT J3 B3 N3 L3 F3 Q3 H3
                    go_wp2_with fail
                    refine EQ.out.mono ?_
                    rintro e wc ⟨rfl, rfl⟩
                    go_wp2_with fail
                    go_roundw
                    case rel => exact ⟨k + 1, q2, Sb, by omega, by go_num, J4, B4, N4, Lib.hid (Q4.out.more (by omega)), H4, L4, F4⟩
                    case measure => simp [intOf] <;> omega
                  · obtain rfl : k = R := by omega
                    have P8 := Lib.hid (pages_pj J3.out HZ1.out Q3.out (by omega) sN sN_len)
                    rw [strS11, H3.out.find, List.length_map, hrl] at P8
                    simp only [if_pos] at P8
                    obtain ⟨pg, hpg⟩ : ∃ pg, pagesN (240 / size) k = pg := ⟨_, rfl⟩
                    rw [hpg] at P8
                    obtain ⟨per, hper⟩ : ∃ per, 240 / size = per := ⟨_, rfl⟩
                    have hpp : 0 < per := by rw [← hper]; exact per_pos hszz
                    have hp4 : per ≤ 240 := by rw [← hper]; exact Nat.div_le_self 240 size
                    have hp3 : (per : Int) ≤ 240 := by omega
                    have dq : Int.tdiv 240 (size : Int) = (per : Int) := by rw [← hper]; exact (Int.ofNat_tdiv 240 size).symm
                    rw [hper] at hpg
                    have dq2 : Int.tdiv ((k : Int) + (per : Int) - 1) (per : Int) = (pg : Int) := by
                      rw [← hpg, show ((k : Int) + (per : Int) - 1) = ((k + per - 1 : Nat) : Int) by omega]
                      exact (Int.ofNat_tdiv _ _).symm
                    have nn1 : ((pg : Int) == (pg : Int)) = true := by simp
                    have p0 : ((per : Int) == 0) = false := by rw [beq_eq_false_iff_ne]; omega
                    have p1 : (per : Int) ≠ 0 := by omega
                    have p2 : (1 : Int) ≤ (per : Int) := by omega
                    have sn0 : (size : Int) ≠ 0 := by omega
                    have sn1 : ((size : Int) == 0) = false := by rw [beq_eq_false_iff_ne]; omega
                    have JK := Lib.hid J3.out.kp
                    have kb1 : (k : Int) ≤ 120 := by omega
                    have kb2 : (pg : Int) ≤ 120 := by have := pages_le hpp k; omega
                    clear hlt hk hpg hper hpp J3 B3 N3 L3 F3 Q3 H3 hm hMN hszz hrl hR120 hp4 hl120 HFND
                    go_wp2_with fail
                    refine P8.out.mono ?_
                    rintro e wc ⟨rfl, kc⟩
                    have KC := Lib.hid (keeps_trans K1.out (keeps_trans JK.out kc))
                    clear kc P8
                    go_wp2_with fail
                    refine (WK.out _ KC.out).mono ?_
                    rintro e wz ⟨rfl, kz⟩
                    have KZ := Lib.hid (keeps_trans KC.out kz)
                    clear kz
                    go_wp2_with fail
                    go_ret
                    exact ⟨rfl, KZ.out⟩
  · clear hv
    go_wp2_with fail
    refine (WK.out _ K1.out).mono ?_
    rintro e w9 ⟨rfl, k9⟩
    have K9 := Lib.hid (keeps_trans K1.out k9)
    clear k9
    go_wp2_with fail
    go_ret
    exact ⟨rfl, K9.out⟩
end Go.Proofs.YtmholhjdpkfleaaDoor
