/- PagefileNumbers. -/
import Derived.Test.YtbpiiegjbcoapaaDoorQLawPf
namespace Go.Proofs.YtbpiiegjbcoapaaDoor
open Go.RowKit
set_option linter.unusedSimpArgs false
set_option linter.unusedVariables false
set_option maxRecDepth 100000

theorem IsX.whole {f : Fl} {ps : List (List UInt8)} {k : Nat} {p : List UInt8} (h : IsX f ps k (pageB tA k p)) (hp : ps[k]? = some p) : IsF f ps :=
  ⟨h.name, h.len, fun i q hq => ⟨(h.page i q hq).1, by
    by_cases e : i = k
    · subst e
      obtain rfl := Option.some.inj (hp.symm.trans hq)
      exact h.at_
    · exact (h.page i q hq).2 e⟩⟩
theorem IsX.other {f : Fl} {ps : List (List UInt8)} {k i : Nat} {p : List UInt8} (hi : i < 4294967296) (hk : k < 4294967296) (hp : p.length ≤ 240) (hne : i ≠ k) : ¬ IsPage (pageB tA i p) tA k := fun e =>
  hne ((isPage_other tA_lt hi tA_lt hk p hp).1 e).2
set_option maxHeartbeats 16000000 in
theorem numbers8_walk (K : DiskOk) (PK : PageOk) (A : Option Addr) (n c : Nat) (rs : List RwS) (x : Nat) (hx : x < 256) (y : Nat) (hy : y < 256) (w : World) (hZ : K.Z w) (hS : Sizes w)
    (h : RowsAt w A rs) (hn : n = rs.length) (hnx : n ≤ maxLen) :
    Calls Tryd.prog 7 #[.slice A n c, .int .u8 (x : Int), .int .u8 (y : Int)] w (Yes8 w) := by
  have WK := Lib.hid (fun (W : World) (q : Keeps w W) => works8 K PK W (K.keep hZ q) (hS.keep q))
  have HZ := Lib.hid hZ
  have HS := Lib.hid hS
  have H := Lib.hid h
  have HN := Lib.hid hn
  unfold maxLen at hnx
  by_cases big : 40 < n
  · have x1 : (40 : Int) < (n : Int) := by omega
    clear hZ hS h hn big
    go_enter Tryd.func7, Tryd.ntmps7
    go_wp2_with fail
    refine (WK.out _ (keeps_refl _)).mono ?_
    rintro e w9 ⟨rfl, k9⟩
    go_wp2_with fail
    go_ret
    exact ⟨rfl, k9⟩
  · have b0 : (n : Int) ≤ 40 := by omega
    have LD := Lib.hid (laid_any K PK w hZ hS A n c rs h hn (by omega))
    clear hZ hS h hn big
    go_enter Tryd.func7, Tryd.ntmps7
    go_wp2_with fail
    refine LD.out.mono ?_
    rintro e w1 (⟨b, f, F, fl, rfl, h1⟩ | ⟨rfl, k1⟩)
    rotate_left
    · go_wp2_with fail
      refine (WK.out _ k1).mono ?_
      rintro e w9 ⟨rfl, k9⟩
      go_wp2_with fail
      go_ret
      exact ⟨rfl, keeps_trans k1 k9⟩
    have H1 := Lib.hid h1
    have hpl : (rowsL rs).length = n := by rw [rowsL_length]; exact HN.out.symm
    by_cases hz : n = 0
    · have hz1 : ((n : Int) == 0) = true := by rw [beq_iff_eq]; omega
      clear h1
      go_wp2_with fail
      refine (WK.out _ H1.out.h.kp).mono ?_
      rintro e w9 ⟨rfl, k9⟩
      go_wp2_with fail
      go_ret
      exact ⟨rfl, keeps_trans H1.out.h.kp k9⟩
    have hz1 : ((n : Int) == 0) = false := by rw [beq_eq_false_iff_ne]; omega
    have hz2 : ¬ (n : Int) = 0 := by omega
    obtain ⟨i, hi⟩ : ∃ i, x % n = i := ⟨_, rfl⟩
    obtain ⟨k, hk⟩ : ∃ k, y % n = k := ⟨_, rfl⟩
    have hin : i < n := by rw [← hi]; exact Nat.mod_lt _ (by omega)
    have hkn : k < n := by rw [← hk]; exact Nat.mod_lt _ (by omega)
    have hti : (x : Int).tmod (n : Int) = (i : Int) := by rw [← hi]; rfl
    have htk : (y : Int).tmod (n : Int) = (k : Int) := by rw [← hk]; rfl
    have hib : (i : Int) < (n : Int) := by omega
    have hkb : (k : Int) < (n : Int) := by omega
    obtain ⟨oi, hoi⟩ : ∃ o : Nat, 256 * i = o := ⟨_, rfl⟩
    obtain ⟨ok, hok⟩ : ∃ o : Nat, 256 * k = o := ⟨_, rfl⟩
    have hmi : (256 : Int) * (i : Int) = (oi : Int) := by omega
    have hmk : (256 : Int) * (k : Int) = (ok : Int) := by omega
    have hoib : (oi : Int) ≤ 20000 := by omega
    have hokb : (ok : Int) ≤ 20000 := by omega
    have hxi : (x : Int) ≤ 255 := by omega
    have hyi : (y : Int) ≤ 255 := by omega
    obtain ⟨r, hr⟩ : ∃ r, rs[i]? = some r := ⟨_, List.getElem?_eq_getElem (by have := HN.out; omega)⟩
    have hp : (rowsL rs)[i]? = some r.l := by rw [rowsL_get, hr]; rfl
    have hpb := (h1.is.page i r.l hp).1
    have hraw := h1.is.raw hp
    have hpgl := pageB_length tA i hpb
    obtain ⟨hlay, hx2⟩ := h1.is.lay (k := k) (by omega) (by omega) hpgl
    rw [hoi] at hraw
    rw [hok] at hlay hx2
    have RW := Lib.hid (h1.h.read_ HZ.out [97] (oi : Int) 256 ⟨by omega, by omega⟩ ⟨by decide, by decide⟩ _ rfl hraw)
    have IX := Lib.hid hx2
    have HP := Lib.hid hp
    have HR := Lib.hid hr
    have HPB := Lib.hid hpb
    have WR := Lib.hid (fun (V : World) (kk : Keeps w1 V) (A3 : Option Addr) (c3 : Nat) (o : Own V w1.heap.size 5 1 (.slice A3 (pageB tA i r.l).length c3) (pageB tA i r.l).length (cel (pageB tA i r.l))) =>
      (h1.h.keep kk).went hlay (K.write [97] (ok : Int) A3 (pageB tA i r.l).length c3 (pageB tA i r.l) ((h1.h.keep kk).z HZ.out) (h1.h.keep kk).D (by decide) (by omega) (by omega) o.at_ (fun ad ha hf => by
        obtain ⟨A', c', hv, hc', hm', -, hb'⟩ := o.form
        injection hv with h3 h4 h5
        subst h3
        have h6 := (hb' ad ha).2.1
        have h7 := K.lt h1.h.D _ hf
        omega) rfl (by obtain ⟨A', c', hv, hc', -⟩ := o.form; injection hv with h3 h4 h5; subst h5; exact hc') (by omega)))
    unfold dpt strV at WR
    rw [strA8] at WR
    rw [hpgl] at WR
    have HPL := Lib.hid hpgl
    have e1 : ((0 : Int) != 0) = false := rfl
    have HII := Lib.hid (And.intro hin hkn)
    clear h1 hraw hlay hx2 hp hr hpb hpgl hoi hok hi hk hx hy hpl hz hin hkn
    generalize hPG : pageB tA i r.l = pg at *
    go_wp2_with fail
    refine RW.out.mono ?_
    rintro e w2 ⟨A2, c2, rfl, -, o2, -, k2⟩
    rw [HPL.out] at o2
    have W2 := Lib.hid (WR.out _ k2 A2 c2 (by simpa [HPL.out] using o2))
    have L2 := Lib.hid (H1.out.keep k2)
    rw [HPL.out]
    clear o2 k2
    go_wp2_with fail
    refine W2.out.mono ?_
    rintro e w3 ⟨rfl, F3, h3, t3⟩
    obtain ⟨hf3, hn3⟩ := L2.out.at_.turn t3 L2.out.out
    have H3 := Lib.hid h3
    have HF3 := Lib.hid hf3
    have BD := Lib.hid (pfBad_any PK h3 HZ.out HS.out (nm := [97]) (by decide))
    rw [strA8] at BD
    clear h3 t3 hf3 hn3
    by_cases hik : i = k
    · subst hik
      have IS := Lib.hid (show IsF _ (rowsL rs) from IsX.whole (k := i) (by rw [hPG]; exact IX.out) HP.out)
      rw [IS.out.bad] at BD
      have e5 : ((i : Int) != (i : Int)) = false := by simp
      have e6 : ((i : Int) == (i : Int)) = true := by simp
      go_wp2_with fail
      refine BD.out.mono ?_
      rintro e w4 ⟨v4, rfl, o4, k4⟩
      obtain ⟨A4, c4, rfl, -⟩ := o4.form
      have H4 := Lib.hid (H3.out.keep k4)
      have HF4 := Lib.hid (HF3.out.keep k4)
      have RD := Lib.hid (pfRead_any PK H4.out HZ.out HS.out HF4.out (by decide) (i : Int) ⟨by omega, by omega⟩ (IS.out.read HP.out))
      obtain ⟨ad, rfl, hc, g⟩ := (H.out.keep H4.out.kp).get HR.out
      have G := Lib.hid g
      clear o4 k4 g
      go_wp2_with fail
      refine RD.out.mono ?_
      rintro e w5 ⟨A5, c5, rfl, -, o5, k5⟩
      have hc5 := k5.cellOf hc
      have EQ := Lib.hid (eq_same A5 r.l.length c5 r.l r.A r.n r.c w5 o5.at_ rfl (G.out.b.keep k5) G.out.len)
      have K5 := Lib.hid (keeps_trans H4.out.kp k5)
      clear o5 k5 hc
      go_wp2_with fail
      refine EQ.out.mono ?_
      rintro e w6 ⟨rfl, rfl⟩
      go_wp2_with fail
      refine (WK.out _ K5.out).mono ?_
      rintro e w9 ⟨rfl, k9⟩
      go_wp2_with fail
      go_ret
      exact ⟨rfl, keeps_trans K5.out k9⟩
    · have NO := Lib.hid (show ¬ IsPage pg tA k by rw [← hPG]; exact IsX.other (f := fl0) (ps := []) (by have := HII.out; omega) (by have := HII.out; omega) HPB.out hik)
      rw [IX.out.bad NO.out] at BD
      have e5 : ((i : Int) != (k : Int)) = true := by rw [bne_iff_ne]; omega
      have e6 : ((i : Int) == (k : Int)) = false := by rw [beq_eq_false_iff_ne]; omega
      have e7 : ((k : Int) != (k : Int)) = false := by simp
      go_wp2_with fail
      refine BD.out.mono ?_
      rintro e w4 ⟨v4, rfl, o4, k4⟩
      obtain ⟨A4, c4, rfl, -⟩ := o4.form
      obtain ⟨g4, rfl, q4, -⟩ := o4.cell (j := 0) (by simp [intC])
      have q4' : w4.cell? ⟨g4, 0, none⟩ = some (.int .i64 (k : Int)) := q4
      have H4 := Lib.hid (H3.out.keep k4)
      have HF4 := Lib.hid (HF3.out.keep k4)
      have RD := Lib.hid (pfRead_any PK H4.out HZ.out HS.out HF4.out (by decide) (i : Int) ⟨by omega, by omega⟩ (IX.out.read HP.out hik))
      obtain ⟨ad, rfl, hc, g⟩ := (H.out.keep H4.out.kp).get HR.out
      have G := Lib.hid g
      clear o4 k4 g q4
      go_wp2_with fail
      refine RD.out.mono ?_
      rintro e w5 ⟨A5, c5, rfl, -, o5, k5⟩
      have hc5 := k5.cellOf hc
      have EQ := Lib.hid (eq_same A5 r.l.length c5 r.l r.A r.n r.c w5 o5.at_ rfl (G.out.b.keep k5) G.out.len)
      have K5 := Lib.hid (keeps_trans H4.out.kp k5)
      clear o5 k5 hc
      go_wp2_with fail
      refine EQ.out.mono ?_
      rintro e w6 ⟨rfl, rfl⟩
      go_wp2_with fail
      refine (WK.out _ K5.out).mono ?_
      rintro e w9 ⟨rfl, k9⟩
      go_wp2_with fail
      go_ret
      exact ⟨rfl, keeps_trans K5.out k9⟩
end Go.Proofs.YtbpiiegjbcoapaaDoor
