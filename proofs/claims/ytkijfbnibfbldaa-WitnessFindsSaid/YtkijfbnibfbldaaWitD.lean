/- Package witness: a vertex is come to, and is settled; a search begins. -/
import Derived.Test.YtkijfbnibfbldaaWitC
namespace Go.Proofs.Ytkijfbnibfbldaa
open Go.RowKit
set_option linter.unusedSimpArgs false
set_option linter.unusedVariables false
set_option maxRecDepth 100000

/-- what come leaves -/
def ComeD (K : HeapOk) (w : World) (b mb : Nat) (Fh : Nat → Prop) (sv : Value) (S : List Nat) (W' : Wt) (w' : World) : Prop :=
  ∃ p' F' hp', SrAt K w' b mb p' F' sv hp' W' S ∧ Wait hp' W' S ∧ Turns w w' (SF b mb Fh sv) (SF b mb F' sv)
theorem push_done {K : HeapOk} {w0 w w' : World} {b mb : Nat} {p : Addr} {Fh0 Fh F' : Nat → Prop} {sv : Value} {G : List It} {W' : Wt} {S : List Nat} {x : It} (h : SrAt K w b mb p Fh sv G W' S) (T : Turns w0 w (SF b mb Fh0 sv) (SF b mb Fh sv)) (hx : ItOk x) (hl : G.length < 65536)
    (hh : K.H w' p F' (x :: G)) (t : Turns w w' Fh F') (hW : Wait (x :: G) W' S) : ComeD K w0 b mb Fh0 sv S W' w' := by
  obtain ⟨a1, a2⟩ := h.turn hh t (fun y hy => by
    rcases List.mem_cons.1 hy with rfl | hy
    · exact hx
    · exact h.fit y hy) (by simp only [List.length_cons]; omega)
  exact ⟨p, F', x :: G, a1, hW, T.trans a2⟩
set_option maxHeartbeats 8000000 in
theorem come_any {K : HeapOk} {w : World} {b mb : Nat} {p : Addr} {Fh : Nat → Prop} {sv : Value} {hp : List It} {W : Wt} {S : List Nat} (h : SrAt K w b mb p Fh sv hp W S) (hw : Wait hp W S) (v d : Nat) (hv : v < 4294967296) (hd : d < 18446744073709551616) (hS : v ∉ S) :
    Calls Try.prog 37 #[.pointer (some ⟨b, 0, none⟩), .int .u32 (v : Int), .int .u64 (d : Int)] w fun e w' => e = .returned (.tuple #[]) ∧ ComeD K w b mb Fh sv S (comeW W v d) w' := by
  have HH := Lib.hid h
  have HW := Lib.hid hw
  have HX := Lib.hid (show ItOk ⟨d, v⟩ from ⟨hd, hv⟩)
  have HV := Lib.hid hS
  have c1 : w.cell? ⟨b, 1, none⟩ = some (.map (some mb)) := h.box.cell 1 rfl
  have lb := h.box.lt
  have LK := look_wait h.map v true
  simp only [if_true] at LK
  obtain ⟨lt, hlt⟩ : ∃ lt, lateB W v d = lt := ⟨_, rfl⟩
  clear h hw hv hd hS
  cases lt with
  | true =>
    obtain ⟨c, hc, hcd⟩ : ∃ c, lookM W v = some c ∧ c ≤ d := by
      unfold lateB at hlt
      cases e : lookM W v with
      | none => rw [e] at hlt; cases hlt
      | some c => rw [e] at hlt; exact ⟨c, rfl, by simpa using hlt⟩
    rw [hc] at LK
    simp only [Option.map_some, Option.getD_some, Option.isSome_some, u64V] at LK
    have FIN := Lib.hid (show ComeD K w b mb Fh sv S (comeW W v d) w from by
      unfold comeW
      rw [if_pos hlt]
      exact ⟨p, Fh, hp, HH.out, HW.out, Turns.refl _ _⟩)
    have h4 : decide ((c : Int) ≤ (d : Int)) = true := decide_eq_true (by omega)
    have h5 : decide (c ≤ d) = true := decide_eq_true hcd
    clear hlt hc hcd
    go_enter Try.func37, Try.ntmps37
    go_wp2_with fail
    go_returns
    exact ⟨rfl, FIN.out⟩
  | false =>
    have e0 : comeW W v d = putM W v d := by unfold comeW; rw [hlt]; rfl
    rw [e0]
    have HLT := Lib.hid hlt
    have HM := Lib.hid HH.out.map
    have PUT := Lib.hid (fun w2 (hM2 : MapW u32V u64V w2 mb (putM W v d)) (o : Only w w2 (fun c => c = mb)) => HH.out.put hM2 o (fun u c hu => by
      rw [lookM_putW] at hu
      by_cases e : u = v
      · rw [if_pos e] at hu
        injection hu with hu
        rw [e, ← hu]
        exact ⟨HX.out.i, HX.out.k⟩
      · rw [if_neg e] at hu
        exact HH.out.fitW u c hu))
    have main : ∀ (lk : Option Nat), lookM W v = lk → (∀ c, lk = some c → d < c) → Calls Try.prog 37 #[.pointer (some ⟨b, 0, none⟩), .int .u32 (v : Int), .int .u64 (d : Int)] w fun e w' => e = .returned (.tuple #[]) ∧ ComeD K w b mb Fh sv S (putM W v d) w' := by
      intro lk hlk hdc
      rw [hlk] at LK
      clear hlt e0 hlk
      cases lk with
      | none =>
        simp only [Option.map_none, Option.getD_none, Option.isSome_none] at LK
        clear hdc
        go_enter Try.func37, Try.ntmps37
        go_wp2_with (at_mapUpdate; refine wpList_putV _ rfl _ _ _ rfl waitT mb _ rfl HM.out v rfl d rfl ?_; intro w2 hM2 hO2; obtain ⟨S2, T2⟩ := PUT.out w2 hM2 hO2; have c2 : w2.cell? ⟨b, 2, none⟩ = some (.pointer (some p)) := S2.box.cell 2 rfl; have l2 := S2.box.lt; have S2H := Lib.hid S2; have T2H := Lib.hid T2; clear S2 T2 hM2 hO2)
        by_cases hful : hp.length = 65536
        · have LN := Lib.hid (K.len S2H.out.heap S2H.out.len)
          rw [hful] at LN
          refine LN.out.mono ?_
          rintro e w3 ⟨rfl, k3⟩
          have TN := Lib.hid (thin_any (S2H.out.keep k3) HW.out.once)
          have T3H := Lib.hid (T2H.out.keep2 k3)
          clear hful k3 LN c2 l2
          go_wp2_with fail
          refine TN.out.mono ?_
          rintro e w4 ⟨rfl, p4, F4, G, S4, hG, hGl, T4⟩
          have c4 : w4.cell? ⟨b, 2, none⟩ = some (.pointer (some p4)) := S4.box.cell 2 rfl
          have l4 := S4.box.lt
          have S4H := Lib.hid S4
          have T4H := Lib.hid (T3H.out.trans T4)
          have WH := Lib.hid (HW.out.come HV.out HLT.out hG)
          have HGL := Lib.hid hGl
          have PP := Lib.hid (K.push ⟨d, v⟩ S4.heap HX.out (by omega))
          clear S4 hG hGl T4
          go_wp2_with fail
          refine PP.out.mono ?_
          rintro e w5 ⟨F5, rfl, h5, t5⟩
          have FIN := Lib.hid (push_done S4H.out T4H.out HX.out (by have := HGL.out; omega) h5 t5 WH.out)
          clear h5 t5 c4 l4
          go_wp2_with fail
          go_returns
          exact ⟨rfl, FIN.out⟩
        · have LN := Lib.hid (K.len S2H.out.heap S2H.out.len)
          have hlt6 := Lib.hid (show hp.length < 65536 by have := S2H.out.len; omega)
          have hb : ((hp.length : Int) == 65536) = false := by simp only [beq_eq_false_iff_ne, ne_eq]; omega
          clear hful
          refine LN.out.mono ?_
          rintro e w3 ⟨rfl, k3⟩
          have S4 := S2H.out.keep k3
          have c4 : w3.cell? ⟨b, 2, none⟩ = some (.pointer (some p)) := S4.box.cell 2 rfl
          have l4 := S4.box.lt
          have S4H := Lib.hid S4
          have T4H := Lib.hid (T2H.out.keep2 k3)
          have WH := Lib.hid (HW.out.come HV.out HLT.out (ThinS.refl HW.out.once))
          have PP := Lib.hid (K.push ⟨d, v⟩ S4.heap HX.out hlt6.out)
          clear S4 k3 c2 l2 LN
          go_wp2_with fail
          refine PP.out.mono ?_
          rintro e w5 ⟨F5, rfl, h5, t5⟩
          have FIN := Lib.hid (push_done S4H.out T4H.out HX.out hlt6.out h5 t5 WH.out)
          clear h5 t5 c4 l4 hb
          go_wp2_with fail
          go_returns
          exact ⟨rfl, FIN.out⟩
      | some c =>
        simp only [Option.map_some, Option.getD_some, Option.isSome_some, u64V] at LK
        have h4 : decide ((c : Int) ≤ (d : Int)) = false := decide_eq_false (by have := hdc c rfl; omega)
        have h5 : decide (c ≤ d) = false := decide_eq_false (by have := hdc c rfl; omega)
        clear hdc
        go_enter Try.func37, Try.ntmps37
        go_wp2_with (at_mapUpdate; refine wpList_putV _ rfl _ _ _ rfl waitT mb _ rfl HM.out v rfl d rfl ?_; intro w2 hM2 hO2; obtain ⟨S2, T2⟩ := PUT.out w2 hM2 hO2; have c2 : w2.cell? ⟨b, 2, none⟩ = some (.pointer (some p)) := S2.box.cell 2 rfl; have l2 := S2.box.lt; have S2H := Lib.hid S2; have T2H := Lib.hid T2; clear S2 T2 hM2 hO2)
        by_cases hful : hp.length = 65536
        · have LN := Lib.hid (K.len S2H.out.heap S2H.out.len)
          rw [hful] at LN
          refine LN.out.mono ?_
          rintro e w3 ⟨rfl, k3⟩
          have TN := Lib.hid (thin_any (S2H.out.keep k3) HW.out.once)
          have T3H := Lib.hid (T2H.out.keep2 k3)
          clear hful k3 LN c2 l2
          go_wp2_with fail
          refine TN.out.mono ?_
          rintro e w4 ⟨rfl, p4, F4, G, S4, hG, hGl, T4⟩
          have c4 : w4.cell? ⟨b, 2, none⟩ = some (.pointer (some p4)) := S4.box.cell 2 rfl
          have l4 := S4.box.lt
          have S4H := Lib.hid S4
          have T4H := Lib.hid (T3H.out.trans T4)
          have WH := Lib.hid (HW.out.come HV.out HLT.out hG)
          have HGL := Lib.hid hGl
          have PP := Lib.hid (K.push ⟨d, v⟩ S4.heap HX.out (by omega))
          clear S4 hG hGl T4
          go_wp2_with fail
          refine PP.out.mono ?_
          rintro e w5 ⟨F5, rfl, h5, t5⟩
          have FIN := Lib.hid (push_done S4H.out T4H.out HX.out (by have := HGL.out; omega) h5 t5 WH.out)
          clear h5 t5 c4 l4
          go_wp2_with fail
          go_returns
          exact ⟨rfl, FIN.out⟩
        · have LN := Lib.hid (K.len S2H.out.heap S2H.out.len)
          have hlt6 := Lib.hid (show hp.length < 65536 by have := S2H.out.len; omega)
          have hb : ((hp.length : Int) == 65536) = false := by simp only [beq_eq_false_iff_ne, ne_eq]; omega
          clear hful
          refine LN.out.mono ?_
          rintro e w3 ⟨rfl, k3⟩
          have S4 := S2H.out.keep k3
          have c4 : w3.cell? ⟨b, 2, none⟩ = some (.pointer (some p)) := S4.box.cell 2 rfl
          have l4 := S4.box.lt
          have S4H := Lib.hid S4
          have T4H := Lib.hid (T2H.out.keep2 k3)
          have WH := Lib.hid (HW.out.come HV.out HLT.out (ThinS.refl HW.out.once))
          have PP := Lib.hid (K.push ⟨d, v⟩ S4.heap HX.out hlt6.out)
          clear S4 k3 c2 l2 LN
          go_wp2_with fail
          refine PP.out.mono ?_
          rintro e w5 ⟨F5, rfl, h5, t5⟩
          have FIN := Lib.hid (push_done S4H.out T4H.out HX.out hlt6.out h5 t5 WH.out)
          clear h5 t5 c4 l4 hb
          go_wp2_with fail
          go_returns
          exact ⟨rfl, FIN.out⟩
    exact main _ rfl (fun c hc => by
      rcases lateB_false HLT.out with e | ⟨c', e, h1⟩
      · rw [e] at hc; cases hc
      · rw [e] at hc; injection hc with hc; omega)
end Go.Proofs.Ytkijfbnibfbldaa
