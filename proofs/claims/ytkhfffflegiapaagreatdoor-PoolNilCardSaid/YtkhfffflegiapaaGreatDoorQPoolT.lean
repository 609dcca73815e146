/- Package pool: bring. -/
import Derived.Test.YtkhfffflegiapaaGreatDoorQPoolQ
import Derived.Test.YtkhfffflegiapaaGreatDoorQPoolMath
namespace Go.Proofs.YtkhfffflegiapaaGreatDoor
open Go.RowKit
set_option linter.unusedSimpArgs false
set_option linter.unusedVariables false
set_option maxRecDepth 100000

section
variable {K : DiskOk} {w0 w w' : World} {B : PB} {X X' : PX} {Fd Fp Fd' Fp' : Nat → Prop} {sl sl' : List (Option Fx)} {p p' : Pst}
/-- a frame was used -/
theorem PHave.use (h : PHave K w0 w B Fd Fp X sl p) {i : Nat} {x : Fx} (hx : sl[i]? = some (some x)) :
    PHave K w0 (w.setCell ⟨x.blk, 5, none⟩ (.bool true)) B Fd Fp X (sl.set i (some (x.with_ x.f.pins true))) (onFr p i useF) ∧ Turns w (w.setCell ⟨x.blk, 5, none⟩ (.bool true)) (Both Fd Fp) (Both Fd Fp) := by
  have hfx : p.fr[i]? = some (some x.f) := by rw [h.fr]; exact frs_of hx
  have ho := only_set w ⟨x.blk, 5, none⟩ (.bool true)
  have FX := h.I.fr i x hx
  have I1 := h.I.with_ hx x.f.pins true ho (show Box _ x.blk 133 (x.with_ x.f.pins true).cells from Box.set FX.box 5 (.bool true))
  have ek : keysOf (onFr p i useF).fr = keysOf p.fr := keys_modify (g := useF) (fun _ => rfl) (fun _ => rfl) i
  have ep : pinN (onFr p i useF).fr = pinN p.fr := pin_modify (g := useF) (fun _ => rfl) i
  have T : Turns w (w.setCell ⟨x.blk, 5, none⟩ (.bool true)) Fp Fp := Turns.only_in ho (fun j e => by rw [show j = x.blk from e]; exact (h.I.inP.fr i x hx).1)
  exact h.pool (p' := onFr p i useF) rfl (I1.tal (by
    unfold tally
    rw [ep, resN_keys (onFr p i useF).fr, ek, ← resN_keys]
    rfl)) T (by rw [onFr_set hfx, frs_with, h.fr]; rfl) (h.ok.on (g := useF) (fun _ => rfl) (fun _ => rfl) i p.mostP (by rw [ep]; exact h.ok.mostP))
set_option maxHeartbeats 16000000 in
theorem bring_any (PK : PageOk) (h : PHave K w0 w B Fd Fp X sl p) (hZ : K.Z w0) (hS : Sizes w0) {M : Nat} (hb : Bnd M p.fr) (hM : M ≤ 1000000000000) (hbig : p.mostR ≤ 100000)
    {nm : List UInt8} {k : Nat} (hnm : nm.length ≤ 24) (hk : k ≤ M) {fb : Nat} (hf : PfAt w fb B.db nm) (hfF : ¬ Both Fd Fp fb) {wA : World} {FA : Nat → Prop} (TA : Turns wA w FA (Both Fd Fp)) (hw0 : w0.heap.size ≤ wA.heap.size) (hf0 : wA.heap.size ≤ fb) :
    Calls Tryz.prog 100 #[.pointer (some ⟨B.pb, 0, none⟩), .pointer (some ⟨fb, 0, none⟩), .agg #[.string (str nm), .int .i64 (k : Int)]] w (HoldV K w0 wA B FA (bringS p nm k)) := by
  have kA := keeps_alloc w (.cells #[.string (str nm), .int .i64 (k : Int)] 121)
  have hszA : wA.heap.size ≤ w.heap.size := TA.only.size
  have LT : ∀ i, Both Fd Fp i → i < w.heap.size := fun i hi => by
    rcases hi with hi | hi
    · exact K.lt h.D.D i hi
    · exact h.I.lt i hi
  have c2 : ∀ V, Keeps w V → V.cell? ⟨B.pb, 2, none⟩ = some (.map (some B.wb)) := fun V kk => (h.I.box.keep kk).cell 2 rfl
  have LK : ∀ V, Keeps w V → (Instr.lookup 92 (.map (some B.wb)) (.agg #[.string (str nm), .int .i64 (k : Int)]) false).run Tryz.prog V = .ok (((lookM X.W (nm, k)).map dpt).getD (.pointer none)) V := fun V kk => by
    have := run_lookV (P := Tryz.prog) framesT (z := .pointer none) zeroPf (h.I.wher.keep kk) (nm, k) false
    exact this
  rw [h.I.look] at LK
  unfold bringS
  cases e : p.fr.findIdx? (isAt nm k) with
  | some i =>
    obtain ⟨f, hfi, n1, n2⟩ := idx_some e
    rw [h.fr] at hfi
    obtain ⟨x, hx, rfl⟩ := frs_at hfi
    have hm : some (nm, k) ∈ keysOf (frs sl) := mem_keys.2 ⟨i, x.f, hfi, n1, n2⟩
    have hbk : X.bk nm k = x.blk := by rw [← n1, ← n2]; exact h.I.bk i x hx
    rw [if_pos hm, hbk] at LK
    simp only [Option.map_some, Option.getD_some, dpt] at LK
    have US := Lib.hid (fun (V : World) (kk : Keeps w V) => And.intro ((h.keep kk).use hx) (Turns.of_keeps (S := Both Fd Fp) kk))
    have FZ := Lib.hid (fun (V : World) (kk : Keeps w V) => show V.frozen? ⟨x.blk, 5, none⟩ = false ∧ V.cell? ⟨x.blk, 5, none⟩ = some (.bool x.f.used) from ⟨((h.I.fr i x hx).box.keep kk).frozen 5, ((h.I.fr i x hx).box.keep kk).cell 5 rfl⟩)
    have hil := (List.getElem?_eq_some_iff.1 hx).1
    have RES := Lib.hid (show (sl.set i (some (x.with_ x.f.pins true)))[i]? = some (some (x.with_ x.f.pins true)) from by rw [List.getElem?_set, if_pos rfl, if_pos hil])
    have C2 := c2 _ kA
    have L2 := LK _ (keeps_trans kA (keeps_drew _))
    obtain ⟨z0, z5⟩ := FZ.out _ (keeps_trans kA (keeps_drew _))
    have KA := Lib.hid kA
    have TH := Lib.hid TA
    clear h hb hf hfF LT c2 LK hfi n1 n2 hm hbk e hx hil kA TA
    simp only
    generalize str nm = sv at *
    generalize hbb : x.blk = bb at *
    go_enter Tryz.func100, Tryz.ntmps100
    go_wp2_with fail
    go_region
    go_wp2_with fail
    go_returns
    obtain ⟨⟨g1, g2⟩, g3⟩ := US.out _ (keeps_trans KA.out (keeps_drew _))
    exact ⟨_, rfl, Fd, Fp, X, _, g1, TH.out.trans (g3.trans g2), fun _ => ⟨_, RES.out, show Value.pointer (some ⟨bb, 0, none⟩) = Value.pointer (some ⟨x.blk, 0, none⟩) from by rw [hbb]⟩, fun h => absurd rfl h⟩
  | none =>
    have hkn := idx_none.1 e
    have hkn2 : ¬ some (nm, k) ∈ keysOf (frs sl) := by rw [← h.fr]; exact hkn
    rw [if_neg hkn2] at LK
    simp only [Option.map_none, Option.getD_none] at LK
    obtain ⟨l, E, hr⟩ : ∃ l E, readP p.d nm (k : Int) = (l, E) := ⟨_, _, rfl⟩
    simp only
    rw [hr]
    simp only
    have C2 := c2 _ kA
    have L2 := LK _ (keeps_trans kA (keeps_drew _))
    have kA2 := keeps_trans kA (keeps_drew _)
    have hki : (k : Int) ≤ 1000000000000 := by omega
    have RD := Lib.hid (fun (V : World) (kk : Keeps w V) => pfRead_any PK (h.D.keep kk) hZ hS (hf.keep kk) (by omega) (k : Int) ⟨by omega, by omega⟩ hr)
    have a0 : (w.alloc (.cells #[.string (str nm), .int .i64 (k : Int)] 121)).cell? ⟨w.heap.size, 0, none⟩ = some (.string (str nm)) := (Box.new w 121 #[.string (str nm), .int .i64 (k : Int)]).cell 0 rfl
    have a1 : (w.alloc (.cells #[.string (str nm), .int .i64 (k : Int)] 121)).cell? ⟨w.heap.size, 1, none⟩ = some (.int .i64 (k : Int)) := (Box.new w 121 #[.string (str nm), .int .i64 (k : Int)]).cell 1 rfl
    by_cases hE : E = 0
    · subst hE
      rw [if_neg (by simp)]
      have HO := Lib.hid (fun (V : World) (kk : Keeps w V) (hl : w.heap.size ≤ V.heap.size) (A : Option Addr) (c : Nat) (W : World) (kv : Keeps V W) (ho : Own W V.heap.size 5 1 (.slice A l.length c) l.length (cel l)) =>
        hold_any PK (h.keep (keeps_trans kk kv)) hZ hS hb hM hbig hkn hnm (hf.keep (keeps_trans kk kv)) hfF (TA.trans (Turns.of_keeps (keeps_trans kk kv))) hw0 hf0 (ho.base_le (Nat.le_trans hszA hl)) (fun g hg hF => by
          have h1 := (ho.lt g hg).1
          have h2 := LT g hF
          omega))
      have KA := Lib.hid kA
      clear h hb hf hfF LT c2 LK hkn hkn2 e hr kA TA
      generalize hsv : str nm = sv at *
      generalize hqq : holdS p nm k l = qq at *
      obtain ⟨q1, i, E⟩ := qq
      simp only
      by_cases hE : E = 0
      · subst hE
        rw [if_neg (by simp)]
        go_enter Tryz.func100, Tryz.ntmps100
        go_wp2_with fail
        go_region
        go_wp2_with fail
        refine (RD.out _ (keeps_trans KA.out (keeps_drew _))).mono ?_
        rintro e w2 ⟨A, c, rfl, hc, ho, k2⟩
        have HH := Lib.hid (HO.out _ (keeps_trans KA.out (keeps_drew _)) (keeps_trans KA.out (keeps_drew _)).size A c w2 k2 ho)
        have d0 := k2.cellOf (show ((w.alloc (.cells #[.string sv, .int .i64 (k : Int)] 121)).drew).cell? ⟨w.heap.size, 0, none⟩ = some (.string sv) from a0)
        have d1 := k2.cellOf (show ((w.alloc (.cells #[.string sv, .int .i64 (k : Int)] 121)).drew).cell? ⟨w.heap.size, 1, none⟩ = some (.int .i64 (k : Int)) from a1)
        clear ho k2 hc
        go_wp2_with fail
        refine HH.out.mono ?_
        rintro e w3 ⟨v, rfl, Fd1, Fp1, X1, s1, h1, t1, f1, -⟩
        obtain ⟨x, hx, rfl⟩ := f1 rfl
        have z0 := (h1.I.fr _ x hx).box.frozen 5
        have z5 := (h1.I.fr _ x hx).box.cell 5 rfl
        have US := Lib.hid (h1.use hx)
        have T1 := Lib.hid t1
        have hil := (List.getElem?_eq_some_iff.1 hx).1
        have RES := Lib.hid (show (s1.set i (some (x.with_ x.f.pins true)))[i]? = some (some (x.with_ x.f.pins true)) from by rw [List.getElem?_set, if_pos rfl, if_pos hil])
        clear h1 t1 f1 hx hil
        generalize hbb : x.blk = bb at *
        go_wp2_with fail
        go_returns
        obtain ⟨g1, g2⟩ := US.out
        exact ⟨_, rfl, Fd1, Fp1, X1, _, g1, T1.out.trans g2, fun _ => ⟨_, RES.out, show Value.pointer (some ⟨bb, 0, none⟩) = Value.pointer (some ⟨x.blk, 0, none⟩) from by rw [hbb]⟩, fun h => absurd rfl h⟩
      · rw [if_pos hE]
        have hne : ((E : Int) != 0) = true := by rw [bne_iff_ne]; omega
        go_enter Tryz.func100, Tryz.ntmps100
        go_wp2_with fail
        go_region
        go_wp2_with fail
        refine (RD.out _ (keeps_trans KA.out (keeps_drew _))).mono ?_
        rintro e w2 ⟨A, c, rfl, hc, ho, k2⟩
        have HH := Lib.hid (HO.out _ (keeps_trans KA.out (keeps_drew _)) (keeps_trans KA.out (keeps_drew _)).size A c w2 k2 ho)
        have d0 := k2.cellOf (show ((w.alloc (.cells #[.string sv, .int .i64 (k : Int)] 121)).drew).cell? ⟨w.heap.size, 0, none⟩ = some (.string sv) from a0)
        have d1 := k2.cellOf (show ((w.alloc (.cells #[.string sv, .int .i64 (k : Int)] 121)).drew).cell? ⟨w.heap.size, 1, none⟩ = some (.int .i64 (k : Int)) from a1)
        clear ho k2 hc
        go_wp2_with fail
        refine HH.out.mono ?_
        rintro e w3 ⟨v, rfl, Fd1, Fp1, X1, s1, h1, t1, -, -⟩
        have H1 := Lib.hid h1
        have T1 := Lib.hid t1
        clear h1 t1
        go_wp2_with fail
        go_returns
        exact ⟨_, rfl, Fd1, Fp1, X1, s1, H1.out, T1.out, fun h => absurd h hE, fun _ => rfl⟩
    · rw [if_pos hE]
      have hne : ((E : Int) != 0) = true := by rw [bne_iff_ne]; omega
      have PH := Lib.hid (fun (V : World) (kk : Keeps w V) => And.intro (h.keep kk) (TA.trans (Turns.of_keeps (S := Both Fd Fp) kk)))
      have KA := Lib.hid kA
      clear h hb hf hfF LT c2 LK hkn hkn2 e hr kA TA
      generalize str nm = sv at *
      go_enter Tryz.func100, Tryz.ntmps100
      go_wp2_with fail
      go_region
      go_wp2_with fail
      refine (RD.out _ (keeps_trans KA.out (keeps_drew _))).mono ?_
      rintro e w2 ⟨A, c, rfl, hc, ho, k2⟩
      have R := Lib.hid (PH.out w2 (keeps_trans (keeps_trans KA.out (keeps_drew _)) k2))
      clear ho k2 hc
      go_wp2_with fail
      go_returns
      exact ⟨_, rfl, Fd, Fp, X, sl, R.out.1, R.out.2, fun h => absurd h hE, fun _ => rfl⟩
end
end Go.Proofs.YtkhfffflegiapaaGreatDoor
/- Package pool: get. -/
namespace Go.Proofs.YtkhfffflegiapaaGreatDoor
open Go.RowKit
set_option linter.unusedSimpArgs false
set_option linter.unusedVariables false
set_option maxRecDepth 100000

section
variable {K : DiskOk} {w0 w w' : World} {B : PB} {X X' : PX} {Fd Fp Fd' Fp' : Nat → Prop} {sl sl' : List (Option Fx)} {p p' : Pst}
theorem PHave.below (h : PHave K w0 w B Fd Fp X sl p) : ∀ i, Both Fd Fp i → i < w.heap.size := fun i hi => by
  rcases hi with hi | hi
  · exact K.lt h.D.D i hi
  · exact h.I.lt i hi
set_option maxHeartbeats 16000000 in
theorem get_any (PK : PageOk) (h : PHave K w0 w B Fd Fp X sl p) (hZ : K.Z w0) (hS : Sizes w0) {M : Nat} (hb : Bnd M p.fr) (hM : M ≤ 1000000000000) (hM2 : 65536 ≤ M) (hbig : p.mostR ≤ 100000)
    (nm : List UInt8) (hnm : nm.length ≤ maxLen) (k : Int) (hk : IsI k) :
    Calls Tryz.prog 62 #[.pointer (some ⟨B.pb, 0, none⟩), .string (str nm), .int .i64 k] w (HoldV K w0 w B (Both Fd Fp) (getP p nm k)) := by
  have FI := Lib.hid (find10_any h hZ nm hnm hb hM)
  have PH := Lib.hid (fun (V : World) (kk : Keeps w V) => And.intro (h.keep kk) (Turns.of_keeps (S := Both Fd Fp) kk))
  have hlow := h.D.kp.size
  have hfb := find_bnd (K.ok h.D.D) h.ok hb hM2 nm
  have BR := Lib.hid (fun (V : World) (kk : Keeps w V) (kn : Nat) (hkn : kn ≤ M) (h24 : nm.length ≤ 24) (f : Nat) (hf : PfAt V f B.db nm) (hfl : w.heap.size ≤ f) =>
    bring_any PK (h.keep kk) hZ hS hb hM hbig h24 hkn hf (fun hF => by have := h.below f hF; omega) (Turns.of_keeps (S := Both Fd Fp) kk) hlow hfl)
  have h24 : (findP p nm).2 = 0 → nm.length ≤ 24 := fun e => (find_name e).2
  obtain ⟨hk1, hk2⟩ := hk
  unfold getP
  obtain ⟨n, E, hq⟩ : ∃ n E, findP p nm = (n, E) := ⟨_, _, rfl⟩
  rw [hq] at FI hfb h24 ⊢
  simp only at FI hfb h24 ⊢
  have H24 := Lib.hid h24
  clear h hb hq h24
  generalize hsv : str nm = sv at *
  by_cases hE : E = 0
  · subst hE
    rw [if_neg (by simp)]
    by_cases hk0 : k < 0
    · rw [if_pos hk0]
      go_enter Tryz.func62, Tryz.ntmps62
      go_wp2_with fail
      refine FI.out.mono ?_
      rintro e w2 ⟨k2, ⟨-, f, rfl, hf, hfl⟩ | ⟨h0, -⟩⟩
      · have R := Lib.hid (PH.out w2 k2)
        clear k2 hf
        go_wp2_with fail
        go_returns
        exact ⟨_, rfl, Fd, Fp, X, sl, R.out.1, R.out.2, fun h => absurd (show (1 : Nat) = 0 from h) (by decide), fun _ => rfl⟩
      · exact absurd rfl h0
    · rw [if_neg hk0]
      obtain ⟨kn, rfl⟩ : ∃ kn : Nat, k = (kn : Int) := ⟨k.toNat, by omega⟩
      rw [Int.toNat_natCast]
      by_cases hkn : n ≤ kn
      · rw [if_pos hkn]
        have hki : (n : Int) ≤ (kn : Int) := by omega
        go_enter Tryz.func62, Tryz.ntmps62
        go_wp2_with fail
        refine FI.out.mono ?_
        rintro e w2 ⟨k2, ⟨-, f, rfl, hf, hfl⟩ | ⟨h0, -⟩⟩
        · have R := Lib.hid (PH.out w2 k2)
          clear k2 hf
          go_wp2_with fail
          go_returns
          exact ⟨_, rfl, Fd, Fp, X, sl, R.out.1, R.out.2, fun h => absurd (show (3 : Nat) = 0 from h) (by decide), fun _ => rfl⟩
        · exact absurd rfl h0
      · rw [if_neg hkn]
        have hki : (kn : Int) < (n : Int) := by omega
        obtain ⟨q, hq⟩ : ∃ q, bringS p nm kn = q := ⟨_, rfl⟩
        rw [hq]
        go_enter Tryz.func62, Tryz.ntmps62
        go_wp2_with fail
        refine FI.out.mono ?_
        rintro e w2 ⟨k2, ⟨-, f, rfl, hf, hfl⟩ | ⟨h0, -⟩⟩
        · have BB := Lib.hid (BR.out w2 k2 kn (by omega) (H24.out (by trivial)) f hf hfl)
          rw [hq] at BB
          clear k2 hf
          go_wp2_with fail
          refine BB.out.mono ?_
          rintro e w3 ⟨v, rfl, R⟩
          have RR := Lib.hid R
          clear R
          go_wp2_with fail
          go_returns
          exact ⟨v, rfl, RR.out⟩
        · exact absurd rfl h0
  · rw [if_pos hE]
    have hne : ((E : Int) != 0) = true := by rw [bne_iff_ne]; omega
    go_enter Tryz.func62, Tryz.ntmps62
    go_wp2_with fail
    refine FI.out.mono ?_
    rintro e w2 ⟨k2, ⟨h0, -⟩ | ⟨-, rfl⟩⟩
    · exact absurd h0 hE
    · have R := Lib.hid (PH.out w2 k2)
      clear k2
      go_wp2_with fail
      go_returns
      exact ⟨_, rfl, Fd, Fp, X, sl, R.out.1, R.out.2, fun h => absurd h hE, fun _ => rfl⟩
end
end Go.Proofs.YtkhfffflegiapaaGreatDoor
/- Package pool: Read, Pages, Create. -/
namespace Go.Proofs.YtkhfffflegiapaaGreatDoor
open Go.RowKit
set_option linter.unusedSimpArgs false
set_option linter.unusedVariables false
set_option maxRecDepth 100000

section
variable {K : DiskOk} {w0 w w' : World} {B : PB} {X X' : PX} {Fd Fp Fd' Fp' : Nat → Prop} {sl sl' : List (Option Fx)} {p p' : Pst}
/-- a pool stands so behind a call -/
def Left (K : DiskOk) (w0 w w' : World) (B : PB) (F : Nat → Prop) (q : Pst) : Prop := ∃ Fd' Fp' X' sl', PHave K w0 w' B Fd' Fp' X' sl' q ∧ Turns w w' F (Both Fd' Fp')
/-- bytes in new memory, an error, and the state -/
def TextV (K : DiskOk) (w0 w : World) (B : PB) (F : Nat → Prop) (q : Pst) (l : List UInt8) (E : Nat) (e : Ending) (w' : World) : Prop :=
  ∃ v, e = .returned (.tuple #[v, .int .i64 (E : Int)]) ∧ Own w' w.heap.size 5 1 v l.length (cel l) ∧ ∃ Fd' Fp' X' sl', PHave K w0 w' B Fd' Fp' X' sl' q ∧ Turns w w' F (Both Fd' Fp') ∧ (∀ g, v.ownBlock = some g → ¬ Both Fd' Fp' g)
theorem TextV.none {E : Nat} (h : PHave K w0 w' B Fd Fp X sl p) {F : Nat → Prop} (t : Turns w w' F (Both Fd Fp)) : TextV K w0 w B F p [] E (.returned (.tuple #[.slice none 0 0, .int .i64 (E : Int)])) w' :=
  ⟨_, rfl, Own.nil _ _ _ _, Fd, Fp, X, sl, h, t, fun g hg => by cases hg⟩
theorem textF_at {fr : List (Option Frm)} {i : Nat} {f : Frm} (h : fr[i]? = some (some f)) : textF fr i = f.b := by
  unfold textF
  rw [h]
/-- a frame's bytes, copied -/
theorem text_any (h : PHave K w0 w B Fd Fp X sl p) {i : Nat} {x : Fx} (hx : sl[i]? = some (some x)) (ht : Txt p.fr) :
    Calls Tryz.prog 55 #[.slice x.A x.f.b.length x.c] w fun e w' => ∃ v, e = .returned v ∧ Own w' w.heap.size 5 1 v x.f.b.length (cel x.f.b) ∧ Keeps w w' := by
  have ho := (h.I.fr i x hx).text
  obtain ⟨A', c', hv, hc', hcm', hz, -⟩ := ho.form
  injection hv with v1 v2 v3
  subst v1
  subst v3
  exact clone_any x.A x.f.b.length x.c x.f.b w ho.at_ rfl (fun e => (hz e).2) (Nat.le_trans (ht i x.f (by rw [h.fr]; exact frs_of hx)) (by decide))
set_option maxHeartbeats 16000000 in
theorem read10_any (PK : PageOk) (h : PHave K w0 w B Fd Fp X sl p) (hZ : K.Z w0) (hS : Sizes w0) {M : Nat} (hb : Bnd M p.fr) (hM : M ≤ 1000000000000) (hM2 : 65536 ≤ M) (hbig : p.mostR ≤ 100000) (ht : Txt p.fr)
    (nm : List UInt8) (hnm : nm.length ≤ maxLen) (k : Int) (hk : IsI k) :
    Calls Tryz.prog 31 #[.pointer (some ⟨B.pb, 0, none⟩), .string (str nm), .int .i64 k] w (TextV K w0 w B (Both Fd Fp) (readPl p nm k).1 (readPl p nm k).2.1 (readPl p nm k).2.2) := by
  have G := Lib.hid (get_any PK h hZ hS hb hM hM2 hbig nm hnm k hk)
  have TX := Lib.hid (get_txt (K.ok h.D.D) ht nm k)
  unfold readPl
  obtain ⟨q, hq⟩ : ∃ q, getP p nm k = q := ⟨_, rfl⟩
  rw [hq] at G TX ⊢
  obtain ⟨q1, i, E⟩ := q
  simp only at TX ⊢
  clear h hb ht hq
  generalize str nm = sv at *
  by_cases hE : E = 0
  · subst hE
    rw [if_neg (by simp)]
    go_enter Tryz.func31, Tryz.ntmps31
    go_wp2_with fail
    refine G.out.mono ?_
    rintro e w2 ⟨v, rfl, Fd1, Fp1, X1, s1, h1, t1, f1, -⟩
    obtain ⟨x, hx, rfl⟩ := f1 rfl
    simp only at hx h1
    have c3 : w2.cell? ⟨x.blk, 3, none⟩ = some (.slice x.A x.f.b.length x.c) := (h1.I.fr i x hx).box.cell 3 rfl
    have CL := Lib.hid (text_any h1 hx TX.out)
    have H1 := Lib.hid h1
    have T1 := Lib.hid t1
    have TF := Lib.hid (show textF q1.fr i = x.f.b from textF_at (by rw [h1.fr]; exact frs_of hx))
    clear h1 t1 f1 hx
    generalize hl : x.f.b.length = bl at *
    go_wp2_with fail
    refine CL.out.mono ?_
    rintro e w3 ⟨v, rfl, hv, k3⟩
    have K3 := Lib.hid k3
    have HV := Lib.hid hv
    clear hv k3
    go_wp2_with fail
    go_returns
    refine ⟨v, rfl, ?_, Fd1, Fp1, X1, s1, H1.out.keep K3.out, T1.out.trans (Turns.of_keeps K3.out), fun g hg hF => ?_⟩
    · show Own _ _ _ _ _ (textF q1.fr i).length (cel (textF q1.fr i))
      rw [TF.out, hl]
      exact HV.out.base_le T1.out.only.size
    · have h2 := (HV.out.lt g hg).1
      have h3 := H1.out.below g hF
      exact absurd h3 (by show ¬ g < w2.heap.size; exact Nat.not_lt.2 h2)
  · rw [if_pos hE]
    have hne : ((E : Int) != 0) = true := by rw [bne_iff_ne]; omega
    go_enter Tryz.func31, Tryz.ntmps31
    go_wp2_with fail
    refine G.out.mono ?_
    rintro e w2 ⟨v, rfl, Fd1, Fp1, X1, s1, h1, t1, -, -⟩
    have R := Lib.hid (TextV.none (E := E) h1 t1)
    clear h1 t1
    go_wp2_with fail
    go_returns
    exact R.out
set_option maxHeartbeats 8000000 in
theorem pages_any (h : PHave K w0 w B Fd Fp X sl p) (hZ : K.Z w0) {M : Nat} (hb : Bnd M p.fr) (hM : M ≤ 1000000000000) (nm : List UInt8) (hnm : nm.length ≤ maxLen) :
    Calls Tryz.prog 30 #[.pointer (some ⟨B.pb, 0, none⟩), .string (str nm)] w fun e w' => e = .returned (.tuple #[.int .i64 ((if (findP p nm).2 = 0 then (findP p nm).1 else 0 : Nat) : Int), .int .i64 ((findP p nm).2 : Int)]) ∧ Keeps w w' := by
  have FI := Lib.hid (find10_any h hZ nm hnm hb hM)
  clear h hb
  obtain ⟨n, E, hq⟩ : ∃ n E, findP p nm = (n, E) := ⟨_, _, rfl⟩
  rw [hq] at FI ⊢
  simp only at FI ⊢
  generalize str nm = sv at *
  by_cases hE : E = 0
  · subst hE
    rw [if_pos rfl]
    go_enter Tryz.func30, Tryz.ntmps30
    go_wp2_with fail
    refine FI.out.mono ?_
    rintro e w2 ⟨k2, ⟨-, f, rfl, -, -⟩ | ⟨h0, -⟩⟩
    · have K2 := Lib.hid k2
      clear k2
      go_wp2_with fail
      go_returns
      exact ⟨rfl, K2.out⟩
    · exact absurd rfl h0
  · rw [if_neg hE]
    go_enter Tryz.func30, Tryz.ntmps30
    go_wp2_with fail
    refine FI.out.mono ?_
    rintro e w2 ⟨k2, ⟨h0, -⟩ | ⟨-, rfl⟩⟩
    · exact absurd h0 hE
    · have K2 := Lib.hid k2
      clear k2
      go_wp2_with fail
      go_returns
      exact ⟨rfl, K2.out⟩
set_option maxHeartbeats 8000000 in
theorem create10_any (h : PHave K w0 w B Fd Fp X sl p) (hZ : K.Z w0) (nm : List UInt8) (hnm : nm.length ≤ maxLen) :
    Calls Tryz.prog 40 #[.pointer (some ⟨B.pb, 0, none⟩), .string (str nm)] w fun e w' => e = .returned (.int .i64 ((createPl p nm).2 : Int)) ∧ Left K w0 w w' B (Both Fd Fp) (createPl p nm).1 := by
  have CR := Lib.hid (pfCreate_any h.D hZ nm hnm (s' := (createS p.d nm).1) (E := (createS p.d nm).2) rfl)
  have p0 : w.cell? ⟨B.pb, 0, none⟩ = some (.pointer (some ⟨B.db, 0, none⟩)) := h.I.box.cell 0 rfl
  have H := Lib.hid h
  unfold createPl
  simp only
  obtain ⟨d', hd⟩ : ∃ d', (createS p.d nm).1 = d' := ⟨_, rfl⟩
  obtain ⟨E, hE⟩ : ∃ E, (createS p.d nm).2 = E := ⟨_, rfl⟩
  rw [hd, hE] at CR ⊢
  clear h hd hE
  generalize str nm = sv at *
  go_enter Tryz.func40, Tryz.ntmps40
  go_wp2_with fail
  refine CR.out.mono ?_
  rintro e w2 ⟨F', D', t', ⟨rfl, f, rfl, -, -, -⟩ | ⟨hE, rfl⟩⟩
  · have R := Lib.hid (H.out.disk D' t')
    clear D' t'
    go_wp2_with fail
    go_returns
    exact ⟨rfl, F', Fp, X, sl, R.out.1, R.out.2⟩
  · have R := Lib.hid (H.out.disk D' t')
    clear D' t'
    go_wp2_with fail
    go_returns
    exact ⟨rfl, F', Fp, X, sl, R.out.1, R.out.2⟩
end
end Go.Proofs.YtkhfffflegiapaaGreatDoor
