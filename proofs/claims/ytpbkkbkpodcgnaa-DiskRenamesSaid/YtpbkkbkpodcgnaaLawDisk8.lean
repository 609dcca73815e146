/- DiskRenames. -/
import Derived.Test.YtpbkkbkpodcgnaaLawDisk6
import Derived.Test.YtpbkkbkpodcgnaaLawDisk7
namespace Go.Proofs.Ytpbkkbkpodcgnaa
open Go.RowKit
set_option linter.unusedSimpArgs false
set_option linter.unusedVariables false
set_option maxRecDepth 100000

def nF : List UInt8 := [102, 114, 111, 109]
def nT : List UInt8 := [116, 111]
theorem ok_f : nameOk nF = true := by decide
theorem ok_t : nameOk nT = true := by decide
theorem ne_ft : nF ≠ nT := by decide
theorem ne_tf : nT ≠ nF := by decide
theorem lt_ft : nF < nT := by decide
theorem not_tf : ¬ nT < nF := by decide
/-- a file that holds and keeps these bytes; one just made; one that is not synced -/
def flL (nm l : List UInt8) : Fl := ⟨nm, l, l, fun _ => false⟩
def flE (nm : List UInt8) : Fl := ⟨nm, [], [], fun _ => false⟩
theorem flW (nm l : List UInt8) : syncF (writeF (flE nm) 0 l) = flL nm l := by simp [syncF, writeF, layB_nil, flL, flE]
def DL (l : List Fl) (armed : Nat) (off : Bool) : Ds := ⟨l, 4096, armed, off⟩
theorem rn1 : createS (DL [] 0 false) nF = (DL [flE nF] 0 false, 0) := by simp [createS, DL, goneS, ok_f, getF, putF, flE]
theorem rn2 (l : List UInt8) (h : l.length ≤ 4096) : writeS (DL [flE nF] 0 false) nF 0 l = (DL [writeF (flE nF) 0 l] 0 false, 0) := by
  have h1 : ¬ (16777216 < l.length) := by omega
  have h2 : ¬ (sect 0 < sect l.length ∧ 4096 < sect 0 + (sect l.length - sect 0)) := by unfold sect; omega
  simp [writeS, DL, goneS, ok_f, getF, flE, usedL, setF, h1, h2, writeF]
theorem rn3 (l : List UInt8) : syncS (DL [writeF (flE nF) 0 l] 0 false) nF = (DL [flL nF l] 0 false, 0) := by
  have e : syncF (writeF (flE nF) 0 l) = flL nF l := flW nF l
  have e0 : (writeF (flE nF) 0 l).name = nF := rfl
  simp [syncS, DL, goneS, ok_f, getF, setF, e0, e]
  intro h
  exact absurd rfl h
theorem rn4 (l : List UInt8) : createS (DL [flL nF l] 0 false) nT = (DL [flL nF l, flE nT] 0 false, 0) := by
  simp [createS, DL, goneS, ok_t, getF, putF, flE, flL, ne_ft, lt_ft]
theorem rn5 (l m : List UInt8) (h : l.length ≤ 4096) (h' : m.length ≤ 4096) : writeS (DL [flL nF l, flE nT] 0 false) nT 0 m = (DL [flL nF l, writeF (flE nT) 0 m] 0 false, 0) := by
  have h1 : ¬ (16777216 < m.length) := by omega
  have h2 : ¬ (sect 0 < sect m.length ∧ 4096 < sect l.length + sect 0 + (sect m.length - sect 0)) := by unfold sect; omega
  simp [writeS, DL, goneS, ok_t, getF, flE, flL, usedL, setF, h1, h2, writeF, ne_ft, ne_tf]
theorem rn6 (l m : List UInt8) : syncS (DL [flL nF l, writeF (flE nT) 0 m] 0 false) nT = (DL [flL nF l, flL nT m] 0 false, 0) := by
  have e : syncF (writeF (flE nT) 0 m) = flL nT m := flW nT m
  have e0 : (writeF (flE nT) 0 m).name = nT := rfl
  have e1 : (flL nF l).name = nF := rfl
  have e2 : (flL nT m).name = nT := rfl
  simp [syncS, DL, goneS, ok_t, getF, setF, e0, e1, e2, e, ne_ft, ne_tf]
theorem rn7 (L : List Fl) (k : Nat) (hk : k = 1 ∨ k = 2) : armS (DL L 0 false) (k : Int) = (DL L k false, 0) := by
  rcases hk with rfl | rfl <;> simp [armS, DL]
/-- the power goes ahead of it -/
theorem rn8 (L : List Fl) : renameS (DL L 1 false) nF nT = (DL L 0 true, 6) := by simp [renameS, DL, goneS]
theorem rn9 (L : List Fl) : syncS (DL L 0 true) nT = (DL L 0 true, 6) := by simp [syncS, DL, goneS]
theorem rn10 (L : List Fl) : syncS (DL L 1 false) nT = (DL L 0 true, 6) := by simp [syncS, DL, goneS]
theorem rn11 (l : List UInt8) : renameS (DL [flL nF l] 2 false) nF nT = (DL [flL nT l] 1 false, 0) := by
  simp [renameS, DL, goneS, ok_f, ok_t, getF, delF, putF, flL]
theorem rn12 (l m : List UInt8) : renameS (DL [flL nF l, flL nT m] 2 false) nF nT = (DL [flL nT l] 1 false, 0) := by
  simp [renameS, DL, goneS, ok_f, ok_t, getF, delF, putF, flL, ne_tf]
theorem rn13 (nm l : List UInt8) : onS (DL [flL nm l] 0 true) [] = (DL [flL nm l] 0 false, 0) := by
  simp [onS, DL, backL, backF_nil, flL]
theorem rn14 (nm l nm2 m : List UInt8) : onS (DL [flL nm l, flL nm2 m] 0 true) [] = (DL [flL nm l, flL nm2 m] 0 false, 0) := by
  simp [onS, DL, backL, backF_nil, flL]
theorem look1 (l : List UInt8) : lookF [(nF, l)] nF = some l := by simp [lookF]
theorem look2 (l : List UInt8) : lookF [(nF, l)] nT = none := by simp [lookF, ne_ft]
theorem look3 (l : List UInt8) : lookF [(nT, l)] nF = none := by simp [lookF, ne_tf]
theorem look4 (l : List UInt8) : lookF [(nT, l)] nT = some l := by simp [lookF]
theorem look5 (l m : List UInt8) : lookF [(nF, l), (nT, m)] nF = some l := by simp [lookF]
theorem look6 (l m : List UInt8) : lookF [(nF, l), (nT, m)] nT = some m := by simp [lookF, ne_ft]

theorem Have.files_ {K : DiskOk} {w0 w : World} {b : Nat} {F : Nat → Prop} {s : Ds} (h : Have K w0 w b F s) (hZ : K.Z w0) {L : List (List UInt8 × List UInt8)} (hs : (s.l.map fun f => (f.name, f.now)) = L) (hL : L.length ≤ 70000 := by simp) :
    Calls Try.prog 16 #[.pointer (some ⟨b, 0, none⟩)] w fun e w' => ∃ A c, e = .returned (.slice A L.length c) ∧ FilesAt w' w.heap.size (.slice A L.length c) L ∧ Have K w0 w' b F s ∧ Keeps w w' := by
  have := K.files (h.z hZ) h.D (by rw [← hs, List.length_map] at hL; exact hL)
  rw [hs] at this
  refine this.mono ?_
  rintro e w' ⟨v, rfl, hf, hk⟩
  obtain ⟨vs, q1, q2, q3⟩ := hf
  obtain ⟨A, c, rfl, -⟩ := q2.form
  exact ⟨A, c, rfl, ⟨vs, q1, q2, q3⟩, h.keep hk, hk⟩
theorem i2_ok : IsI 2 := ⟨by decide, by decide⟩

set_option maxHeartbeats 16000000 in
theorem ren_0_0 (K : DiskOk) (A : Option Addr) (n c : Nat) (l : List UInt8) (A2 : Option Addr) (n2 c2 : Nat) (l2 : List UInt8) (w : World) (hZ : K.Z w) (hB : Bs w A l) (hn : n = l.length) (hB2 : Bs w A2 l2) (hn2 : n2 = l2.length)
    (b1 : (n : Int) ≤ 4096) (b2 : (n2 : Int) ≤ 4096) :
    Calls Try.prog 8 #[.slice A n c, .slice A2 n2 c2, .bool false, .bool false] w (Yes w) := by
  have WK := Lib.hid (fun (W : World) (q : Keeps w W) => works6 K W (K.keep hZ q))
  have HB := Lib.hid hB
  have HB2 := Lib.hid hB2
  have HN := Lib.hid hn
  have HN2 := Lib.hid hn2
  have HZ := Lib.hid hZ
  have NW := Lib.hid (new_ K w hZ)
  clear hB hB2 hn hn2 hZ
  go_enter Try.func8, Try.ntmps8
  go_wp2_with fail
  refine NW.out.mono ?_
  rintro e w1 ⟨b, F, rfl, h1⟩
  have H1 := Lib.hid h1
  clear h1
  go_wp2_with fail
  refine (H1.out.create_ HZ.out nF _ rfl rn1).mono ?_
  rintro e w2 ⟨rfl, F2, h2⟩
  have T2 := Lib.hid (twin6_any A n c l w2 (HB.out.keep h2.kp) HN.out (by omega))
  have H2 := Lib.hid h2
  clear h2
  go_wp2_with fail
  refine T2.out.mono ?_
  rintro e w3 ⟨v3, rfl, o3, k3⟩
  obtain ⟨A3, c3, rfl, -⟩ := o3.form
  go_wp2_with fail
  refine (H2.out.write_ HZ.out nF 0 i0_ok _ rfl o3 rfl k3 (by have := HN.out; omega) (rn2 l (by have := HN.out; omega))).mono ?_
  rintro e w4 ⟨rfl, F4, h4⟩
  have H4 := Lib.hid h4
  clear h4 o3 k3
  go_wp2_with fail
  refine (H4.out.sync_ HZ.out nF _ rfl (rn3 l)).mono ?_
  rintro e w5 ⟨rfl, F5, h5⟩
  have H5 := Lib.hid h5
  clear h5
  go_wp2_with fail
  refine (H5.out.arm_ HZ.out 2 i2_ok (rn7 [flL nF l] 2 (by decide))).mono ?_
  rintro e w6 ⟨rfl, F6, h6⟩
  have H6 := Lib.hid h6
  clear h6
  go_wp2_with fail
  refine (H6.out.rename_ HZ.out nF nT _ _ rfl rfl (rn11 l)).mono ?_
  rintro e w7 ⟨rfl, F7, h7⟩
  have H7 := Lib.hid h7
  clear h7
  go_wp2_with fail
  refine (H7.out.sync_ HZ.out nT _ rfl (rn10 _)).mono ?_
  rintro e w8 ⟨rfl, F8, h8⟩
  have H8 := Lib.hid h8
  clear h8
  go_wp2_with fail
  refine (H8.out.on_ HZ.out none 0 0 [] (At.nil _ _ _) (fun ad h => by cases h) rfl (Nat.le_refl _) (by decide) (rn13 nT l)).mono ?_
  rintro e w9 ⟨rfl, F9, h9⟩
  have H9 := Lib.hid h9
  clear h9
  go_wp2_with fail
  refine (H9.out.files_ HZ.out (L := [(nT, l)]) rfl).mono ?_
  rintro e w10 ⟨A10, c10, rfl, f10, h10, k10⟩
  have F10 := Lib.hid f10
  have H10 := Lib.hid h10
  have LF := Lib.hid (fileOf_any _ _ _ nF _ rfl w10 f10 (by simp))
  rw [(look3 l)] at LF
  clear f10 h10 k10
  go_wp2_with fail
  refine LF.out.mono ?_
  rintro e w11 ⟨k11, rfl⟩
  have LT := Lib.hid (fileOf_any _ _ _ nT _ rfl w11 (F10.out.keep k11) (by simp))
  rw [(look4 l)] at LT
  have K11 := Lib.hid k11
  clear k11
  go_wp2_with fail
  refine LT.out.mono ?_
  rintro e w12 ⟨k12, Axk12, cxk12, rfl, oxk12⟩
  have Ok12 := Lib.hid oxk12
  clear oxk12
  have K12 := Lib.hid (keeps_trans H10.out.kp (keeps_trans K11.out k12))
  have S1 := Lib.hid (same6_any Axk12 l.length cxk12 l A n c l w12 Ok12.out.at_ rfl (HB.out.keep K12.out) HN.out (by have := HN.out; omega))
  rw [decide_eq_true rfl] at S1
  clear k12
  go_wp2_with fail
  refine S1.out.mono ?_
  rintro e w13 ⟨rfl, k13⟩
  have K13 := Lib.hid (keeps_trans K12.out k13)
  clear k13
  go_wp2_with fail
  refine (WK.out _ K13.out).mono ?_
  rintro e w20 ⟨rfl, k20⟩
  have K20 := Lib.hid (keeps_trans K13.out k20)
  clear k20
  go_wp2_with fail
  go_ret
  exact ⟨rfl, K20.out⟩

set_option maxHeartbeats 16000000 in
theorem ren_0_1 (K : DiskOk) (A : Option Addr) (n c : Nat) (l : List UInt8) (A2 : Option Addr) (n2 c2 : Nat) (l2 : List UInt8) (w : World) (hZ : K.Z w) (hB : Bs w A l) (hn : n = l.length) (hB2 : Bs w A2 l2) (hn2 : n2 = l2.length)
    (b1 : (n : Int) ≤ 4096) (b2 : (n2 : Int) ≤ 4096) :
    Calls Try.prog 8 #[.slice A n c, .slice A2 n2 c2, .bool false, .bool true] w (Yes w) := by
  have WK := Lib.hid (fun (W : World) (q : Keeps w W) => works6 K W (K.keep hZ q))
  have HB := Lib.hid hB
  have HB2 := Lib.hid hB2
  have HN := Lib.hid hn
  have HN2 := Lib.hid hn2
  have HZ := Lib.hid hZ
  have NW := Lib.hid (new_ K w hZ)
  clear hB hB2 hn hn2 hZ
  go_enter Try.func8, Try.ntmps8
  go_wp2_with fail
  refine NW.out.mono ?_
  rintro e w1 ⟨b, F, rfl, h1⟩
  have H1 := Lib.hid h1
  clear h1
  go_wp2_with fail
  refine (H1.out.create_ HZ.out nF _ rfl rn1).mono ?_
  rintro e w2 ⟨rfl, F2, h2⟩
  have T2 := Lib.hid (twin6_any A n c l w2 (HB.out.keep h2.kp) HN.out (by omega))
  have H2 := Lib.hid h2
  clear h2
  go_wp2_with fail
  refine T2.out.mono ?_
  rintro e w3 ⟨v3, rfl, o3, k3⟩
  obtain ⟨A3, c3, rfl, -⟩ := o3.form
  go_wp2_with fail
  refine (H2.out.write_ HZ.out nF 0 i0_ok _ rfl o3 rfl k3 (by have := HN.out; omega) (rn2 l (by have := HN.out; omega))).mono ?_
  rintro e w4 ⟨rfl, F4, h4⟩
  have H4 := Lib.hid h4
  clear h4 o3 k3
  go_wp2_with fail
  refine (H4.out.sync_ HZ.out nF _ rfl (rn3 l)).mono ?_
  rintro e w5 ⟨rfl, F5, h5⟩
  have H5 := Lib.hid h5
  clear h5
  go_wp2_with fail
  refine (H5.out.arm_ HZ.out 1 i1_ok (rn7 [flL nF l] 1 (by decide))).mono ?_
  rintro e w6 ⟨rfl, F6, h6⟩
  have H6 := Lib.hid h6
  clear h6
  go_wp2_with fail
  refine (H6.out.rename_ HZ.out nF nT _ _ rfl rfl (rn8 _)).mono ?_
  rintro e w7 ⟨rfl, F7, h7⟩
  have H7 := Lib.hid h7
  clear h7
  go_wp2_with fail
  refine (H7.out.sync_ HZ.out nT _ rfl (rn9 _)).mono ?_
  rintro e w8 ⟨rfl, F8, h8⟩
  have H8 := Lib.hid h8
  clear h8
  go_wp2_with fail
  refine (H8.out.on_ HZ.out none 0 0 [] (At.nil _ _ _) (fun ad h => by cases h) rfl (Nat.le_refl _) (by decide) (rn13 nF l)).mono ?_
  rintro e w9 ⟨rfl, F9, h9⟩
  have H9 := Lib.hid h9
  clear h9
  go_wp2_with fail
  refine (H9.out.files_ HZ.out (L := [(nF, l)]) rfl).mono ?_
  rintro e w10 ⟨A10, c10, rfl, f10, h10, k10⟩
  have F10 := Lib.hid f10
  have H10 := Lib.hid h10
  have LF := Lib.hid (fileOf_any _ _ _ nF _ rfl w10 f10 (by simp))
  rw [(look1 l)] at LF
  clear f10 h10 k10
  go_wp2_with fail
  refine LF.out.mono ?_
  rintro e w11 ⟨k11, Axk11, cxk11, rfl, oxk11⟩
  have Ok11 := Lib.hid oxk11
  clear oxk11
  have LT := Lib.hid (fileOf_any _ _ _ nT _ rfl w11 (F10.out.keep k11) (by simp))
  rw [(look2 l)] at LT
  have K11 := Lib.hid k11
  clear k11
  go_wp2_with fail
  refine LT.out.mono ?_
  rintro e w12 ⟨k12, rfl⟩
  have K12 := Lib.hid (keeps_trans H10.out.kp (keeps_trans K11.out k12))
  have S1 := Lib.hid (same6_any Axk11 l.length cxk11 l A n c l w12 (Ok11.out.keep k12).at_ rfl (HB.out.keep K12.out) HN.out (by have := HN.out; omega))
  rw [decide_eq_true rfl] at S1
  clear k12
  go_wp2_with fail
  refine S1.out.mono ?_
  rintro e w13 ⟨rfl, k13⟩
  have K13 := Lib.hid (keeps_trans K12.out k13)
  clear k13
  go_wp2_with fail
  refine (WK.out _ K13.out).mono ?_
  rintro e w20 ⟨rfl, k20⟩
  have K20 := Lib.hid (keeps_trans K13.out k20)
  clear k20
  go_wp2_with fail
  go_ret
  exact ⟨rfl, K20.out⟩

set_option maxHeartbeats 16000000 in
theorem ren_1_0 (K : DiskOk) (A : Option Addr) (n c : Nat) (l : List UInt8) (A2 : Option Addr) (n2 c2 : Nat) (l2 : List UInt8) (w : World) (hZ : K.Z w) (hB : Bs w A l) (hn : n = l.length) (hB2 : Bs w A2 l2) (hn2 : n2 = l2.length)
    (b1 : (n : Int) ≤ 4096) (b2 : (n2 : Int) ≤ 4096) :
    Calls Try.prog 8 #[.slice A n c, .slice A2 n2 c2, .bool true, .bool false] w (Yes w) := by
  have WK := Lib.hid (fun (W : World) (q : Keeps w W) => works6 K W (K.keep hZ q))
  have HB := Lib.hid hB
  have HB2 := Lib.hid hB2
  have HN := Lib.hid hn
  have HN2 := Lib.hid hn2
  have HZ := Lib.hid hZ
  have NW := Lib.hid (new_ K w hZ)
  clear hB hB2 hn hn2 hZ
  go_enter Try.func8, Try.ntmps8
  go_wp2_with fail
  refine NW.out.mono ?_
  rintro e w1 ⟨b, F, rfl, h1⟩
  have H1 := Lib.hid h1
  clear h1
  go_wp2_with fail
  refine (H1.out.create_ HZ.out nF _ rfl rn1).mono ?_
  rintro e w2 ⟨rfl, F2, h2⟩
  have T2 := Lib.hid (twin6_any A n c l w2 (HB.out.keep h2.kp) HN.out (by omega))
  have H2 := Lib.hid h2
  clear h2
  go_wp2_with fail
  refine T2.out.mono ?_
  rintro e w3 ⟨v3, rfl, o3, k3⟩
  obtain ⟨A3, c3, rfl, -⟩ := o3.form
  go_wp2_with fail
  refine (H2.out.write_ HZ.out nF 0 i0_ok _ rfl o3 rfl k3 (by have := HN.out; omega) (rn2 l (by have := HN.out; omega))).mono ?_
  rintro e w4 ⟨rfl, F4, h4⟩
  have H4 := Lib.hid h4
  clear h4 o3 k3
  go_wp2_with fail
  refine (H4.out.sync_ HZ.out nF _ rfl (rn3 l)).mono ?_
  rintro e w5 ⟨rfl, F5, h5⟩
  have H5 := Lib.hid h5
  clear h5
  go_wp2_with fail
  refine (H5.out.create_ HZ.out nT _ rfl (rn4 l)).mono ?_
  rintro e u2 ⟨rfl, G2, h2⟩
  have U2 := Lib.hid (twin6_any A2 n2 c2 l2 u2 (HB2.out.keep h2.kp) HN2.out (by omega))
  have J2 := Lib.hid h2
  clear h2
  go_wp2_with fail
  refine U2.out.mono ?_
  rintro e u3 ⟨v4, rfl, o4, k4⟩
  obtain ⟨A4, c4, rfl, -⟩ := o4.form
  go_wp2_with fail
  refine (J2.out.write_ HZ.out nT 0 i0_ok _ rfl o4 rfl k4 (by have := HN2.out; omega) (rn5 l l2 (by have := HN.out; omega) (by have := HN2.out; omega))).mono ?_
  rintro e u4 ⟨rfl, G4, h4⟩
  have J4 := Lib.hid h4
  clear h4 o4 k4
  go_wp2_with fail
  refine (J4.out.sync_ HZ.out nT _ rfl (rn6 l l2)).mono ?_
  rintro e u5 ⟨rfl, G5, h5⟩
  have J5 := Lib.hid h5
  clear h5
  go_wp2_with fail
  refine (J5.out.arm_ HZ.out 2 i2_ok (rn7 [flL nF l, flL nT l2] 2 (by decide))).mono ?_
  rintro e w6 ⟨rfl, F6, h6⟩
  have H6 := Lib.hid h6
  clear h6
  go_wp2_with fail
  refine (H6.out.rename_ HZ.out nF nT _ _ rfl rfl (rn12 l l2)).mono ?_
  rintro e w7 ⟨rfl, F7, h7⟩
  have H7 := Lib.hid h7
  clear h7
  go_wp2_with fail
  refine (H7.out.sync_ HZ.out nT _ rfl (rn10 _)).mono ?_
  rintro e w8 ⟨rfl, F8, h8⟩
  have H8 := Lib.hid h8
  clear h8
  go_wp2_with fail
  refine (H8.out.on_ HZ.out none 0 0 [] (At.nil _ _ _) (fun ad h => by cases h) rfl (Nat.le_refl _) (by decide) (rn13 nT l)).mono ?_
  rintro e w9 ⟨rfl, F9, h9⟩
  have H9 := Lib.hid h9
  clear h9
  go_wp2_with fail
  refine (H9.out.files_ HZ.out (L := [(nT, l)]) rfl).mono ?_
  rintro e w10 ⟨A10, c10, rfl, f10, h10, k10⟩
  have F10 := Lib.hid f10
  have H10 := Lib.hid h10
  have LF := Lib.hid (fileOf_any _ _ _ nF _ rfl w10 f10 (by simp))
  rw [(look3 l)] at LF
  clear f10 h10 k10
  go_wp2_with fail
  refine LF.out.mono ?_
  rintro e w11 ⟨k11, rfl⟩
  have LT := Lib.hid (fileOf_any _ _ _ nT _ rfl w11 (F10.out.keep k11) (by simp))
  rw [(look4 l)] at LT
  have K11 := Lib.hid k11
  clear k11
  go_wp2_with fail
  refine LT.out.mono ?_
  rintro e w12 ⟨k12, Axk12, cxk12, rfl, oxk12⟩
  have Ok12 := Lib.hid oxk12
  clear oxk12
  have K12 := Lib.hid (keeps_trans H10.out.kp (keeps_trans K11.out k12))
  have S1 := Lib.hid (same6_any Axk12 l.length cxk12 l A n c l w12 Ok12.out.at_ rfl (HB.out.keep K12.out) HN.out (by have := HN.out; omega))
  rw [decide_eq_true rfl] at S1
  clear k12
  go_wp2_with fail
  refine S1.out.mono ?_
  rintro e w13 ⟨rfl, k13⟩
  have K13 := Lib.hid (keeps_trans K12.out k13)
  clear k13
  go_wp2_with fail
  refine (WK.out _ K13.out).mono ?_
  rintro e w20 ⟨rfl, k20⟩
  have K20 := Lib.hid (keeps_trans K13.out k20)
  clear k20
  go_wp2_with fail
  go_ret
  exact ⟨rfl, K20.out⟩

set_option maxHeartbeats 16000000 in
theorem ren_1_1 (K : DiskOk) (A : Option Addr) (n c : Nat) (l : List UInt8) (A2 : Option Addr) (n2 c2 : Nat) (l2 : List UInt8) (w : World) (hZ : K.Z w) (hB : Bs w A l) (hn : n = l.length) (hB2 : Bs w A2 l2) (hn2 : n2 = l2.length)
    (b1 : (n : Int) ≤ 4096) (b2 : (n2 : Int) ≤ 4096) :
    Calls Try.prog 8 #[.slice A n c, .slice A2 n2 c2, .bool true, .bool true] w (Yes w) := by
  have WK := Lib.hid (fun (W : World) (q : Keeps w W) => works6 K W (K.keep hZ q))
  have HB := Lib.hid hB
  have HB2 := Lib.hid hB2
  have HN := Lib.hid hn
  have HN2 := Lib.hid hn2
  have HZ := Lib.hid hZ
  have NW := Lib.hid (new_ K w hZ)
  clear hB hB2 hn hn2 hZ
  go_enter Try.func8, Try.ntmps8
  go_wp2_with fail
  refine NW.out.mono ?_
  rintro e w1 ⟨b, F, rfl, h1⟩
  have H1 := Lib.hid h1
  clear h1
  go_wp2_with fail
  refine (H1.out.create_ HZ.out nF _ rfl rn1).mono ?_
  rintro e w2 ⟨rfl, F2, h2⟩
  have T2 := Lib.hid (twin6_any A n c l w2 (HB.out.keep h2.kp) HN.out (by omega))
  have H2 := Lib.hid h2
  clear h2
  go_wp2_with fail
  refine T2.out.mono ?_
  rintro e w3 ⟨v3, rfl, o3, k3⟩
  obtain ⟨A3, c3, rfl, -⟩ := o3.form
  go_wp2_with fail
  refine (H2.out.write_ HZ.out nF 0 i0_ok _ rfl o3 rfl k3 (by have := HN.out; omega) (rn2 l (by have := HN.out; omega))).mono ?_
  rintro e w4 ⟨rfl, F4, h4⟩
  have H4 := Lib.hid h4
  clear h4 o3 k3
  go_wp2_with fail
  refine (H4.out.sync_ HZ.out nF _ rfl (rn3 l)).mono ?_
  rintro e w5 ⟨rfl, F5, h5⟩
  have H5 := Lib.hid h5
  clear h5
  go_wp2_with fail
  refine (H5.out.create_ HZ.out nT _ rfl (rn4 l)).mono ?_
  rintro e u2 ⟨rfl, G2, h2⟩
  have U2 := Lib.hid (twin6_any A2 n2 c2 l2 u2 (HB2.out.keep h2.kp) HN2.out (by omega))
  have J2 := Lib.hid h2
  clear h2
  go_wp2_with fail
  refine U2.out.mono ?_
  rintro e u3 ⟨v4, rfl, o4, k4⟩
  obtain ⟨A4, c4, rfl, -⟩ := o4.form
  go_wp2_with fail
  refine (J2.out.write_ HZ.out nT 0 i0_ok _ rfl o4 rfl k4 (by have := HN2.out; omega) (rn5 l l2 (by have := HN.out; omega) (by have := HN2.out; omega))).mono ?_
  rintro e u4 ⟨rfl, G4, h4⟩
  have J4 := Lib.hid h4
  clear h4 o4 k4
  go_wp2_with fail
  refine (J4.out.sync_ HZ.out nT _ rfl (rn6 l l2)).mono ?_
  rintro e u5 ⟨rfl, G5, h5⟩
  have J5 := Lib.hid h5
  clear h5
  go_wp2_with fail
  refine (J5.out.arm_ HZ.out 1 i1_ok (rn7 [flL nF l, flL nT l2] 1 (by decide))).mono ?_
  rintro e w6 ⟨rfl, F6, h6⟩
  have H6 := Lib.hid h6
  clear h6
  go_wp2_with fail
  refine (H6.out.rename_ HZ.out nF nT _ _ rfl rfl (rn8 _)).mono ?_
  rintro e w7 ⟨rfl, F7, h7⟩
  have H7 := Lib.hid h7
  clear h7
  go_wp2_with fail
  refine (H7.out.sync_ HZ.out nT _ rfl (rn9 _)).mono ?_
  rintro e w8 ⟨rfl, F8, h8⟩
  have H8 := Lib.hid h8
  clear h8
  go_wp2_with fail
  refine (H8.out.on_ HZ.out none 0 0 [] (At.nil _ _ _) (fun ad h => by cases h) rfl (Nat.le_refl _) (by decide) (rn14 nF l nT l2)).mono ?_
  rintro e w9 ⟨rfl, F9, h9⟩
  have H9 := Lib.hid h9
  clear h9
  go_wp2_with fail
  refine (H9.out.files_ HZ.out (L := [(nF, l), (nT, l2)]) rfl).mono ?_
  rintro e w10 ⟨A10, c10, rfl, f10, h10, k10⟩
  have F10 := Lib.hid f10
  have H10 := Lib.hid h10
  have LF := Lib.hid (fileOf_any _ _ _ nF _ rfl w10 f10 (by simp))
  rw [(look5 l l2)] at LF
  clear f10 h10 k10
  go_wp2_with fail
  refine LF.out.mono ?_
  rintro e w11 ⟨k11, Axk11, cxk11, rfl, oxk11⟩
  have Ok11 := Lib.hid oxk11
  clear oxk11
  have LT := Lib.hid (fileOf_any _ _ _ nT _ rfl w11 (F10.out.keep k11) (by simp))
  rw [(look6 l l2)] at LT
  have K11 := Lib.hid k11
  clear k11
  go_wp2_with fail
  refine LT.out.mono ?_
  rintro e w12 ⟨k12, Axk12, cxk12, rfl, oxk12⟩
  have Ok12 := Lib.hid oxk12
  clear oxk12
  have K12 := Lib.hid (keeps_trans H10.out.kp (keeps_trans K11.out k12))
  have S1 := Lib.hid (same6_any Axk11 l.length cxk11 l A n c l w12 (Ok11.out.keep k12).at_ rfl (HB.out.keep K12.out) HN.out (by have := HN.out; omega))
  rw [decide_eq_true rfl] at S1
  clear k12
  go_wp2_with fail
  refine S1.out.mono ?_
  rintro e w13 ⟨rfl, k13⟩
  have K13 := Lib.hid (keeps_trans K12.out k13)
  have S2 := Lib.hid (same6_any Axk12 l2.length cxk12 l2 A2 n2 c2 l2 w13 (Ok12.out.keep k13).at_ rfl (HB2.out.keep K13.out) HN2.out (by have := HN2.out; omega))
  rw [decide_eq_true rfl] at S2
  clear k13
  go_wp2_with fail
  refine S2.out.mono ?_
  rintro e w14 ⟨rfl, k14⟩
  have K14 := Lib.hid (keeps_trans K13.out k14)
  clear k14
  go_wp2_with fail
  refine (WK.out _ K14.out).mono ?_
  rintro e w20 ⟨rfl, k20⟩
  have K20 := Lib.hid (keeps_trans K14.out k20)
  clear k20
  go_wp2_with fail
  go_ret
  exact ⟨rfl, K20.out⟩

set_option maxHeartbeats 4000000 in
theorem renames6_walk (K : DiskOk) (A : Option Addr) (n c : Nat) (l : List UInt8) (A2 : Option Addr) (n2 c2 : Nat) (l2 : List UInt8) (th ah : Bool) (w : World) (hZ : K.Z w) (hB : Bs w A l) (hn : n = l.length) (hB2 : Bs w A2 l2) (hn2 : n2 = l2.length)
    (hm : n ≤ 9223372036854775807) (hm2 : n2 ≤ 9223372036854775807) :
    Calls Try.prog 8 #[.slice A n c, .slice A2 n2 c2, .bool th, .bool ah] w (Yes w) := by
  by_cases big : 4096 < n ∨ 4096 < n2
  · have WK := Lib.hid (works6 K w hZ)
    have ways : (4096 : Int) < (n : Int) ∨ (¬ (4096 : Int) < (n : Int) ∧ (4096 : Int) < (n2 : Int)) := by omega
    clear hB hB2 hn hn2 hZ big
    go_enter Try.func8, Try.ntmps8
    rcases ways with w1 | ⟨w1, w2⟩
    all_goals
      go_wp2_with fail
      refine WK.out.mono ?_
      rintro e w1 ⟨rfl, k1⟩
      go_wp2_with fail
      go_ret
      exact ⟨rfl, k1⟩
  · cases th <;> cases ah
    · exact ren_0_0 K A n c l A2 n2 c2 l2 w hZ hB hn hB2 hn2 (by omega) (by omega)
    · exact ren_0_1 K A n c l A2 n2 c2 l2 w hZ hB hn hB2 hn2 (by omega) (by omega)
    · exact ren_1_0 K A n c l A2 n2 c2 l2 w hZ hB hn hB2 hn2 (by omega) (by omega)
    · exact ren_1_1 K A n c l A2 n2 c2 l2 w hZ hB hn hB2 hn2 (by omega) (by omega)
end Go.Proofs.Ytpbkkbkpodcgnaa
