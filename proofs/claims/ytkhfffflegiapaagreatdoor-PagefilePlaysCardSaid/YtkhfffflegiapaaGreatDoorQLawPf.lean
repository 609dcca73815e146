/- The anchor of layer 8's statements; a file of pages that is laid. -/
import Derived.Test.YtkhfffflegiapaaGreatDoorQPfBad
import Derived.Test.YtkhfffflegiapaaGreatDoorQPageMath
import Derived.Test.YtkhfffflegiapaaGreatDoorQRefA
import Derived.Test.YtkhfffflegiapaaGreatDoorQPfVast
import Derived.Test.YtkhfffflegiapaaGreatDoorQPfDo3
import Derived.Test.YtkhfffflegiapaaGreatDoorQRefDo8
import Derived.Test.YtkhfffflegiapaaGreatDoorQLawDisk6
namespace Go.Proofs.YtkhfffflegiapaaGreatDoor
open Go.RowKit
set_option linter.unusedSimpArgs false
set_option linter.unusedVariables false
set_option maxRecDepth 100000

/-- what a law leaves -/
def Yes8 (w : World) (e : Ending) (w' : World) : Prop := e = .returned (.bool true) ∧ Keeps w w'
/-! ### The anchor: a disk of 100 sectors -/
def fl0 : Fl := ⟨[97], [], [], fun _ => false⟩
def wb : List UInt8 := [1, 2]
def fl1 : Fl := writeF fl0 0 (pageB tA 0 wb)
def Dh (f : Fl) : Ds := ⟨[f], 100, 0, false⟩
theorem fl1_now : fl1.now = pageB tA 0 wb := by simp [fl1, writeF, fl0, layB]
theorem goneh (f : Fl) : goneS (Dh f) = Dh f := by simp [goneS, Dh]
theorem wk8_a : createS ⟨[], 100, 0, false⟩ [97] = (Dh fl0, 0) := by simp [createS, goneS, ok_a, getF, putF, Dh, fl0]
theorem sizeh {f : Fl} (hn : f.name = [97]) : sizeS (Dh f) [97] = (f.now.length, 0) := by simp [sizeS, Dh, ok_a, get1 hn]
theorem wk8_l : (pageB tA 0 wb).length = 256 := pageB_length tA 0 (by decide)
theorem wk8_b : writeP (Dh fl0) [97] ((0 : Nat) : Int) wb = (Dh fl1, 0) := by
  have hl := wk8_l
  unfold writeP
  rw [if_neg (by decide), if_neg (by decide), sizeh rfl, if_neg (by simp), if_neg (by simp)]
  unfold writeS
  rw [goneh]
  have h4 : ¬ (sect fl0.now.length < sect (max fl0.now.length (0 + 256)) ∧ 100 < usedL [fl0] + (sect (max fl0.now.length (0 + 256)) - sect fl0.now.length)) := by decide
  have e3 : setF [fl0] fl1 = [fl1] := set1 rfl
  have e4 : writeF fl0 0 (pageB (tagN [97]) 0 wb) = fl1 := rfl
  have e5 : ((0 : Nat) : Int).toNat = 0 := rfl
  simp only [Dh, ok_a, get1 (show fl0.name = [97] from rfl), e5]
  rw [show ((0 : Nat) : Int) * 256 = 0 from rfl, show (0 : Int).toNat = 0 from rfl, e4, e3, show tagN [97] = tA from rfl, hl]
  rw [if_neg (by decide), if_neg (by decide), if_neg (by decide), if_neg (by decide), if_neg h4]
theorem wk8_c : readP (Dh fl1) [97] ((0 : Nat) : Int) = (wb, 0) := by
  have hl := wk8_l
  have hs := sizeh (f := fl1) rfl
  obtain ⟨g, hg, -, hr⟩ := size_ok (s := Dh fl1) (nm := [97]) (by rw [hs])
  obtain rfl : fl1 = g := by
    have h1 : getF [fl1] [97] = some g := hg
    rw [get1 rfl] at h1
    exact Option.some.inj h1
  unfold readP
  have e1 : (fl1.now.drop (((0 : Nat) : Int) * 256).toNat).take (256 : Int).toNat = pageB tA 0 wb := by
    rw [fl1_now]
    show (List.drop 0 _).take 256 = _
    rw [List.drop_zero, List.take_of_length_le (by omega)]
  rw [hr _ _ (by decide) (by decide), e1, hs, if_neg (by decide), if_neg (by simp), fl1_now, hl, if_neg (by decide)]
  rw [show tagN [97] = tA from rfl, show ((0 : Nat) : Int).toNat = 0 from rfl, if_pos (isPage_pageB _ _ _ (by decide)), saidB_pageB _ _ _ (by decide)]
theorem wk8_d : sizeS (Dh fl1) [97] = (256, 0) := by rw [sizeh rfl, fl1_now, wk8_l]
theorem strA8 : str [97] = ⟨#[97]⟩ := rfl
set_option maxHeartbeats 8000000 in
theorem works8 (K : DiskOk) (PK : PageOk) (w : World) (hZ : K.Z w) (hS : Sizes w) : Calls Tryz.prog 34 #[] w (Yes8 w) := by
  have N := Lib.hid (K.new 100 w hZ (by decide) (by decide))
  have HZ := Lib.hid hZ
  have HS := Lib.hid hS
  clear hZ hS
  go_enter Tryz.func34, Tryz.ntmps34
  go_wp2_with fail
  refine N.out.mono ?_
  rintro e w1 (⟨-, -, b, F, rfl, hD, hF, k1⟩ | ⟨h, -⟩)
  rotate_left
  · exfalso; omega
  have V1 := Lib.hid (show Have K w w1 b F ⟨[], 100, 0, false⟩ from ⟨hD, hF, k1⟩)
  have C1 := Lib.hid (pfCreate_any V1.out HZ.out [97] (by decide) wk8_a)
  rw [strA8] at C1
  clear hD hF k1
  unfold dpt
  go_wp2_with fail
  refine C1.out.mono ?_
  rintro e w2 ⟨F2, h2, -, ⟨-, f, rfl, hf, -, hnf⟩ | ⟨hbad, -⟩⟩
  rotate_left
  · exact absurd rfl hbad
  have kb := keeps_alloc w2 (.cells #[.int .u8 1, .int .u8 2] 5)
  have B2 : Bs (w2.alloc (.cells #[.int .u8 1, .int .u8 2] 5)) (some ⟨w2.heap.size, 0, none⟩) wb := At.new w2 (cel wb) 5 _ (by simp)
  have C2 := Lib.hid (pfWrite_any PK (h2.keep kb) HZ.out HS.out (hf.keep kb) (by decide) ((0 : Nat) : Int) ⟨by decide, by decide⟩ (some ⟨w2.heap.size, 0, none⟩) 2 2 wb B2 rfl (by decide) (by decide) wk8_b)
  have HF2 := Lib.hid (hf.keep kb)
  have HN2 := Lib.hid hnf
  clear h2 hf kb B2 hnf
  go_wp2_with fail
  refine C2.out.mono ?_
  rintro e w3 ⟨rfl, F3, h3, t3⟩
  obtain ⟨hf3, -⟩ := HF2.out.turn t3 HN2.out
  have C3 := Lib.hid (pfRead_any PK h3 HZ.out HS.out hf3 (by decide) ((0 : Nat) : Int) ⟨by decide, by decide⟩ wk8_c)
  have H3 := Lib.hid h3
  have HF3 := Lib.hid hf3
  clear h3 t3 hf3
  go_wp2_with fail
  refine C3.out.mono ?_
  rintro e w4 ⟨A4, c4, rfl, hc4, o4, k4⟩
  have H4 := Lib.hid (H3.out.keep k4)
  have HF4 := Lib.hid (HF3.out.keep k4)
  have C4 := Lib.hid (pfPages_any H4.out HZ.out HF4.out (by decide) wk8_d (by decide))
  have O4 := Lib.hid o4
  clear o4 k4
  go_wp2_with fail
  refine C4.out.mono ?_
  rintro e w5 ⟨rfl, k5⟩
  obtain ⟨g, rfl, hcell, -⟩ := (O4.out.keep k5).cell (j := 1) (by decide)
  have hcell' : w5.cell? ⟨g, 1, none⟩ = some (.int .u8 2) := hcell
  have C5 := Lib.hid (pfName_any (HF4.out.keep k5))
  rw [strA8] at C5
  have K5 := Lib.hid (keeps_trans H4.out.kp k5)
  have hlw : wb.length = 2 := rfl
  rw [hlw] at *
  clear hcell k5 hc4
  go_wp2_with fail
  refine C5.out.mono ?_
  rintro e w6 ⟨rfl, k6⟩
  go_wp2_with fail
  go_ret
  exact ⟨rfl, keeps_trans K5.out k6⟩
end Go.Proofs.YtkhfffflegiapaaGreatDoor
/- PagefilePlays. (Written by mkplays8w.py.) -/
namespace Go.Proofs.YtkhfffflegiapaaGreatDoor
open Go.RowKit
set_option linter.unusedSimpArgs false
set_option linter.unusedVariables false
set_option maxRecDepth 100000

theorem rawS_len (s : Ds) (o : Opx) : (rawS s o).1.l.length ≤ s.l.length + 1 := by
  unfold rawS
  split
  · exact remove_len _ _
  split
  · exact write_len _ _ _ _
  split
  · exact cut_len _ _ _
  split
  · exact quota_len _ _
  split
  · exact arm_len _ _
  split
  · exact on_len _ _
  split
  · exact flip_len _ _ _ _
  · exact Nat.le_succ _
theorem writeP_len (s : Ds) (nm : List UInt8) (k : Int) (b : List UInt8) : (writeP s nm k b).1.l.length ≤ s.l.length + 1 := by
  unfold writeP
  split
  · exact Nat.le_succ _
  split
  · exact Nat.le_succ _
  split
  · exact Nat.le_succ _
  split
  · exact Nat.le_succ _
  · exact write_len _ _ _ _
theorem doS8_len (s : Ds) (g : Option (List UInt8)) (o : Op8) : (doS8 s g o).1.l.length ≤ s.l.length + 1 := by
  unfold doS8
  split
  · exact create_len _ _
  split
  · exact Nat.le_succ _
  split
  · exact Nat.le_succ _
  split
  · cases g with
    | none => exact Nat.le_succ _
    | some nm => exact writeP_len _ _ _ _
  split
  · cases g with
    | none => exact Nat.le_succ _
    | some nm => exact sync_len _ _
  split
  · exact Nat.le_succ _
  split
  · exact Nat.le_succ _
  split
  · exact rawS_len _ _
  · exact Nat.le_succ _
theorem readP_len8 {s : Ds} (h : DsOk s) (nm : List UInt8) (k : Int) : (readP s nm k).1.length ≤ 16777216 := by
  have h1 := readS_len h nm (k * 256) 256
  have h2 : (saidB (readS s nm (k * 256) 256).1).length ≤ (readS s nm (k * 256) 256).1.length := by
    unfold saidB
    simp only [List.length_take, List.length_drop]
    omega
  unfold readP
  split
  · simp
  split
  · simp
  split
  · simp
  split
  · simp only; omega
  · simp
theorem doS8_b {s : Ds} (h : DsOk s) (g : Option (List UInt8)) (o : Op8) (hb : o.b.length ≤ 65536) : (doS8 s g o).2.2.b.length ≤ 9223372036854775000 := by
  unfold doS8
  split
  · simp
  split
  · simp
  split
  · cases g with
    | none => simp
    | some nm => have := readP_len8 h nm o.k; simp only; omega
  split
  · simp only; omega
  split
  · simp
  split
  · cases g <;> simp
  split
  · simp
  split
  · simp
  · simp
theorem doS8_l {s : Ds} (h : DsOk s) (g : Option (List UInt8)) (o : Op8) : (doS8 s g o).2.2.l.length ≤ 9223372036854775000 := by
  have hb : (badP s o.name).1.length ≤ 65536 := by
    unfold badP
    split
    · simp
    · have h1 := rotten_len s o.name ((sizeS s o.name).1 / 256)
      have h2 := size_le h o.name
      simp only
      omega
  unfold doS8
  split
  · simp
  split
  · simp
  split
  · cases g <;> simp
  split
  · simp
  split
  · simp
  split
  · cases g <;> simp
  split
  · simp only [List.length_map]; omega
  split
  · simp
  · simp
theorem HeldAt.far {w w' : World} {b : Nat} {F F2 F2' : Nat → Prop} {g : Option (List UInt8)} {fv : Value} (h : HeldAt w b F g fv) (t : Turns w w' F2 F2') (hf : ∀ a, fv = .pointer (some a) → ¬ F2 a.block) : HeldAt w' b F g fv := by
  cases g with
  | none => exact h
  | some nm =>
    obtain ⟨f, e, h1, h2, h3⟩ := h
    exact ⟨f, e, Box.turned h1 t (hf _ e), h2, h3⟩
theorem HeldAt.lt {w : World} {b : Nat} {F : Nat → Prop} {g : Option (List UInt8)} {fv : Value} (h : HeldAt w b F g fv) {a : Addr} (e : fv = .pointer (some a)) : a.block < w.heap.size := by
  cases g with
  | none => have h0 : fv = .pointer none := h; rw [h0] at e; cases e
  | some nm =>
    obtain ⟨f, e2, h1, h2, h3⟩ := h
    rw [e2] at e
    injection e with e
    obtain rfl := Option.some.inj e
    exact Box.lt h1
namespace Ref
theorem HeldAt.far {w w' : World} {b : Nat} {F F2 F2' : Nat → Prop} {g : Option (List UInt8)} {fv : Value} (h : HeldAt w b F g fv) (t : Turns w w' F2 F2') (hf : ∀ a, fv = .pointer (some a) → ¬ F2 a.block) : HeldAt w' b F g fv := by
  cases g with
  | none => exact h
  | some nm =>
    obtain ⟨f, e, h1, h2, h3⟩ := h
    exact ⟨f, e, Box.turned h1 t (hf _ e), h2, h3⟩
theorem HeldAt.lt {w : World} {b : Nat} {F : Nat → Prop} {g : Option (List UInt8)} {fv : Value} (h : HeldAt w b F g fv) {a : Addr} (e : fv = .pointer (some a)) : a.block < w.heap.size := by
  cases g with
  | none => have h0 : fv = .pointer none := h; rw [h0] at e; cases e
  | some nm =>
    obtain ⟨f, e2, h1, h2, h3⟩ := h
    rw [e2] at e
    injection e with e
    obtain rfl := Option.some.inj e
    exact Box.lt h1
end Ref
set_option maxHeartbeats 32000000 in
theorem plays8_walk (K : DiskOk) (PK : PageOk) (R : Ref.DiskOk) (q : Int) (hq : IsI q) (A : Option Addr) (n c : Nat) (l : List Op8) (w : World) (hZ : K.Z w) (hY : R.Z w) (hS : Sizes w) (h : Ops8At w A l) (hn : n = l.length) (hm : n ≤ 9223372036854775807) :
    Calls Tryz.prog 8 #[.int .i64 q, .slice A n c] w (Yes8 w) := by
  have WK := Lib.hid (fun (W : World) (q : Keeps w W) => works8 K PK W (K.keep hZ q) (hS.keep q))
  have VA := Lib.hid (vast8_any A n c l w h hn hm)
  have H := Lib.hid h
  have HN := Lib.hid hn
  have HZ := Lib.hid hZ
  have HY := Lib.hid hY
  have HQ := Lib.hid hq
  have HS := Lib.hid hS
  clear h hn hZ hY hq hS
  go_enter Tryz.func8, Tryz.ntmps8
  go_wp2_with fail
  refine VA.out.mono ?_
  rintro e w1 ⟨vv, rfl, k1, hv⟩
  have K1 := Lib.hid k1
  clear k1
  rcases vv with _ | _
  · have FW := Lib.hid (hv rfl)
    have NW := Lib.hid (K.new q w1 (K.keep HZ.out K1.out) HQ.out.1 HQ.out.2)
    have NR := Lib.hid (fun (V : World) (k : Keeps w1 V) => R.new q V (R.keep HY.out (keeps_trans K1.out k)) HQ.out.1 HQ.out.2)
    have hbi : (n : Int) ≤ 100 := by have := FW.out.most; have := HN.out; omega
    clear hv
    go_wp2_with fail
    refine NW.out.mono ?_
    rintro e w2 (⟨hq0, hq1, b, F, rfl, hD, hF, k2⟩ | ⟨hbad, rfl, k2⟩)
    · have HK := Lib.hid (show Have K w w2 b F ⟨[], q.toNat, 0, false⟩ from ⟨hD, fun i hi => Nat.le_trans K1.out.size (hF i hi), keeps_trans K1.out k2⟩)
      have Q2 := Lib.hid k2
      clear hD hF k2
      unfold dpt
      go_wp2_with fail
      refine (NR.out _ Q2.out).mono ?_
      rintro e w3 (⟨-, -, b2, F2, rfl, hD2, hF2, k3⟩ | ⟨hbad, -, -⟩)
      · have HK3 := Lib.hid (HK.out.keep k3)
        have HR3 := Lib.hid (show Ref.Have R w w3 b2 F2 ⟨[], q.toNat, 0, false⟩ from ⟨hD2, fun i hi => Nat.le_trans HK.out.kp.size (hF2 i hi), HK3.out.kp⟩)
        have DJ3 := Lib.hid (show ∀ i, F i → ¬ F2 i from fun i hi h2 => by have h3 := K.lt HK.out.D i hi; have h4 := hF2 i h2; omega)
        clear hD2 hF2 k3
        unfold dpt
        go_wp2_with fail
        go_loopw [11, 9, 10] (fun i v u wr => ∃ (j : Nat) (s : Ds) (F F2 : Nat → Prop) (gl : Option (List UInt8)) (fv fu : Value), j ≤ n ∧ i = .int .i64 j ∧ fv = v ∧ fu = u ∧ Hid (s.l.length ≤ j) ∧ Hid (Have K w wr b F s) ∧ Hid (Ref.Have R w wr b2 F2 s) ∧ Hid (HeldAt wr b F gl fv) ∧ Hid (Ref.HeldAt wr b2 F2 gl fu) ∧ Hid (∀ i, F i → ¬ F2 i) ∧ Hid (∀ a, fv = .pointer (some a) → a.block < wr.heap.size ∧ ¬ F2 a.block) ∧ Hid (∀ a, fu = .pointer (some a) → a.block < wr.heap.size ∧ ¬ F a.block)) (fun i _ _ _ => n - (intOf i).toNat)
        case atStart => exact ⟨0, _, F, F2, none, .pointer none, .pointer none, Nat.zero_le _, rfl, rfl, rfl, Lib.hid (Nat.le_refl _), HK3, HR3, Lib.hid rfl, Lib.hid rfl, DJ3, Lib.hid (fun a e => by cases e), Lib.hid (fun a e => by cases e)⟩
        case round =>
          obtain ⟨j, s, F, F2, gl, fv, fu, hj, rfl, rfl, rfl, hsl, HH, RR, HG, RG, DJ, HV, HU⟩ := hrel
          by_cases hlt : j < n
          · have hjn : (j : Int) < (n : Int) := by omega
            obtain ⟨o, ho⟩ : ∃ o, l[j]? = some o := ⟨_, List.getElem?_eq_getElem (by have := HN.out; omega)⟩
            have HO := Lib.hid ho
            clear ho
            have OA := H.out.keep HH.out.kp
            obtain ⟨ad, rfl, q0⟩ := OA.cell0 HO.out
            have c0 : (wr).cell? (ad.add (j * 12)) = some (.int .i64 o.kind) := by have := q0 0 (by decide); simpa [op8C, Addr.add] using this
            have c1 := q0 1 (by decide)
            have c2 := q0 2 (by decide)
            have c3 := q0 3 (by decide)
            have c4 := q0 4 (by decide)
            have c5 := q0 5 (by decide)
            have c6 := q0 6 (by decide)
            have c7 := q0 7 (by decide)
            have c8 := q0 8 (by decide)
            have c9 := q0 9 (by decide)
            have c10 := q0 10 (by decide)
            have c11 := q0 11 (by decide)
            rw [add_pos6 _ _ (by decide)] at c1 c2 c3 c4 c5 c6 c7 c8 c9 c10 c11
            simp only [op8C, opC, List.cons_append, List.nil_append, List.getElem?_cons_zero, List.getElem?_cons_succ] at c1 c2 c3 c4 c5 c6 c7 c8 c9 c10 c11
            have fe := FW.out.each o (List.mem_of_getElem? HO.out)
            have fd := FW.out.disk.each o.d (List.mem_map.2 ⟨o, List.mem_of_getElem? HO.out, rfl⟩)
            have OO := Lib.hid (H.out.ok o (List.mem_of_getElem? HO.out))
            have FE := Lib.hid fe
            have FD := Lib.hid fd
            obtain ⟨s5, r5, hdo⟩ : ∃ s5 r5, doS8 s gl o = (s5, r5) := ⟨_, _, rfl⟩
            obtain ⟨gn, tt⟩ := r5
            have DO := Lib.hid (show Calls Tryz.prog 36 _ _ (DoneV8 K w wr b F s gl o fv) from does8_any PK HZ.out HS.out HH.out o OO.out HG.out (by omega) (by omega) (by omega))
            unfold DoneV8 at DO
            rw [hdo] at DO
            have SL5 := Lib.hid (show s5.l.length ≤ j + 1 by have h1 := doS8_len s gl o; rw [hdo] at h1; simp only at h1; have := hsl.out; omega)
            have TB := Lib.hid (show tt.b.length ≤ 9223372036854775000 by have h1 := doS8_b (K.ok HH.out.D) gl o (by have := OO.out.len; omega); rw [hdo] at h1; exact h1)
            have TL := Lib.hid (show tt.l.length ≤ 9223372036854775000 by have h1 := doS8_l (K.ok HH.out.D) gl o; rw [hdo] at h1; exact h1)
            have HDO := Lib.hid hdo
            unfold op8C opC at DO
            clear q0 OA fe fd hdo
            go_wp2_with fail
            refine DO.out.mono ?_
            rintro e w5 ⟨v5, fv5, F5, he, a5, h5, t5, g5, n5⟩
            try dsimp only at he a5 h5 g5
            subst he
            obtain ⟨vb5, vl5, rfl, ob5, ol5⟩ := a5
            obtain ⟨A5, d5, rfl, -⟩ := ob5.form
            obtain ⟨B5, e5, rfl, -⟩ := ol5.form
            obtain ⟨n5', hn5⟩ : ∃ n5', tt.b.length = n5' := ⟨_, rfl⟩
            obtain ⟨m5', hm5⟩ : ∃ m5', tt.l.length = m5' := ⟨_, rfl⟩
            have H5 := Lib.hid h5
            have R5 := Lib.hid (show Ref.Have R w w5 b2 F2 s from ⟨R.same RR.out.D (fun i hi => t5.only.block i (R.lt RR.out.D i hi) (fun e => DJ.out i e hi)) t5.only.size, RR.out.low, h5.kp⟩)
            have DJ5 := Lib.hid (show ∀ i, F5 i → ¬ F2 i from fun i hi h2 => t5.notIn (R.lt RR.out.D i h2) (fun e => DJ.out i e h2) hi)
            have V5 := Lib.hid (show ∀ a, fv5 = .pointer (some a) → a.block < w5.heap.size ∧ ¬ F2 a.block from fun a e => by
              refine ⟨g5.lt e, ?_⟩
              rcases n5 with n5 | n5
              · exact (HV.out a (n5 ▸ e)).2
              · intro h2; have h3 := n5 a e; have h4 := R.lt RR.out.D _ h2; omega)
            have U5 := Lib.hid (show ∀ a, fu = .pointer (some a) → a.block < w5.heap.size ∧ ¬ F5 a.block from fun a e => ⟨Nat.lt_of_lt_of_le (HU.out a e).1 t5.only.size, t5.notIn (HU.out a e).1 (HU.out a e).2⟩)
            have RG5 := Lib.hid (RG.out.far t5 (fun a e => (HU.out a e).2))
            have G5 := Lib.hid g5
            have kA := keeps_alloc w5 (.cells #[.slice A5 n5' d5, .slice B5 m5' e5, .int .i64 tt.n, .string (str tt.s), .int .i64 (tt.e : Int)] 79)
            rw [hn5] at ob5
            rw [hm5] at ol5
            rw [hn5, hm5]
            have HT := Lib.hid (show ToldAt w5 wr.heap.size tt (.agg #[.slice A5 n5' d5, .slice B5 m5' e5, .int .i64 tt.n, .string (str tt.s), .int .i64 (tt.e : Int)]) from ⟨_, _, rfl, by rw [hn5]; exact ob5, by rw [hm5]; exact ol5⟩)
            have HTK := Lib.hid (fun (i : Nat) (hi : F2 i) => R.lt RR.out.D i hi)
            have BT := Lib.hid (Box.new w5 79 #[.slice A5 n5' d5, .slice B5 m5' e5, .int .i64 tt.n, .string (str tt.s), .int .i64 (tt.e : Int)])
            have HN5 := Lib.hid hn5
            have HM5 := Lib.hid hm5
            have R5A := Lib.hid (R5.out.keep kA)
            have H5A := Lib.hid (H5.out.keep kA)
            have G5A := Lib.hid (G5.out.keep kA)
            have RG5A := Lib.hid (RG5.out.keep kA)
            have HTA := Lib.hid (HT.out.keep kA)
            have KS := Lib.hid kA.size
            clear h5 t5 g5 n5 ob5 ol5 c0 c1 c2 c3 c4 c5 c6 c7 c8 c9 c10 c11 DO kA hn5 hm5
            have OA := H.out.keep H5A.out.kp
            obtain ⟨ad', e', q0⟩ := OA.cell0 HO.out
            obtain rfl := Option.some.inj e'
            have c0 : (w5.alloc (.cells #[.slice A5 n5' d5, .slice B5 m5' e5, .int .i64 tt.n, .string (str tt.s), .int .i64 (tt.e : Int)] 79)).cell? (ad.add (j * 12)) = some (.int .i64 o.kind) := by have := q0 0 (by decide); simpa [op8C, Addr.add] using this
            have c1 := q0 1 (by decide)
            have c2 := q0 2 (by decide)
            have c3 := q0 3 (by decide)
            have c4 := q0 4 (by decide)
            have c5 := q0 5 (by decide)
            have c6 := q0 6 (by decide)
            have c7 := q0 7 (by decide)
            have c8 := q0 8 (by decide)
            have c9 := q0 9 (by decide)
            have c10 := q0 10 (by decide)
            have c11 := q0 11 (by decide)
            rw [add_pos6 _ _ (by decide)] at c1 c2 c3 c4 c5 c6 c7 c8 c9 c10 c11
            simp only [op8C, opC, List.cons_append, List.nil_append, List.getElem?_cons_zero, List.getElem?_cons_succ] at c1 c2 c3 c4 c5 c6 c7 c8 c9 c10 c11
            have MO := Lib.hid (show Calls Tryz.prog 37 _ _ (Ref.DoneV8 R w (w5.alloc (.cells #[.slice A5 n5' d5, .slice B5 m5' e5, .int .i64 tt.n, .string (str tt.s), .int .i64 (tt.e : Int)] 79)) b2 F2 s gl o fu) from Ref.does8_any HY.out (by have := hsl.out; omega) R5A.out o OO.out RG5A.out (by have := FE.out; omega) (by have := FD.out; omega) (by have := FD.out; omega))
            unfold Ref.DoneV8 at MO
            rw [HDO.out] at MO
            unfold op8C opC at MO
            clear q0 OA
            go_wp2_with fail
            refine MO.out.mono ?_
            rintro e w6 ⟨v6, fv6, F6, he, a6, h6, t6, rg6, n6⟩
            try dsimp only at he a6 h6 rg6
            subst he
            have HT6 := Lib.hid (HTA.out.turn HTK.out t6)
            obtain ⟨vb6, vl6, rfl, ob6, ol6⟩ := a6
            obtain ⟨A6, d6, rfl, -⟩ := ob6.form
            obtain ⟨B6, e6, rfl, -⟩ := ol6.form
            rw [HN5.out] at ob6
            rw [HM5.out] at ol6
            rw [HN5.out, HM5.out]
            have R6 := Lib.hid h6
            have H6 := Lib.hid (show Have K w w6 b F5 s5 from ⟨K.same H5A.out.D (fun i hi => t6.only.block i (K.lt H5A.out.D i hi) (fun e => DJ5.out i hi e)) t6.only.size, H5A.out.low, h6.kp⟩)
            have DJ6 := Lib.hid (show ∀ i, F5 i → ¬ F6 i from fun i hi => t6.notIn (K.lt H5A.out.D i hi) (DJ5.out i hi))
            have V6 := Lib.hid (show ∀ a, fv5 = .pointer (some a) → a.block < w6.heap.size ∧ ¬ F6 a.block from fun a e => by
              have h1 : a.block < (w5.alloc (.cells #[.slice A5 n5' d5, .slice B5 m5' e5, .int .i64 tt.n, .string (str tt.s), .int .i64 (tt.e : Int)] 79)).heap.size := Nat.lt_of_lt_of_le (V5.out a e).1 KS.out
              exact ⟨Nat.lt_of_lt_of_le h1 t6.only.size, t6.notIn h1 (V5.out a e).2⟩)
            have U6 := Lib.hid (show ∀ a, fv6 = .pointer (some a) → a.block < w6.heap.size ∧ ¬ F5 a.block from fun a e => by
              refine ⟨rg6.lt e, ?_⟩
              rcases n6 with n6 | n6
              · exact (U5.out a (n6 ▸ e)).2
              · intro h2; have h3 := n6 a e; have h4 := K.lt H5A.out.D _ h2; omega)
            have G6' := G5A.out.far t6 (fun a e => (V5.out a e).2)
            have BT6 := BT.out.turned t6 (fun e => by have := R.lt R5.out.D _ e; omega)
            have kB := keeps_alloc w6 (.cells #[.slice A6 n5' d6, .slice B6 m5' e6, .int .i64 tt.n, .string (str tt.s), .int .i64 (tt.e : Int)] 79)
            have t0 := (BT6.keep kB).cell 0 rfl
            have t1 := (BT6.keep kB).cell 1 rfl
            have t2 := (BT6.keep kB).cell 2 rfl
            have t3 := (BT6.keep kB).cell 3 rfl
            have t4 := (BT6.keep kB).cell 4 rfl
            have BU := Box.new w6 79 #[.slice A6 n5' d6, .slice B6 m5' e6, .int .i64 tt.n, .string (str tt.s), .int .i64 (tt.e : Int)]
            have u0 := BU.cell 0 rfl
            have u1 := BU.cell 1 rfl
            have u2 := BU.cell 2 rfl
            have u3 := BU.cell 3 rfl
            have u4 := BU.cell 4 rfl
            have SM := Lib.hid (sameTold_same tt (.agg #[.slice A5 n5' d5, .slice B5 m5' e5, .int .i64 tt.n, .string (str tt.s), .int .i64 (tt.e : Int)]) (.agg #[.slice A6 n5' d6, .slice B6 m5' e6, .int .i64 tt.n, .string (str tt.s), .int .i64 (tt.e : Int)]) (w6.alloc (.cells #[.slice A6 n5' d6, .slice B6 m5' e6, .int .i64 tt.n, .string (str tt.s), .int .i64 (tt.e : Int)] 79)) (HT6.out.keep kB) ((show ToldAt w6 (w5.alloc (.cells #[.slice A5 n5' d5, .slice B5 m5' e5, .int .i64 tt.n, .string (str tt.s), .int .i64 (tt.e : Int)] 79)).heap.size tt (.agg #[.slice A6 n5' d6, .slice B6 m5' e6, .int .i64 tt.n, .string (str tt.s), .int .i64 (tt.e : Int)]) from ⟨_, _, rfl, by rw [HN5.out]; exact ob6, by rw [HM5.out]; exact ol6⟩).keep kB) TB.out TL.out)
            have KB := Lib.hid kB
            clear t6 BT6 BU kB c0 c1 c2 c3 c4 c5 c6 c7 c8 c9 c10 c11 MO ob6 ol6 h6 n6
            have hg6 := G6'
            clear G6'
            rcases gn with _ | gn
            · obtain rfl : fv5 = .pointer none := hg6
              obtain rfl : fv6 = .pointer none := rg6
              have G6 := Lib.hid (show HeldAt w6 b F5 none (.pointer none) from rfl)
              have R6G := Lib.hid (show Ref.HeldAt w6 b2 F6 none (.pointer none) from rfl)
              go_wp2_with fail
              refine SM.out.mono ?_
              rintro e w7 ⟨rfl, k7⟩
              have K7 := Lib.hid (keeps_trans KB.out k7)
              have H7 := Lib.hid (H6.out.keep K7.out)
              have R7 := Lib.hid (R6.out.keep K7.out)
              have G7 := Lib.hid (G6.out.keep K7.out)
              have RG7 := Lib.hid (R6G.out.keep K7.out)
              have V7 := Lib.hid (fun a e => And.intro (Nat.lt_of_lt_of_le (V6.out a e).1 K7.out.size) (V6.out a e).2)
              have U7 := Lib.hid (fun a e => And.intro (Nat.lt_of_lt_of_le (U6.out a e).1 K7.out.size) (U6.out a e).2)
              clear k7
              go_wp2_with fail
              first
                | exact ⟨⟨j + 1, s5, F5, F6, _, _, _, by omega, by go_num, rfl, rfl, SL5, H7, R7, G7, RG7, DJ6, V7, U7⟩, by simp [intOf]; omega⟩
                | (refine ⟨?_, by simp [intOf]; omega⟩
                   (repeat apply Exists.intro)
                   refine ⟨?_, rfl⟩
                   exact ⟨j + 1, s5, F5, F6, _, _, _, by omega, by go_num, rfl, rfl, SL5, H7, R7, G7, RG7, DJ6, V7, U7⟩)
            · have hg6 := hg6
              obtain ⟨f5, rfl, p5, q5, l5⟩ := hg6
              obtain ⟨f6, rfl, p6, q6, l6⟩ := rg6
              have G6 := Lib.hid (show HeldAt w6 b F5 (some gn) (.pointer (some ⟨f5, 0, none⟩)) from ⟨f5, rfl, p5, q5, l5⟩)
              have R6G := Lib.hid (show Ref.HeldAt w6 b2 F6 (some gn) (.pointer (some ⟨f6, 0, none⟩)) from ⟨f6, rfl, p6, q6, l6⟩)
              clear p5 q5 l5 p6 q6 l6
              go_wp2_with fail
              refine SM.out.mono ?_
              rintro e w7 ⟨rfl, k7⟩
              have K7 := Lib.hid (keeps_trans KB.out k7)
              have H7 := Lib.hid (H6.out.keep K7.out)
              have R7 := Lib.hid (R6.out.keep K7.out)
              have G7 := Lib.hid (G6.out.keep K7.out)
              have RG7 := Lib.hid (R6G.out.keep K7.out)
              have V7 := Lib.hid (fun a e => And.intro (Nat.lt_of_lt_of_le (V6.out a e).1 K7.out.size) (V6.out a e).2)
              have U7 := Lib.hid (fun a e => And.intro (Nat.lt_of_lt_of_le (U6.out a e).1 K7.out.size) (U6.out a e).2)
              clear k7
              go_wp2_with fail
              first
                | exact ⟨⟨j + 1, s5, F5, F6, _, _, _, by omega, by go_num, rfl, rfl, SL5, H7, R7, G7, RG7, DJ6, V7, U7⟩, by simp [intOf]; omega⟩
                | (refine ⟨?_, by simp [intOf]; omega⟩
                   (repeat apply Exists.intro)
                   refine ⟨?_, rfl⟩
                   exact ⟨j + 1, s5, F5, F6, _, _, _, by omega, by go_num, rfl, rfl, SL5, H7, R7, G7, RG7, DJ6, V7, U7⟩)
          · obtain rfl : j = n := by omega
            clear hlt hj
            have FI := Lib.hid (K.files (HH.out.z HZ.out) HH.out.D (by have := hsl.out; omega))
            have FR := Lib.hid (fun (V : World) (k : Keeps wr V) => R.files ((RR.out.keep k).z HY.out) (RR.out.keep k).D (by have := hsl.out; omega))
            have OKS := Lib.hid (K.ok HH.out.D)
            unfold dpt at FI FR
            go_wp2_with fail
            refine FI.out.mono ?_
            rintro e w4 ⟨v4, rfl, f4, k4⟩
            have F4 := Lib.hid f4
            have K4 := Lib.hid k4
            clear f4 k4
            go_wp2_with fail
            refine (FR.out _ K4.out).mono ?_
            rintro e w5 ⟨v5, rfl, f5, k5⟩
            have SF := Lib.hid (samefiles_any _ _ v4 v5 _ _ w5 (F4.out.keep k5) f5 (by rw [List.length_map]; have := hsl.out; omega) (by rw [List.length_map]; have := hsl.out; omega) (by
              intro p hp
              obtain ⟨f, hf, rfl⟩ := List.mem_map.1 hp
              exact (OKS.out.files f hf).size))
            rw [decide_eq_true rfl] at SF
            have K5 := Lib.hid (keeps_trans HH.out.kp (keeps_trans K4.out k5))
            clear f5 k5
            go_wp2_with fail
            refine SF.out.mono ?_
            rintro e w6 ⟨rfl, k6⟩
            have K6 := Lib.hid (keeps_trans K5.out k6)
            clear k6
            go_wp2_with fail
            refine (WK.out _ K6.out).mono ?_
            rintro e w7 ⟨rfl, k7⟩
            go_wp2_with fail
            go_ret
            exact ⟨rfl, keeps_trans K6.out k7⟩
      · exfalso
        omega
    · go_wp2_with fail
      refine (NR.out _ k2).mono ?_
      rintro e w3 (⟨h0, h1, -⟩ | ⟨-, rfl, k3⟩)
      · exfalso
        omega
      · have K3 := Lib.hid (keeps_trans K1.out (keeps_trans k2 k3))
        clear k2 k3
        go_wp2_with fail
        refine (WK.out _ K3.out).mono ?_
        rintro e w4 ⟨rfl, k4⟩
        go_wp2_with fail
        go_ret
        exact ⟨rfl, keeps_trans K3.out k4⟩
  · clear hv
    go_wp2_with fail
    refine (WK.out _ K1.out).mono ?_
    rintro e w2 ⟨rfl, k2⟩
    go_wp2_with fail
    go_ret
    exact ⟨rfl, keeps_trans K1.out k2⟩
end Go.Proofs.YtkhfffflegiapaaGreatDoor
