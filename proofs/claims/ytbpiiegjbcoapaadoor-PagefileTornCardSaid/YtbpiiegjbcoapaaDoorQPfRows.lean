/- Rows of bytes as a slice of slices has them. -/
import Derived.Test.YtbpiiegjbcoapaaDoorBase
import Derived.Test.YtbpiiegjbcoapaaDoorLawDisk
import Derived.Test.YtbpiiegjbcoapaaDoorQPfBad
import Derived.Test.YtbpiiegjbcoapaaDoorQPfMath
import Derived.Test.YtbpiiegjbcoapaaDoorRefA
import Derived.Test.YtbpiiegjbcoapaaDoorFresh
namespace Go.Proofs.YtbpiiegjbcoapaaDoor
open Go.RowKit
set_option linter.unusedSimpArgs false
set_option linter.unusedVariables false
set_option maxRecDepth 100000

structure RwS where
  A : Option Addr
  n : Nat
  c : Nat
  l : List UInt8
def rwV (r : RwS) : Value := .slice r.A r.n r.c
structure RwGood (W : World) (r : RwS) : Prop where
  len : r.n = r.l.length
  c : r.n ≤ r.c
  m : r.c ≤ maxLen
  b : Bs W r.A r.l
structure RowsAt (W : World) (A : Option Addr) (rs : List RwS) : Prop where
  cells : At W W.heap.size A (rs.map rwV)
  ok : ∀ r ∈ rs, RwGood W r
theorem RwGood.keep {W W' : World} {r : RwS} (h : RwGood W r) (k : Keeps W W') : RwGood W' r := ⟨h.len, h.c, h.m, h.b.keep k⟩
theorem RowsAt.keep {W W' : World} {A : Option Addr} {rs : List RwS} (h : RowsAt W A rs) (k : Keeps W W') : RowsAt W' A rs := ⟨(h.cells.keep k).more k.size, fun r hr => (h.ok r hr).keep k⟩
theorem RowsAt.get {W : World} {A : Option Addr} {rs : List RwS} (h : RowsAt W A rs) {i : Nat} {r : RwS} (hr : rs[i]? = some r) : ∃ ad, A = some ad ∧ W.cell? (ad.add i) = some (.slice r.A r.n r.c) ∧ RwGood W r := by
  obtain ⟨ad, e, -, hc⟩ := At.get h.cells (k := i) (by rw [List.length_map]; exact (List.getElem?_eq_some_iff.1 hr).1)
  refine ⟨ad, e, ?_, h.ok r (List.mem_of_getElem? hr)⟩
  rw [hc, List.getElem?_map, hr]
  rfl
def rowsL (rs : List RwS) : List (List UInt8) := rs.map (·.l)
theorem rowsL_length (rs : List RwS) : (rowsL rs).length = rs.length := by simp [rowsL]
theorem rowsL_get (rs : List RwS) (i : Nat) : (rowsL rs)[i]? = (rs[i]?).map (·.l) := by simp [rowsL]
end Go.Proofs.YtbpiiegjbcoapaaDoor
/- The anchor of layer 8's statements; a file of pages that is laid. -/
namespace Go.Proofs.YtbpiiegjbcoapaaDoor
open Go.RowKit
set_option linter.unusedSimpArgs false
set_option linter.unusedVariables false
set_option maxRecDepth 100000

/-- what a law leaves -/
def Yes8 (w : World) (e : Ending) (w' : World) : Prop := e = .returned (.bool true) ∧ Keeps w w'
/-! ### The anchor: a disk of 100 sectors -/
def fl0 : Fl := ⟨[97], [], [], fun _ => false⟩
def wb : List UInt8 := [1, 2]
def fl1 : Fl := writeF fl0 0 (pageB tA 0 wb)
def Dh (f : Fl) : Ds := ⟨[f], 100, 0, false⟩
theorem fl1_now : fl1.now = pageB tA 0 wb := by simp [fl1, writeF, fl0, layB]
theorem goneh (f : Fl) : goneS (Dh f) = Dh f := by simp [goneS, Dh]
theorem wk8_a : createS ⟨[], 100, 0, false⟩ [97] = (Dh fl0, 0) := by simp [createS, goneS, ok_a, getF, putF, Dh, fl0]
theorem sizeh {f : Fl} (hn : f.name = [97]) : sizeS (Dh f) [97] = (f.now.length, 0) := by simp [sizeS, Dh, ok_a, get1 hn]
theorem wk8_l : (pageB tA 0 wb).length = 256 := pageB_length tA 0 (by decide)
theorem wk8_b : writeP (Dh fl0) [97] ((0 : Nat) : Int) wb = (Dh fl1, 0) := by
  have hl := wk8_l
  unfold writeP
  rw [if_neg (by decide), if_neg (by decide), sizeh rfl, if_neg (by simp), if_neg (by simp)]
  unfold writeS
  rw [goneh]
  have h4 : ¬ (sect fl0.now.length < sect (max fl0.now.length (0 + 256)) ∧ 100 < usedL [fl0] + (sect (max fl0.now.length (0 + 256)) - sect fl0.now.length)) := by decide
  have e3 : setF [fl0] fl1 = [fl1] := set1 rfl
  have e4 : writeF fl0 0 (pageB (tagN [97]) 0 wb) = fl1 := rfl
  have e5 : ((0 : Nat) : Int).toNat = 0 := rfl
  simp only [Dh, ok_a, get1 (show fl0.name = [97] from rfl), e5]
  rw [show ((0 : Nat) : Int) * 256 = 0 from rfl, show (0 : Int).toNat = 0 from rfl, e4, e3, show tagN [97] = tA from rfl, hl]
  rw [if_neg (by decide), if_neg (by decide), if_neg (by decide), if_neg (by decide), if_neg h4]
theorem wk8_c : readP (Dh fl1) [97] ((0 : Nat) : Int) = (wb, 0) := by
  have hl := wk8_l
  have hs := sizeh (f := fl1) rfl
  obtain ⟨g, hg, -, hr⟩ := size_ok (s := Dh fl1) (nm := [97]) (by rw [hs])
  obtain rfl : fl1 = g := by
    have h1 : getF [fl1] [97] = some g := hg
    rw [get1 rfl] at h1
    exact Option.some.inj h1
  unfold readP
  have e1 : (fl1.now.drop (((0 : Nat) : Int) * 256).toNat).take (256 : Int).toNat = pageB tA 0 wb := by
    rw [fl1_now]
    show (List.drop 0 _).take 256 = _
    rw [List.drop_zero, List.take_of_length_le (by omega)]
  rw [hr _ _ (by decide) (by decide), e1, hs, if_neg (by decide), if_neg (by simp), fl1_now, hl, if_neg (by decide)]
  rw [show tagN [97] = tA from rfl, show ((0 : Nat) : Int).toNat = 0 from rfl, if_pos (isPage_pageB _ _ _ (by decide)), saidB_pageB _ _ _ (by decide)]
theorem wk8_d : sizeS (Dh fl1) [97] = (256, 0) := by rw [sizeh rfl, fl1_now, wk8_l]
theorem strA8 : str [97] = ⟨#[97]⟩ := rfl
set_option maxHeartbeats 8000000 in
theorem works8 (K : DiskOk) (PK : PageOk) (w : World) (hZ : K.Z w) (hS : Sizes w) : Calls Tryd.prog 9 #[] w (Yes8 w) := by
  have N := Lib.hid (K.new 100 w hZ (by decide) (by decide))
  have HZ := Lib.hid hZ
  have HS := Lib.hid hS
  clear hZ hS
  go_enter Tryd.func9, Tryd.ntmps9
  go_wp2_with fail
  refine N.out.mono ?_
  rintro e w1 (⟨-, -, b, F, rfl, hD, hF, k1⟩ | ⟨h, -⟩)
  rotate_left
  · exfalso; omega
  have V1 := Lib.hid (show Have K w w1 b F ⟨[], 100, 0, false⟩ from ⟨hD, hF, k1⟩)
  have C1 := Lib.hid (pfCreate_any V1.out HZ.out [97] (by decide) wk8_a)
  rw [strA8] at C1
  clear hD hF k1
  unfold dpt
  go_wp2_with fail
  refine C1.out.mono ?_
  rintro e w2 ⟨F2, h2, -, ⟨-, f, rfl, hf, -, hnf⟩ | ⟨hbad, -⟩⟩
  rotate_left
  · exact absurd rfl hbad
  have kb := keeps_alloc w2 (.cells #[.int .u8 1, .int .u8 2] 5)
  have B2 : Bs (w2.alloc (.cells #[.int .u8 1, .int .u8 2] 5)) (some ⟨w2.heap.size, 0, none⟩) wb := At.new w2 (cel wb) 5 _ (by simp)
  have C2 := Lib.hid (pfWrite_any PK (h2.keep kb) HZ.out HS.out (hf.keep kb) (by decide) ((0 : Nat) : Int) ⟨by decide, by decide⟩ (some ⟨w2.heap.size, 0, none⟩) 2 2 wb B2 rfl (by decide) (by decide) wk8_b)
  have HF2 := Lib.hid (hf.keep kb)
  have HN2 := Lib.hid hnf
  clear h2 hf kb B2 hnf
  go_wp2_with fail
  refine C2.out.mono ?_
  rintro e w3 ⟨rfl, F3, h3, t3⟩
  obtain ⟨hf3, -⟩ := HF2.out.turn t3 HN2.out
  have C3 := Lib.hid (pfRead_any PK h3 HZ.out HS.out hf3 (by decide) ((0 : Nat) : Int) ⟨by decide, by decide⟩ wk8_c)
  have H3 := Lib.hid h3
  have HF3 := Lib.hid hf3
  clear h3 t3 hf3
  go_wp2_with fail
  refine C3.out.mono ?_
  rintro e w4 ⟨A4, c4, rfl, hc4, o4, k4⟩
  have H4 := Lib.hid (H3.out.keep k4)
  have HF4 := Lib.hid (HF3.out.keep k4)
  have C4 := Lib.hid (pfPages_any H4.out HZ.out HF4.out (by decide) wk8_d (by decide))
  have O4 := Lib.hid o4
  clear o4 k4
  go_wp2_with fail
  refine C4.out.mono ?_
  rintro e w5 ⟨rfl, k5⟩
  obtain ⟨g, rfl, hcell, -⟩ := (O4.out.keep k5).cell (j := 1) (by decide)
  have hcell' : w5.cell? ⟨g, 1, none⟩ = some (.int .u8 2) := hcell
  have C5 := Lib.hid (pfName_any (HF4.out.keep k5))
  rw [strA8] at C5
  have K5 := Lib.hid (keeps_trans H4.out.kp k5)
  have hlw : wb.length = 2 := rfl
  rw [hlw] at *
  clear hcell k5 hc4
  go_wp2_with fail
  refine C5.out.mono ?_
  rintro e w6 ⟨rfl, k6⟩
  go_wp2_with fail
  go_ret
  exact ⟨rfl, keeps_trans K5.out k6⟩
end Go.Proofs.YtbpiiegjbcoapaaDoor
/- A file of pages that the laws lay. -/
namespace Go.Proofs.YtbpiiegjbcoapaaDoor
open Go.RowKit
set_option linter.unusedSimpArgs false
set_option linter.unusedVariables false
set_option maxRecDepth 100000

/-- a disk of one file a, of these pages, all synced; and its handle -/
structure LaidF (K : DiskOk) (w w' : World) (b f : Nat) (F : Nat → Prop) (fl : Fl) (ps : List (List UInt8)) : Prop where
  h : Have K w w' b F (D1 fl)
  at_ : PfAt w' f b [97]
  low : w.heap.size ≤ f
  out : ¬ F f
  is : IsF fl ps
  synced : ∃ g, IsF g ps ∧ fl = syncF g
def LaidV (K : DiskOk) (w : World) (rs : List RwS) (e : Ending) (w' : World) : Prop :=
  (∃ b f F fl, e = .returned (.tuple #[.pointer (some ⟨b, 0, none⟩), .pointer (some ⟨f, 0, none⟩), .bool true]) ∧ LaidF K w w' b f F fl (rowsL rs)) ∨
  (e = .returned (.tuple #[.pointer none, .pointer none, .bool false]) ∧ Keeps w w')
theorem take_is {f : Fl} {ps : List (List UInt8)} {j : Nat} {p : List UInt8} (h : IsF f (ps.take j)) (hp : ps[j]? = some p) (hl : p.length ≤ 240) (hm : ps.length ≤ 700) :
    writeP (D1 f) [97] (j : Int) p = (D1 (writeF f (256 * j) (pageB tA j p)), 0) ∧ IsF (writeF f (256 * j) (pageB tA j p)) (ps.take (j + 1)) := by
  have hj : j < ps.length := (List.getElem?_eq_some_iff.1 hp).1
  have hlen : (ps.take j).length = j := by rw [List.length_take]; omega
  have hw := h.write (k := j) (by omega) (by omega) hl
  have ho := h.over (k := j) (by omega) hl
  refine ⟨hw, ?_⟩
  have e : setP (ps.take j) j p = ps.take (j + 1) := by
    have := setP_end (ps.take j) p
    rw [hlen] at this
    rw [this, List.take_add_one, hp]
    rfl
  rw [e] at ho
  exact ho
set_option maxHeartbeats 8000000 in
theorem laid_any (K : DiskOk) (PK : PageOk) (w : World) (hZ : K.Z w) (hS : Sizes w) (A : Option Addr) (n c : Nat) (rs : List RwS) (h : RowsAt w A rs) (hn : n = rs.length) (hm : n ≤ 40) :
    Calls Tryd.prog 18 #[.slice A n c] w (LaidV K w rs) := by
  have N := Lib.hid (new_ K w hZ)
  have HZ := Lib.hid hZ
  have HS := Lib.hid hS
  have H := Lib.hid h
  have HN := Lib.hid hn
  have hmi : (n : Int) ≤ 40 := by omega
  clear hZ hS h hn
  go_enter Tryd.func18, Tryd.ntmps18
  go_wp2_with fail
  refine N.out.mono ?_
  rintro e w1 ⟨b, F1, rfl, h1⟩
  have C1 := Lib.hid (pfCreate_any h1 HZ.out [97] (by decide) create1)
  rw [strA8] at C1
  have K1 := Lib.hid h1.kp
  clear h1
  go_wp2_with fail
  refine C1.out.mono ?_
  rintro e w2 ⟨F2, h2, -, ⟨-, f, rfl, hf, hlo, hnf⟩ | ⟨hbad, -⟩⟩
  rotate_left
  · exact absurd rfl hbad
  have H2 := Lib.hid h2
  have HF2 := Lib.hid hf
  have HL2 := Lib.hid (show w.heap.size ≤ f from Nat.le_trans K1.out.size hlo)
  have HN2 := Lib.hid hnf
  clear h2 hf hlo hnf C1
  go_wp2_with fail
  go_loopw [8] (fun i wr => ∃ (j : Nat) (F' : Nat → Prop) (fl : Fl), j ≤ n ∧ i = .int .i64 j ∧ Hid (Have K w wr b F' (D1 fl)) ∧ Hid (PfAt wr f b [97]) ∧ Hid (¬ F' f) ∧ Hid (IsF fl ((rowsL rs).take j))) (fun i _ => n - (intOf i).toNat)
  case atStart => exact ⟨0, F2, _, Nat.zero_le _, rfl, H2, HF2, HN2, Lib.hid IsF.nil⟩
  case round =>
    obtain ⟨j, F', fl, hj, rfl, HV, HFA, HNF, HIS⟩ := hrel
    by_cases hlt : j < n
    · have hjn : (j : Int) < (n : Int) := by omega
      obtain ⟨r, hr⟩ : ∃ r, rs[j]? = some r := ⟨_, List.getElem?_eq_getElem (by have := HN.out; omega)⟩
      obtain ⟨ad, rfl, hc, g⟩ := (H.out.keep HV.out.kp).get hr
      have G := Lib.hid g
      have hps : (rowsL rs)[j]? = some r.l := by rw [rowsL_get, hr]; rfl
      by_cases big : 240 < r.n
      · have hb : (240 : Int) < (r.n : Int) := by omega
        clear big hps hr g
        go_wp2_with fail
        go_returns
        exact .inr ⟨rfl, HV.out.kp⟩
      · have hb : (r.n : Int) ≤ 240 := by omega
        obtain ⟨hw, ho⟩ := take_is HIS.out hps (by have := g.len; omega) (by rw [rowsL_length]; have := HN.out; omega)
        have CP := Lib.hid (copyBytes_any r.A r.n r.c r.l wr g.b g.len (Nat.le_trans g.c g.m))
        have HO := Lib.hid ho
        have HLN := Lib.hid g.len
        have WR := Lib.hid (fun (V : World) (k : Keeps wr V) (A3 : Option Addr) (c3 : Nat) (o : Own V wr.heap.size 5 1 (.slice A3 r.l.length c3) r.l.length (cel r.l)) =>
          pfWrite_any PK (HV.out.keep k) HZ.out HS.out (HFA.out.keep k) (by decide) (j : Int) ⟨by omega, by omega⟩ A3 r.l.length c3 r.l o.at_ rfl (by obtain ⟨A', c', hv, hc', -⟩ := o.form; injection hv with h3 h4 h5; subst h5; exact hc') o.capm hw)
        clear big hps hr hw ho g
        go_wp2_with fail
        refine CP.out.mono ?_
        rintro e w3 ⟨v3, rfl, o3, k3⟩
        obtain ⟨A3, c3, rfl, -⟩ := o3.form
        have W3 := Lib.hid (WR.out _ k3 A3 c3 o3)
        have HF3 := Lib.hid (HFA.out.keep k3)
        clear o3 k3
        go_wp2_with fail
        refine W3.out.mono ?_
        rintro e w4 ⟨rfl, F4, h4, t4⟩
        obtain ⟨hf4, hn4⟩ := HF3.out.turn t4 HNF.out
        have H4 := Lib.hid h4
        have HF4 := Lib.hid hf4
        have HN4 := Lib.hid hn4
        clear h4 t4 hf4 hn4
        go_wp2_with fail
        go_roundw
        case rel => exact ⟨j + 1, F4, _, by omega, by go_num, H4, HF4, HN4, HO⟩
        case measure => simp [intOf]; omega
    · obtain rfl : j = n := by omega
      have IS := Lib.hid (show IsF fl (rowsL rs) by have := HIS.out; rwa [List.take_of_length_le (by rw [rowsL_length]; have := HN.out; omega)] at this)
      have SY := Lib.hid (pfSync_any HV.out HZ.out HFA.out (by decide) (sync1 IS.out.name))
      clear hlt hj
      go_wp2_with fail
      refine SY.out.mono ?_
      rintro e w3 ⟨rfl, F3, h3, t3⟩
      obtain ⟨hf3, hn3⟩ := HFA.out.turn t3 HNF.out
      have H3 := Lib.hid h3
      have HF3 := Lib.hid hf3
      have HN3 := Lib.hid hn3
      clear h3 t3 hf3 hn3
      go_wp2_with fail
      go_returns
      exact .inl ⟨b, f, F3, _, rfl, H3.out, HF3.out, HL2.out, HN3.out, IS.out.sync, _, IS.out, rfl⟩
end Go.Proofs.YtbpiiegjbcoapaaDoor
/- PagefileBack. -/
namespace Go.Proofs.YtbpiiegjbcoapaaDoor
open Go.RowKit
set_option linter.unusedSimpArgs false
set_option linter.unusedVariables false
set_option maxRecDepth 100000

section
variable {K : DiskOk} {w w1 : World} {b f : Nat} {F : Nat → Prop} {fl : Fl} {ps : List (List UInt8)}
theorem LaidF.keep {w2 : World} (h : LaidF K w w1 b f F fl ps) (k : Keeps w1 w2) : LaidF K w w2 b f F fl ps := ⟨h.h.keep k, h.at_.keep k, h.low, h.out, h.is, h.synced⟩
end
theorem eq_same (A : Option Addr) (n c : Nat) (l : List UInt8) (B : Option Addr) (m d : Nat) (w : World) (hA : Bs w A l) (hn : n = l.length) (hB : Bs w B l) (hm : m = l.length) :
    Calls Tryd.prog 20 #[.slice A n c, .slice B m d] w fun e w' => e = .returned (.bool true) ∧ w = w' :=
  (eqBytes_any A n c l B m d l w hA hn hB hm).mono fun e w' q => ⟨by rw [q.1, decide_eq_true rfl], q.2⟩
set_option maxHeartbeats 16000000 in
theorem back8_walk (K : DiskOk) (PK : PageOk) (A : Option Addr) (n c : Nat) (rs : List RwS) (k : Int) (hk : IsI k) (B : Option Addr) (m d : Nat) (l : List UInt8) (w : World) (hZ : K.Z w) (hS : Sizes w)
    (h : RowsAt w A rs) (hn : n = rs.length) (hB : Bs w B l) (hm : m = l.length) (hd : m ≤ d) (hnx : n ≤ maxLen) (hdx : d ≤ maxLen) :
    Calls Tryd.prog 4 #[.slice A n c, .int .i64 k, .slice B m d] w (Yes8 w) := by
  have WK := Lib.hid (fun (W : World) (q : Keeps w W) => works8 K PK W (K.keep hZ q) (hS.keep q))
  have hk1 := hk.1
  have hk2 := hk.2
  have HZ := Lib.hid hZ
  have HS := Lib.hid hS
  have H := Lib.hid h
  have HN := Lib.hid hn
  have HB := Lib.hid hB
  have HM := Lib.hid hm
  have HD := Lib.hid (And.intro hd hdx)
  unfold maxLen at hnx hdx
  by_cases big : 40 < n ∨ 240 < m
  · have ways : (40 : Int) < (n : Int) ∨ (¬ (40 : Int) < (n : Int) ∧ (240 : Int) < (m : Int)) := by omega
    clear hZ hS h hn hB hm hd big hk
    go_enter Tryd.func4, Tryd.ntmps4
    rcases ways with x1 | ⟨x1, x2⟩
    all_goals
      go_wp2_with fail
      refine (WK.out _ (keeps_refl _)).mono ?_
      rintro e w9 ⟨rfl, k9⟩
      go_wp2_with fail
      go_ret
      exact ⟨rfl, k9⟩
  · have b0 : (n : Int) ≤ 40 := by omega
    have b1 : (m : Int) ≤ 240 := by omega
    have LD := Lib.hid (laid_any K PK w hZ hS A n c rs h hn (by omega))
    clear hZ hS h hn hB hm hd big hk
    go_enter Tryd.func4, Tryd.ntmps4
    go_wp2_with fail
    refine LD.out.mono ?_
    rintro e w1 (⟨b, f, F, fl, rfl, h1⟩ | ⟨rfl, k1⟩)
    rotate_left
    · go_wp2_with fail
      refine (WK.out _ k1).mono ?_
      rintro e w9 ⟨rfl, k9⟩
      go_wp2_with fail
      go_ret
      exact ⟨rfl, keeps_trans k1 k9⟩
    have H1 := Lib.hid h1
    have CP := Lib.hid (copyBytes_any B m d l w1 (HB.out.keep h1.h.kp) HM.out (by unfold maxLen; have := HD.out.2; unfold maxLen at this; omega))
    clear h1
    go_wp2_with fail
    refine CP.out.mono ?_
    rintro e w2 ⟨v2, rfl, o2, k2⟩
    obtain ⟨A2, c2, rfl, hc2, -⟩ := o2.form
    have L2 := Lib.hid (H1.out.keep k2)
    have hpl : (rowsL rs).length = n := by rw [rowsL_length]; exact HN.out.symm
    by_cases bad : k < 0 ∨ (n : Int) < k
    · have hw := L2.out.is.write_no (k := k) (b := l) (by rw [hpl]; exact bad) (by have := HM.out; omega)
      have WR := Lib.hid (pfWrite_any PK L2.out.h HZ.out HS.out L2.out.at_ (by decide) k ⟨hk1, hk2⟩ A2 l.length c2 l o2.at_ rfl hc2 o2.capm hw)
      have ways : k < 0 ∨ (¬ k < 0 ∧ (n : Int) < k) := by omega
      clear hw o2 k2 bad hpl
      go_wp2_with fail
      refine WR.out.mono ?_
      rintro e w3 ⟨rfl, F3, h3, -⟩
      have K3 := Lib.hid h3.kp
      clear h3
      rcases ways with x1 | ⟨x1, x2⟩
      all_goals
        go_wp2_with fail
        refine (WK.out _ K3.out).mono ?_
        rintro e w9 ⟨rfl, k9⟩
        go_wp2_with fail
        go_ret
        exact ⟨rfl, keeps_trans K3.out k9⟩
    · obtain ⟨kn, rfl⟩ : ∃ kn : Nat, k = (kn : Int) := ⟨k.toNat, by omega⟩
      have hkn : kn ≤ (rowsL rs).length := by omega
      have hw := L2.out.is.write hkn (by omega) (b := l) (by have := HM.out; omega)
      have IS := Lib.hid (L2.out.is.over hkn (b := l) (by have := HM.out; omega))
      have WR := Lib.hid (pfWrite_any PK L2.out.h HZ.out HS.out L2.out.at_ (by decide) (kn : Int) ⟨hk1, hk2⟩ A2 l.length c2 l o2.at_ rfl hc2 o2.capm hw)
      have HG := Lib.hid (setP_get (b := l) hkn)
      have HSL := Lib.hid (setP_length (b := l) hkn)
      obtain ⟨N, hN⟩ : ∃ N, N = max n (kn + 1) := ⟨_, rfl⟩
      have hNb : (N : Int) ≤ 41 := by omega
      have HNN := Lib.hid (show (setP (rowsL rs) kn l).length = N by rw [HSL.out, hpl, hN])
      have hmx : ∀ (ts : Array TypeId) (t : TypeId) (w : World), (Builtin.max_ ts t #[.int .i64 (n : Int), .int .i64 ((kn : Int) + 1)]).run Tryd.prog w = .ok (.int .i64 (N : Int)) w := by
        intro ts t w
        rw [run_max_int2]
        congr 2
        split <;> omega
      have g1 : ¬ (kn : Int) < 0 := by omega
      have g2 : ¬ (n : Int) < (kn : Int) := by omega
      have g3 : (kn : Int) ≤ 40 := by omega
      have HPL := Lib.hid hpl
      have HNV := Lib.hid hN
      clear hw o2 k2 bad hpl hkn hN
      go_wp2_with fail
      refine WR.out.mono ?_
      rintro e w3 ⟨rfl, F3, h3, t3⟩
      obtain ⟨hf3, hn3⟩ := L2.out.at_.turn t3 L2.out.out
      have H3 := Lib.hid h3
      have HF3 := Lib.hid hf3
      have PG := Lib.hid (pfPages_any h3 HZ.out hf3 (by decide) IS.out.size (by rw [HNN.out]; omega))
      rw [HNN.out, show 256 * N / 256 = N by omega] at PG
      clear h3 t3 hf3 hn3
      go_wp2_with fail
      refine PG.out.mono ?_
      rintro e w4 ⟨rfl, k4⟩
      have H4 := Lib.hid (H3.out.keep k4)
      have HF4 := Lib.hid (HF3.out.keep k4)
      have e1 : ((0 : Int) != 0) = false := rfl
      have e2 : ((N : Int) != (N : Int)) = false := by simp
      clear k4
      go_wp2_with fail
      go_loopw [12] (fun i wr => ∃ j : Nat, j ≤ N ∧ i = .int .i64 j ∧ Hid (Keeps w4 wr)) (fun i _ => N - (intOf i).toNat)
      case atStart => exact ⟨0, Nat.zero_le _, rfl, Lib.hid (keeps_refl _)⟩
      case round =>
        obtain ⟨j, hj, rfl, KR⟩ := hrel
        by_cases hlt : j < N
        · have hjN : (j : Int) < (N : Int) := by omega
          by_cases hjk : j = kn
          · subst hjk
            have hne : ((j : Int) != (j : Int)) = false := by simp
            have RD := Lib.hid (pfRead_any PK (H4.out.keep KR.out) HZ.out HS.out (HF4.out.keep KR.out) (by decide) (j : Int) ⟨by omega, by omega⟩ (IS.out.read (by rw [HG.out, if_pos rfl])))
            have EQ := Lib.hid (fun (V : World) (kk : Keeps wr V) (A9 : Option Addr) (c9 : Nat) (o : Own V wr.heap.size 5 1 (.slice A9 l.length c9) l.length (cel l)) => eq_same A9 l.length c9 l B m d V o.at_ rfl (HB.out.keep (keeps_trans H4.out.kp (keeps_trans KR.out kk))) HM.out)
            clear hj hlt
            go_wp2_with fail
            refine RD.out.mono ?_
            rintro e w5 ⟨A5, c5, rfl, -, o5, k5⟩
            have E5 := Lib.hid (EQ.out _ k5 A5 c5 o5)
            have K5 := Lib.hid (keeps_trans KR.out k5)
            clear o5 k5
            go_wp2_with fail
            refine E5.out.mono ?_
            rintro e w6 ⟨rfl, rfl⟩
            go_wp2_with fail
            go_roundw
            case rel => exact ⟨j + 1, by omega, by go_num, K5⟩
            case measure => simp [intOf]; omega
          · have hne : ((j : Int) != (kn : Int)) = true := by rw [bne_iff_ne]; omega
            obtain ⟨r, hr⟩ : ∃ r, rs[j]? = some r := ⟨_, List.getElem?_eq_getElem (by have := HN.out; have := HNV.out; omega)⟩
            obtain ⟨ad, rfl, hc, g⟩ := (H.out.keep (keeps_trans H4.out.kp KR.out)).get hr
            have G := Lib.hid g
            have hrn := g.len
            have RD := Lib.hid (pfRead_any PK (H4.out.keep KR.out) HZ.out HS.out (HF4.out.keep KR.out) (by decide) (j : Int) ⟨by omega, by omega⟩ (IS.out.read (p := r.l) (by rw [HG.out, if_neg hjk, rowsL_get, hr]; rfl)))
            have EQ := Lib.hid (fun (V : World) (kk : Keeps wr V) (A9 : Option Addr) (c9 : Nat) (o : Own V wr.heap.size 5 1 (.slice A9 r.l.length c9) r.l.length (cel r.l)) => eq_same A9 r.l.length c9 r.l r.A r.n r.c V o.at_ rfl (G.out.b.keep kk) G.out.len)
            have hjn : (j : Int) < (n : Int) := by
              have := HN.out
              have := (List.getElem?_eq_some_iff.1 hr).1
              omega
            clear hj hlt g hr hrn
            go_wp2_with fail
            refine RD.out.mono ?_
            rintro e w5 ⟨A5, c5, rfl, -, o5, k5⟩
            have E5 := Lib.hid (EQ.out _ k5 A5 c5 o5)
            have K5 := Lib.hid (keeps_trans KR.out k5)
            clear o5 k5
            go_wp2_with fail
            refine E5.out.mono ?_
            rintro e w6 ⟨rfl, rfl⟩
            go_wp2_with fail
            go_roundw
            case rel => exact ⟨j + 1, by omega, by go_num, K5⟩
            case measure => simp [intOf]; omega
        · obtain rfl : j = N := by omega
          have K9 := Lib.hid (keeps_trans H4.out.kp KR.out)
          clear hlt hj
          go_wp2_with fail
          refine (WK.out _ K9.out).mono ?_
          rintro e w9 ⟨rfl, k9⟩
          go_wp2_with fail
          go_ret
          exact ⟨rfl, keeps_trans K9.out k9⟩
end Go.Proofs.YtbpiiegjbcoapaaDoor
