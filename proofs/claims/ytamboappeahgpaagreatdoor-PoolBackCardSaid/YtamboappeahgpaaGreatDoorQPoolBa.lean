/- Package pool: New, Disk, Frames, Held, Peak. -/
import Derived.Test.YtamboappeahgpaaGreatDoorQPoolW
import Derived.Test.YtamboappeahgpaaGreatDoorQPoolMath
import Derived.Deep.OwnRows
import Derived.Lib.Builder
namespace Go.Proofs.YtamboappeahgpaaGreatDoor
open Go.RowKit
set_option linter.unusedSimpArgs false
set_option linter.unusedVariables false
set_option maxRecDepth 100000

theorem made_nil (n : Nat) : madeCells #[Value.pointer none] n = (rowC (List.replicate n none)).toArray := by
  apply Array.ext'
  apply List.ext_getElem?
  intro j
  by_cases hj : j < n
  · simp [madeCells, rowC, ptrO, hj, Nat.mod_one]
  · simp [madeCells, rowC, hj]
theorem frs_rep (n : Nat) : frs (List.replicate n none) = List.replicate n none := by simp [frs]
section
variable {K : DiskOk} {w0 w w' : World} {B : PB} {X X' : PX} {Fd Fp Fd' Fp' : Nat → Prop} {sl sl' : List (Option Fx)} {p p' : Pst}
theorem rep_none {α : Type} {n i : Nat} {x : α} (h : (List.replicate n (none : Option α))[i]? = some (some x)) : False := by
  have := List.eq_of_mem_replicate (List.mem_of_getElem? h)
  cases this
/-- a new pool -/
theorem new_in (hD : Have K w0 w B.db Fd p.d) {n : Nat} (h1 : 1 ≤ n) (hn : n ≤ 4096) (hgr : w.heap.size = B.gr) (hwb : w.heap.size + 1 = B.wb) (hdm : w.heap.size + 2 = B.dm) (hpb : w.heap.size + 3 = B.pb) (k : Keeps w w') (hsz : w'.heap.size = w.heap.size + 4)
    (row : Box w' B.gr 140 (rowC (List.replicate n none)).toArray) (box : Box w' B.pb 129 (plC B n ⟨0, 0, 0, 0, 0⟩)) (wher : MapW plV dpt w' B.wb []) (dirt : MapW strW sliV w' B.dm []) :
    PHave K w0 w' B Fd (fun i => w.heap.size ≤ i ∧ i < w.heap.size + 4) ⟨fun _ => (none, 0), fun _ _ => 0, []⟩ (List.replicate n none) (newPl p.d n) := by
  have hok := (new_ok p.d ⟨h1, hn⟩).1
  refine ⟨hD.keep k, ?_, (frs_rep n).symm, hok, fun i hi => Nat.le_trans hD.kp.size hi.1, fun i hi hd => by have := K.lt hD.D i hd; omega⟩
  refine ⟨?_, row, fun i x hx => (rep_none hx).elim, fun i j x y hx => (rep_none hx).elim, fun i x hx => (rep_none hx).elim, wher, fun nm k => ?_, dirt, fun nm ks h => by simp [newPl] at h, fun nm ks h => by simp [newPl] at h, fun nm ks _ _ h => by simp [newPl] at h, fun nm k h => ?_, hok.dl, ?_, ⟨?_, ?_, ?_, ?_, fun i x hx => (rep_none hx).elim, fun nm ks h => by simp [newPl] at h⟩, fun i hi => by omega, by simpa using hn, by omega⟩
  · have e : tally (newPl p.d n).hand (newPl p.d n).fr (newPl p.d n).mostR (newPl p.d n).mostP = ⟨0, 0, 0, 0, 0⟩ := by
      simp [tally, newPl, resN, pinN, List.countP_replicate, isPin]
    rw [e, List.length_replicate]
    exact box
  · rw [if_neg (fun hm => by
      obtain ⟨i, f, hf, -, -⟩ := mem_keys.1 hm
      obtain ⟨x, hx, -⟩ := frs_at hf
      exact rep_none hx)]
    rfl
  · simp [newPl, dirtyOf, lookM] at h
  · have := hok.one
    unfold One
    rw [frs_rep]
    exact this
  · omega
  · omega
  · omega
  · omega
def NewV (K : DiskOk) (w0 w : World) (Fd : Nat → Prop) (db : Nat) (d : Ds) (n : Int) (e : Ending) (w' : World) : Prop := Keeps w w' ∧
      ((1 ≤ n ∧ n ≤ 4096 ∧ ∃ B Fp X sl, B.db = db ∧ e = .returned (.tuple #[.pointer (some ⟨B.pb, 0, none⟩), .int .i64 0]) ∧ PHave K w0 w' B Fd Fp X sl (newPl d n.toNat) ∧ ∀ i, Fp i → w.heap.size ≤ i) ∨ ((n < 1 ∨ 4096 < n) ∧ e = .returned (.tuple #[.pointer none, .int .i64 1])))
set_option maxHeartbeats 8000000 in
theorem new10_any {db : Nat} {d : Ds} (hD : Have K w0 w db Fd d) (n : Int) (hn : IsI n) :
    Calls Tryz.prog 21 #[.pointer (some ⟨db, 0, none⟩), .int .i64 n] w (NewV K w0 w Fd db d n) := by
  have hmm := @run_makeMap Tryz.prog
  by_cases h1 : n < 1
  · go_enter Tryz.func21, Tryz.ntmps21
    go_wp2_with fail
    go_returns
    exact ⟨keeps_refl _, .inr ⟨.inl h1, rfl⟩⟩
  · by_cases h2 : 4096 < n
    · have h1b : decide (n < 1) = false := decide_eq_false h1
      go_enter Tryz.func21, Tryz.ntmps21
      go_wp2_with fail
      go_returns
      exact ⟨keeps_refl _, .inr ⟨.inr h2, rfl⟩⟩
    · obtain ⟨m, rfl⟩ : ∃ m : Nat, n = (m : Int) := ⟨n.toNat, by omega⟩
      have hm1 : 1 ≤ m := by omega
      have hm2 : m ≤ 4096 := by omega
      have h1b : decide ((m : Int) < 1) = false := decide_eq_false h1
      have h2b : decide (4096 < (m : Int)) = false := decide_eq_false h2
      have hmk := run_make_row' (P := Tryz.prog) 123 140 (.pointer none) 8 Tryz.underlying123 infoPf rfl .i64 .i64 m (by omega) (by omega)
      have HD := Lib.hid hD
      clear hD hn
      go_enter Tryz.func21, Tryz.ntmps21
      go_wp2_with fail
      go_returns
      have q1 := keeps_alloc w (.cells (madeCells #[.pointer none] m) 140)
      have q2 := keeps_alloc (w.alloc (.cells (madeCells #[.pointer none] m) 140)) (.map #[] 0)
      have q3 := keeps_alloc ((w.alloc (.cells (madeCells #[.pointer none] m) 140)).alloc (.map #[] 0)) (.map #[] 0)
      have q4 := keeps_alloc (((w.alloc (.cells (madeCells #[.pointer none] m) 140)).alloc (.map #[] 0)).alloc (.map #[] 0)) (.cells #[.pointer (some ⟨db, 0, none⟩), .slice (some ⟨w.heap.size, 0, none⟩) m m, .map (some (w.heap.size + 1)), .map (some (w.heap.size + 1 + 1)), .int .i64 0, .int .i64 0, .int .i64 0, .int .i64 0, .int .i64 0] 129)
      have b1 := Box.new w 140 (madeCells #[.pointer none] m)
      have m2 := MapW.new plV dpt (w.alloc (.cells (madeCells #[.pointer none] m) 140))
      have m3 := MapW.new strW sliV ((w.alloc (.cells (madeCells #[.pointer none] m) 140)).alloc (.map #[] 0))
      have b4 := Box.new (((w.alloc (.cells (madeCells #[.pointer none] m) 140)).alloc (.map #[] 0)).alloc (.map #[] 0)) 129 #[.pointer (some ⟨db, 0, none⟩), .slice (some ⟨w.heap.size, 0, none⟩) m m, .map (some (w.heap.size + 1)), .map (some (w.heap.size + 1 + 1)), .int .i64 0, .int .i64 0, .int .i64 0, .int .i64 0, .int .i64 0]
      have KK := keeps_trans (keeps_trans (keeps_trans q1 q2) q3) q4
      rw [made_nil] at b1 m2 m3 b4 q1 q2 q3 q4 KK ⊢
      have s2 : (w.alloc (.cells (rowC (List.replicate m none)).toArray 140)).heap.size = w.heap.size + 1 := by simp
      have s3 : ((w.alloc (.cells (rowC (List.replicate m none)).toArray 140)).alloc (.map #[] 0)).heap.size = w.heap.size + 2 := by simp
      have s4 : (((w.alloc (.cells (rowC (List.replicate m none)).toArray 140)).alloc (.map #[] 0)).alloc (.map #[] 0)).heap.size = w.heap.size + 3 := by simp
      rw [s2] at m2
      rw [s3] at m3
      rw [s4] at b4
      refine ⟨KK, .inl ⟨by omega, by omega, ⟨w.heap.size + 3, db, w.heap.size, w.heap.size + 1, w.heap.size + 2⟩, (fun i => w.heap.size ≤ i ∧ i < w.heap.size + 4), ⟨fun _ => (none, 0), fun _ _ => 0, []⟩, List.replicate m none, rfl, rfl, ?_, ?_⟩⟩
      · rw [Int.toNat_natCast]
        exact new_in (p := ⟨d, [], [], 0, 0, 0⟩) (B := ⟨w.heap.size + 3, db, w.heap.size, w.heap.size + 1, w.heap.size + 2⟩) HD.out hm1 hm2 rfl rfl rfl rfl KK (by simp) (((b1.keep q2).keep q3).keep q4) b4 ((m2.keep q3).keep q4) (m3.keep q4)
      · exact fun i hi => hi.1
theorem disk10_any (h : PHave K w0 w B Fd Fp X sl p) : Calls Tryz.prog 24 #[.pointer (some ⟨B.pb, 0, none⟩)] w fun e w' => e = .returned (.pointer (some ⟨B.db, 0, none⟩)) ∧ Keeps w w' := by
  have p0 : w.cell? ⟨B.pb, 0, none⟩ = some (.pointer (some ⟨B.db, 0, none⟩)) := h.I.box.cell 0 rfl
  clear h
  go_enter Tryz.func24, Tryz.ntmps24
  go_wp2_with fail
  go_returns
  exact ⟨rfl, keeps_refl _⟩
theorem frames_any (h : PHave K w0 w B Fd Fp X sl p) : Calls Tryz.prog 25 #[.pointer (some ⟨B.pb, 0, none⟩)] w fun e w' => e = .returned (.int .i64 (p.fr.length : Int)) ∧ Keeps w w' := by
  have p1 : w.cell? ⟨B.pb, 1, none⟩ = some (.slice (some ⟨B.gr, 0, none⟩) sl.length sl.length) := h.I.box.cell 1 rfl
  have hl : p.fr.length = sl.length := by rw [h.fr, frs_len]
  rw [hl]
  clear h hl
  go_enter Tryz.func25, Tryz.ntmps25
  go_wp2_with fail
  go_returns
  exact ⟨rfl, keeps_refl _⟩
theorem peak_any (h : PHave K w0 w B Fd Fp X sl p) : Calls Tryz.prog 23 #[.pointer (some ⟨B.pb, 0, none⟩)] w fun e w' => e = .returned (.tuple #[.int .i64 (p.mostR : Int), .int .i64 (p.mostP : Int)]) ∧ Keeps w w' := by
  have p6 : w.cell? ⟨B.pb, 6, none⟩ = some (.int .i64 (p.mostR : Int)) := h.I.box.cell 6 rfl
  have p8 : w.cell? ⟨B.pb, 8, none⟩ = some (.int .i64 (p.mostP : Int)) := h.I.box.cell 8 rfl
  clear h
  go_enter Tryz.func23, Tryz.ntmps23
  go_wp2_with fail
  go_region
  go_wp2_with fail
  go_returns
  exact ⟨rfl, keeps_drew _⟩
theorem sum_perm {α : Type} (f : α → Nat) {l l' : List α} (h : l.Perm l') : (l.map f).sum = (l'.map f).sum := by
  induction h with
  | nil => rfl
  | cons x _ ih => simp [ih]
  | swap x y l => simp; omega
  | trans _ _ h1 h2 => exact h1.trans h2
set_option maxHeartbeats 8000000 in
theorem held_any (h : PHave K w0 w B Fd Fp X sl p) : Calls Tryz.prog 22 #[.pointer (some ⟨B.pb, 0, none⟩)] w fun e w' => e = .returned (.tuple #[.int .i64 (resN p.fr : Int), .int .i64 (pinN p.fr : Int), .int .i64 (dirN p.dl : Int)]) ∧ Keeps w w' := by
  have p3 : w.cell? ⟨B.pb, 3, none⟩ = some (.map (some B.dm)) := h.I.box.cell 3 rfl
  have p5 : w.cell? ⟨B.pb, 5, none⟩ = some (.int .i64 (resN p.fr : Int)) := h.I.box.cell 5 rfl
  have p7 : w.cell? ⟨B.pb, 7, none⟩ = some (.int .i64 (pinN p.fr : Int)) := h.I.box.cell 7 rfl
  have hdm := h.I.dirt
  have hD : dirN p.dl ≤ 4096 := Nat.le_trans (dir_le h.ok) (Nat.le_trans List.countP_le_length h.ok.n.2)
  have hsum : ((p.dl.map fun e => (e.1, ((X.R e.1).1, e.2.length, (X.R e.1).2))).map fun e => e.2.2.1).sum = dirN p.dl := by
    unfold dirN
    rw [List.map_map]
    rfl
  generalize dirN p.dl = N at *
  generalize (p.dl.map fun e => (e.1, ((X.R e.1).1, e.2.length, (X.R e.1).2))) = es at *
  generalize resN p.fr = rn at *
  generalize pinN p.fr = pn at *
  have OM := Lib.hid hdm
  have HS := Lib.hid hsum
  have CC := Lib.hid (fun (V : World) (kk : Keeps w V) => show V.cell? ⟨B.pb, 5, none⟩ = some (.int .i64 (rn : Int)) ∧ V.cell? ⟨B.pb, 7, none⟩ = some (.int .i64 (pn : Int)) from ⟨kk.cellOf p5, kk.cellOf p7⟩)
  clear h hdm hsum
  go_enter Tryz.func22, Tryz.ntmps22
  go_wp2_with (at_range; refine wpList_rangeV _ rfl _ rfl dirtyT B.dm es rfl OM.out ?_; intro w1 hi1 hk1 hs1)
  go_frame
  have HI0 := Lib.hid hi1
  have HK0 := Lib.hid hk1
  clear hi1 hk1 hs1
  go_loopw [4] (fun t wr => ∃ (acc : Nat) (lf : List (List UInt8 × (Option Nat × Nat × Nat))), t = .int .i64 (acc : Int) ∧ Hid (acc + (lf.map fun e => e.2.2.1).sum = N) ∧ Hid (IterV strW sliV wr B.dm w.heap.size es lf) ∧ Hid (Keeps w wr))
    (fun _ wr => wr.rangeLeft B.dm w.heap.size)
  case atStart => exact ⟨0, es, rfl, Lib.hid (by rw [HS.out]; omega), HI0, HK0⟩
  case round =>
    obtain ⟨acc, lf, rfl, HA, HI, HKW⟩ := hrel
    go_wp2_with (at_next; refine wpList_nextV _ rfl _ rfl dirtyT B.dm w.heap.size es lf rfl HI.out (fun s : List UInt8 => Value.string (str s)) rfl (fun x : Option Nat × Nat × Nat => Value.slice (x.1.map fun b => (⟨b, 0, none⟩ : Addr)) x.2.1 x.2.2) rfl ?_ ?_)
    · intro hd
      have hz : acc = N := by
        have h1 := HA.out
        rw [hd] at h1
        simpa using h1
      subst hz
      obtain ⟨c5, c7⟩ := CC.out _ HKW.out
      clear hd
      go_wp2_with fail
      go_region
      go_wp2_with fail
      go_returns
      exact ⟨rfl, keeps_trans HKW.out (keeps_drew _)⟩
    · rintro nm g n c lf' w2 hp hI2 ho2 hen
      have hr0 : w.heap.size < wr.heap.size := HI.out.lt.2
      have kw2 : Keeps w w2 := ⟨ho2.os.trans HKW.out.os, ho2.tape.trans HKW.out.tape, ho2.output.trans HKW.out.output, Nat.le_trans HKW.out.size ho2.size, fun i hi => (ho2.block i (Nat.lt_of_lt_of_le hi HKW.out.size) (by omega)).trans (HKW.out.block i hi)⟩
      have e1 : (acc + n) + (lf'.map fun e => e.2.2.1).sum = N := by
        have h1 := HA.out
        rw [sum_perm (fun e : List UInt8 × (Option Nat × Nat × Nat) => e.2.2.1) hp] at h1
        simp only [List.map_cons, List.sum_cons] at h1
        omega
      have hs1 : (acc : Int) + (n : Int) ≤ 4096 := by omega
      have hs0 : (n : Int) ≤ 4096 := by omega
      have hsn : (acc : Int) + (n : Int) = ((acc + n : Nat) : Int) := by omega
      have hw : IntKind.i64.wrap ((acc : Int) + (n : Int)) = ((acc + n : Nat) : Int) := by rw [hsn]; exact IntWalk.i64_in _ (by omega)
      have E1 := Lib.hid e1
      have I2 := Lib.hid hI2
      have KW2 := Lib.hid kw2
      have LEN := Lib.hid (show lf.length = lf'.length + 1 by have := hp.length_eq; simpa using this)
      have HSN := Lib.hid hsn
      clear e1 hI2 kw2 hp ho2 hr0 hsn
      go_wp2_with fail
      exact ⟨⟨acc + n, lf', rfl, E1, I2, KW2⟩, by rw [I2.out.left_eq, HI.out.left_eq, LEN.out]; omega⟩
end
end Go.Proofs.YtamboappeahgpaaGreatDoor
/- milepostlaw10.works. -/
namespace Go.Proofs.YtamboappeahgpaaGreatDoor
open Go.RowKit
set_option linter.unusedSimpArgs false
set_option linter.unusedVariables false
set_option maxRecDepth 100000

def Yes10 (w : World) (e : Ending) (w' : World) : Prop := e = .returned (.bool true) ∧ Keeps w w'
def wkD : Ds := ⟨[], 100, 0, false⟩
def wkP1 : Pst := (createPl (newPl wkD 2) [97]).1
def wkP2 : Pst := (writePl wkP1 [97] 0 [7]).1
def wkP3 : Pst := (readPl wkP2 [97] 0).1
theorem wk10_a : (createPl (newPl wkD 2) [97]).2 = 0 := by kernel_rfl
theorem wk10_b : (writePl wkP1 [97] 0 [7]).2 = 0 := by kernel_rfl
theorem wk10_c : (readPl wkP2 [97] 0).2.2 = 0 := by kernel_rfl
theorem wk10_d : (readPl wkP2 [97] 0).2.1 = [7] := by kernel_rfl
theorem wk10_e : resN wkP3.fr = 1 := by kernel_rfl
theorem wk10_f : dirN wkP3.dl = 1 := by kernel_rfl
theorem wk10_g : wkP1.mostR = 0 := by kernel_rfl
theorem wk10_h : wkP2.mostR = 1 := by kernel_rfl
theorem wk10_i : wkP1.fr = [none, none] := by kernel_rfl
theorem strA10 : str [97] = ⟨#[97]⟩ := rfl
set_option maxHeartbeats 8000000 in
theorem works10 (K : DiskOk) (PK : PageOk) (w : World) (hZ : K.Z w) (hS : Sizes w) : Calls Tryz.prog 20 #[] w (Yes10 w) := by
  have N := Lib.hid (K.new 100 w hZ (by decide) (by decide))
  have HZ := Lib.hid hZ
  have HS := Lib.hid hS
  clear hZ hS
  go_enter Tryz.func20, Tryz.ntmps20
  go_wp2_with fail
  refine N.out.mono ?_
  rintro e w1 (⟨-, -, b, F, rfl, hD, hF, k1⟩ | ⟨h, -⟩)
  rotate_left
  · exfalso; omega
  have V1 := Lib.hid (show Have K w w1 b F wkD from ⟨hD, hF, k1⟩)
  have C1 := Lib.hid (new10_any V1.out 2 ⟨by decide, by decide⟩)
  clear hD hF k1
  unfold dpt
  go_wp2_with fail
  refine C1.out.mono ?_
  rintro e w2 ⟨k2, ⟨-, -, B, Fp, X, sl, rfl, rfl, h2, -⟩ | ⟨hbad, -⟩⟩
  rotate_left
  · exfalso; omega
  have H2 : Hid (PHave K w w2 B F Fp X sl (newPl wkD 2)) := Lib.hid h2
  have KP : Hid (w.heap.size ≤ w2.heap.size) := Lib.hid h2.D.kp.size
  clear h2 k2
  have D2 := Lib.hid (disk10_any H2.out)
  have FRM := Lib.hid (fun (V : World) (kk : Keeps w2 V) => frames_any (H2.out.keep kk))
  have hdi : (Tryz.prog.info? 102).isSome = true := by kernel_rfl
  obtain ⟨j, hj⟩ := Option.isSome_iff_exists.1 hdi
  have nq := fun (V : World) => Lib.run_neq_ptr_same (P := Tryz.prog) (w := V) ⟨B.db, 0, none⟩ Tryz.underlying25 hj
  clear hdi hj
  have hfl : ((newPl wkD 2).fr.length : Int) = 2 := rfl
  rw [hfl] at FRM
  clear hfl
  go_wp2_with fail
  refine D2.out.mono ?_
  rintro e w3 ⟨rfl, k3⟩
  have K3 := Lib.hid k3
  clear k3
  go_wp2_with fail
  refine (FRM.out _ K3.out).mono ?_
  rintro e w4 ⟨rfl, k4⟩
  have H4 := Lib.hid (H2.out.keep (keeps_trans K3.out k4))
  have KP4 : Hid (w.heap.size ≤ w4.heap.size) := Lib.hid H4.out.D.kp.size
  have C4 := Lib.hid (create10_any H4.out HZ.out [97] (by decide))
  rw [strA10, wk10_a] at C4
  clear k4
  go_wp2_with fail
  refine C4.out.mono ?_
  rintro e w5 ⟨rfl, Fd5, Fp5, X5, sl5, h5, -⟩
  have hb5 : Bnd 65536 wkP1.fr := (new_ok wkD ⟨by decide, by decide⟩).2.1.more (by decide)
  have ht5 : Txt wkP1.fr := new_txt wkD 2
  have kb := keeps_alloc w5 (.cells #[.int .u8 7] 5)
  have B5 : Bs (w5.alloc (.cells #[.int .u8 7] 5)) (some ⟨w5.heap.size, 0, none⟩) [7] := At.new w5 (cel [7]) 5 _ (by simp)
  have C5 := Lib.hid (write10_any PK (h5.keep kb) HZ.out HS.out hb5 (by decide) (by decide) (by rw [show (createPl (newPl wkD 2) [97]).1.mostR = 0 from wk10_g]; decide) [97] (by decide) 0 ⟨by decide, by decide⟩ (some ⟨w5.heap.size, 0, none⟩) 1 1 [7] rfl B5 (fun ad h hF => by cases h; exact Nat.lt_irrefl _ (h5.below _ hF)) (fun h => by cases h) (by decide))
  have BN := Lib.hid (show Bnd 65537 wkP2.fr ∧ Txt wkP2.fr from ⟨(write_well (K.ok h5.D.D) h5.ok [97] 0 [7]).bnd 65536 hb5 (by decide), write_txt ht5 [97] 0 [7]⟩)
  rw [strA10, show (createPl (newPl wkD 2) [97]).1 = wkP1 from rfl, wk10_b] at C5
  clear h5 hb5 ht5 kb B5
  go_wp2_with fail
  refine C5.out.mono ?_
  rintro e w6 ⟨rfl, Fd6, Fp6, X6, sl6, h6, -⟩
  have C6 := Lib.hid (read10_any PK h6 HZ.out HS.out BN.out.1 (by decide) (by decide) (by rw [show (writePl wkP1 [97] 0 [7]).1.mostR = 1 from wk10_h]; decide) BN.out.2 [97] (by decide) 0 ⟨by decide, by decide⟩)
  rw [strA10, show (writePl wkP1 [97] 0 [7]).1 = wkP2 from rfl, wk10_c, wk10_d] at C6
  clear h6
  go_wp2_with fail
  refine C6.out.mono ?_
  rintro e w7 ⟨v, rfl, o7, Fd7, Fp7, X7, sl7, h7, -, -⟩
  have C7 := Lib.hid (held_any h7)
  rw [show (readPl wkP2 [97] 0).1 = wkP3 from rfl, wk10_e, wk10_f] at C7
  have K7 := Lib.hid h7.D.kp
  have O7 := Lib.hid o7
  obtain ⟨A7, c7, rfl, -⟩ := o7.form
  clear h7 o7
  go_wp2_with fail
  refine C7.out.mono ?_
  rintro e w8 ⟨rfl, k8⟩
  obtain ⟨g, hg, hcell, -⟩ := (O7.out.keep k8).cell (j := 0) (by decide)
  subst hg
  have hcell' : w8.cell? ⟨g, 0, none⟩ = some (.int .u8 7) := hcell
  have KK := Lib.hid (keeps_trans K7.out k8)
  clear hcell k8
  go_wp2_with fail
  go_ret
  exact ⟨rfl, KK.out⟩
end Go.Proofs.YtamboappeahgpaaGreatDoor
