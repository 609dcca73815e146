/- Package pool: frames emptied, dirty or not. -/
import Derived.Test.YtmholhjdpkfleaaDoorQPoolBa
import Derived.Test.YtmholhjdpkfleaaDoorQLawDisk
import Derived.Test.YtmholhjdpkfleaaDoorQPoolNil
import Derived.Test.YtmholhjdpkfleaaDoorQPoolMath
namespace Go.Proofs.YtmholhjdpkfleaaDoor
open Go.RowKit
set_option linter.unusedSimpArgs false
set_option linter.unusedVariables false
set_option maxRecDepth 100000

section
variable {w w' : World} {B : PB} {X : PX} {Fp : Nat → Prop} {sl sl' : List (Option Fx)} {dl : List (List UInt8 × List Nat)} {t t' : PT} {W : List ((List UInt8 × Nat) × Nat)} {bk : List UInt8 → Nat → Nat}
/-- the pool's own blocks, but for the dirty rows -/
structure Mid (w : World) (B : PB) (sl : List (Option Fx)) (t : PT) (W : List ((List UInt8 × Nat) × Nat)) (bk : List UInt8 → Nat → Nat) : Prop where
  box : Box w B.pb 93 (plC B sl.length t)
  row : Box w B.gr 75 (rowC sl).toArray
  wher : MapW plV dpt w B.wb W
  look : ∀ nm k, lookM W (nm, k) = if some (nm, k) ∈ keysOf (frs sl) then some (bk nm k) else none
  one : One (frs sl)
  most : sl.length ≤ 4096
theorem PIn.mid (h : PIn w B X Fp sl dl t) : Mid w B sl t X.W X.bk := ⟨h.box, h.row, h.wher, h.look, h.one, h.most⟩
theorem keys_none (one : One (frs sl)) {i : Nat} {x : Fx} (hx : sl[i]? = some (some x)) (nm : List UInt8) (k : Nat) : some (nm, k) ∈ keysOf (frs (sl.set i none)) ↔ some (nm, k) ∈ keysOf (frs sl) ∧ (nm, k) ≠ (x.f.name, x.f.k) := by
  rw [frs_set]
  constructor
  · intro hm
    refine ⟨keys_set_none hm, fun e => ?_⟩
    obtain ⟨j, f, hf, e1, e2⟩ := mem_keys.1 hm
    rw [Option.map_none, List.getElem?_set] at hf
    split at hf
    · split at hf <;> simp at hf
    · rename_i hne
      obtain ⟨e3, e4⟩ := Prod.mk.inj e
      refine hne (one i j (nm, k) ?_ ?_)
      · rw [key_at (frs_of hx), e3, e4]
      · rw [key_at hf, e1, e2]
  · rintro ⟨h1, h2⟩
    exact keys_set_other (frs_of hx) none h1 h2
set_option maxHeartbeats 8000000 in
theorem empty_mid (h : Mid w B sl t W bk) {i : Nat} {x : Fx} (hx : sl[i]? = some (some x)) (hF : Box w x.blk 81 x.cells) {rn : Nat} (hrn : t.rn = rn + 1) (hrm : t.rn ≤ t.rm) (hbig : t.rm ≤ 1000000) :
    Calls Tryd.prog 64 #[.pointer (some ⟨B.pb, 0, none⟩), .int .i64 (i : Int)] w fun e w' => e = .returned (.tuple #[]) ∧ Only w w' (fun c => c = B.pb ∨ c = B.gr ∨ c = B.wb) ∧ ∃ W', Mid w' B (sl.set i none) { t with rn := rn } W' bk := by
  have hil := (List.getElem?_eq_some_iff.1 hx).1
  have p1 : w.cell? ⟨B.pb, 1, none⟩ = some (.slice (some ⟨B.gr, 0, none⟩) sl.length sl.length) := h.box.cell 1 rfl
  have p2 : w.cell? ⟨B.pb, 2, none⟩ = some (.map (some B.wb)) := h.box.cell 2 rfl
  have r1 : w.cell? ⟨B.gr, i, none⟩ = some (.pointer (some ⟨x.blk, 0, none⟩)) := h.row.cell i (rowC_get hx)
  have q0 : w.cell? ⟨x.blk, 0, none⟩ = some (.string (str x.f.name)) := hF.cell 0 rfl
  have q1 : w.cell? ⟨x.blk, 1, none⟩ = some (.int .i64 (x.f.k : Int)) := hF.cell 1 rfl
  obtain ⟨w1, d1, M1, O1⟩ := run_delV (P := Tryd.prog) framesT (h.wher.keep (keeps_drew w)) (x.f.name, x.f.k) 0
  have nb : B.pb ≠ B.wb := fun e => h.wher.ne h.box e
  have ng : B.gr ≠ B.wb := fun e => h.wher.ne h.row e
  have npg : B.pb ≠ B.gr := cells_ne h.box h.row (by decide)
  have b1 : Box w1 B.pb 93 (plC B sl.length t) := (O1.block _ h.box.lt nb).trans h.box
  have g1 : Box w1 B.gr 75 (rowC sl).toArray := (O1.block _ h.row.lt ng).trans h.row
  have P1 : w1.cell? ⟨B.pb, 1, none⟩ = some (.slice (some ⟨B.gr, 0, none⟩) sl.length sl.length) := b1.cell 1 rfl
  have fg := g1.frozen i
  have rc : w1.cell? ⟨B.gr, i, none⟩ = some (.pointer (some ⟨x.blk, 0, none⟩)) := g1.cell i (rowC_get hx)
  have b2 : Box (w1.setCell ⟨B.gr, i, none⟩ (.pointer none)) B.pb 93 (plC B sl.length t) := b1.far (p := ⟨B.gr, i, none⟩) (show B.pb ≠ B.gr from npg) _
  have AD := Lib.hid (add_any (w1.setCell ⟨B.gr, i, none⟩ (.pointer none)) B.pb 5 t.rn t.rm rn (-1) (plC B sl.length t) (by decide) b2 rfl rfl (by omega) (by omega))
  have hmx : max t.rm rn = t.rm := by omega
  rw [hmx] at AD
  have UP := Lib.hid (fun (w3 : World) (hb : Box w3 B.pb 93 (((plC B sl.length t).setIfInBounds 5 (.int .i64 (rn : Int))).setIfInBounds (5 + 1) (.int .i64 (t.rm : Int)))) (ho : Only (w1.setCell ⟨B.gr, i, none⟩ (.pointer none)) w3 (fun c => c = B.pb)) => show Only w w3 (fun c => c = B.pb ∨ c = B.gr ∨ c = B.wb) ∧ ∃ W', Mid w3 B (sl.set i none) { t with rn := rn } W' bk from by
    have hO : Only w w3 (fun c => c = B.pb ∨ c = B.gr ∨ c = B.wb) :=
      (((show Only w w1 (fun c => c = B.wb) from ⟨O1.os, O1.tape, O1.output, O1.size, O1.block⟩).more (fun _ e => .inr (.inr e))).trans (only_set w1 ⟨B.gr, i, none⟩ (.pointer none)) (fun i e => .inl (.inr (.inl e)))).trans ho (fun i e => .inl (.inl e))
    have hrow : Box w3 B.gr 75 ((rowC sl).toArray.setIfInBounds i (.pointer none)) := (ho.block _ (by simpa using g1.lt) (fun e => npg e.symm)).trans (g1.set i (.pointer none))
    have M2 : MapW plV dpt w3 B.wb (delM W (x.f.name, x.f.k)) := (M1.same (w' := w1.setCell ⟨B.gr, i, none⟩ (.pointer none)) (Below.heap_setCell _ _ _ _ (fun e => ng e.symm))).same (ho.block _ (by simpa using M1.lt) (fun e => nb e.symm))
    refine ⟨hO, _, by rw [List.length_set]; exact hb, ?_, M2, fun nm k => ?_, by rw [frs_set]; exact one_set_none h.one i, by rw [List.length_set]; exact h.most⟩
    · rw [rowC_set]
      show Box w3 B.gr _ ((rowC sl).set i (.pointer none)).toArray
      rw [← List.setIfInBounds_toArray]
      exact hrow
    · rw [lookM_del, h.look]
      by_cases e : (nm, k) = (x.f.name, x.f.k)
      · rw [if_pos e, if_neg (fun hm => ((keys_none h.one hx nm k).1 hm).2 e)]
      · rw [if_neg e]
        by_cases e2 : some (nm, k) ∈ keysOf (frs sl)
        · rw [if_pos e2, if_pos ((keys_none h.one hx nm k).2 ⟨e2, e⟩)]
        · rw [if_neg e2, if_neg (fun hm => e2 ((keys_none h.one hx nm k).1 hm).1)])
  have hii : (i : Int) < (sl.length : Int) := by omega
  have hni : (sl.length : Int) ≤ 4096 := by have := h.most; omega
  unfold plV at d1
  simp only at d1
  generalize sl.length = n at *
  generalize str x.f.name = sv at *
  generalize hkk : x.f.k = k at *
  generalize x.blk = xb at *
  clear h hF hx hrn hrm hmx O1 M1 b1 g1 b2
  go_enter Tryd.func64, Tryd.ntmps64
  go_wp2_with fail
  go_region
  go_wp2_with fail
  refine AD.out.mono ?_
  rintro e w3 ⟨rfl, hb3, ho3⟩
  obtain ⟨U1, U2⟩ := UP.out _ hb3 ho3
  go_wp2_with fail
  go_returns
  exact ⟨rfl, U1, U2⟩
theorem delM_map {κ α β : Type} [DecidableEq κ] (f : κ × α → β) (l : List (κ × α)) (k : κ) : delM (l.map fun e => (e.1, f e)) k = (delM l k).map fun e => (e.1, f e) := by
  unfold delM
  rw [List.filter_map]
  rfl
/-- a file's frames are gone, and its dirty row -/
theorem PIn.dropped (h : PIn w B X Fp sl dl t) (hlt : ∀ i, Fp i → i < w'.heap.size) (ho : Only w w' (fun c => c = B.pb ∨ c = B.gr ∨ c = B.wb ∨ c = B.dm)) (m : Mid w' B sl' t' W X.bk) {nm : List UInt8}
    (dirt : MapW strW sliV w' B.dm (delM (dl.map fun e => (e.1, ((X.R e.1).1, e.2.length, (X.R e.1).2))) nm)) (hsl : ∀ (j : Nat) (y : Fx), sl'[j]? = some (some y) ↔ sl[j]? = some (some y) ∧ y.f.name ≠ nm) :
    PIn w' B ⟨X.R, X.bk, W⟩ Fp sl' (delM dl nm) t' := by
  have sm : ∀ {j : Nat}, Fp j → j ≠ B.pb → j ≠ B.gr → j ≠ B.wb → j ≠ B.dm → w'.heap[j]? = w.heap[j]? := fun hj h1 h2 h3 h4 => ho.block _ (h.lt _ hj) (fun e => by rcases e with e | e | e | e; exact h1 e; exact h2 e; exact h3 e; exact h4 e)
  have smc : ∀ {j : Nat} {c : Array Value} {T : TypeId} {f : Nat × Nat}, Fp j → w.heap[j]? = some (.cells c T f) → j ≠ B.pb → j ≠ B.gr → w'.heap[j]? = w.heap[j]? := fun hj hc h1 h2 => sm hj h1 h2 (h.notwb hc) (h.notdm hc)
  have hmem : ∀ {nm' : List UInt8} {ks : List Nat}, (nm', ks) ∈ delM dl nm → (nm', ks) ∈ dl ∧ nm' ≠ nm := fun hm => by
    unfold delM at hm
    rw [List.mem_filter] at hm
    exact ⟨hm.1, by simpa using hm.2⟩
  refine ⟨m.box, m.row, fun i x hx => ?_, fun i j x y hx hy e => h.apart i j x y ((hsl i x).1 hx).1 ((hsl j y).1 hy).1 e, fun i x hx => h.bk i x ((hsl i x).1 hx).1, m.wher, m.look, ?_, fun nm' ks he => ?_, fun nm' ks he => h.rowne nm' ks (hmem he).1, fun a ks b ks' ha hb => h.rowap a ks b ks' (hmem ha).1 (hmem hb).1, fun nm' k hk => ?_, h.dlok.del nm, m.one, ⟨h.inP.pb, h.inP.gr, h.inP.wb, h.inP.dm, fun i x hx => h.inP.fr i x ((hsl i x).1 hx).1, fun nm' ks he => h.inP.row nm' ks (hmem he).1⟩, hlt, m.most, h.two⟩
  · obtain ⟨hx, -⟩ := (hsl i x).1 hx
    obtain ⟨p1, p2, p3⟩ := h.inP.fr i x hx
    have F := h.fr i x hx
    refine F.same (smc p1 F.box (cells_ne F.box h.box (by decide)) (cells_ne F.box h.row (by decide))) (smc p2 F.file (cells_ne F.file h.box (by decide)) (cells_ne F.file h.row (by decide))) (fun g hg => ?_)
    obtain ⟨c, f, hc⟩ := F.text.cells hg
    exact smc (p3 g hg) hc (cells_ne hc h.box (by decide)) (cells_ne hc h.row (by decide))
  · rw [delM_map] at dirt
    exact dirt
  · obtain ⟨he, -⟩ := hmem he
    refine (h.rows nm' ks he).same (fun g hg => ?_)
    rw [rowV_block] at hg
    obtain ⟨c, hc⟩ := h.rowcell he hg
    exact smc (h.inP.row nm' ks he g hg) hc (cells_ne hc h.box (by decide)) (fun e => h.rowne nm' ks he (by rw [← e]; exact hg))
  · rw [dirtyOf_del] at hk
    split at hk
    · simp at hk
    · rename_i hne
      obtain ⟨i, f, hf, e1, e2⟩ := mem_keys.1 (h.held nm' k hk)
      obtain ⟨x, hx, rfl⟩ := frs_at hf
      exact mem_keys.2 ⟨i, x.f, frs_of ((hsl i x).2 ⟨hx, by rw [e1]; exact hne⟩), e1, e2⟩
end
end Go.Proofs.YtmholhjdpkfleaaDoor
/- Package pool: Drop. -/
namespace Go.Proofs.YtmholhjdpkfleaaDoor
open Go.RowKit
set_option linter.unusedSimpArgs false
set_option linter.unusedVariables false
set_option maxRecDepth 100000

/-- the frames of a file, by their numbers, among the first j -/
def heldN (fr : List (Option Frm)) (nm : List UInt8) (j : Nat) : List Nat := (List.range j).filter fun i => isOf nm ((fr[i]?).getD none)
theorem heldN_succ (fr : List (Option Frm)) (nm : List UInt8) (j : Nat) : heldN fr nm (j + 1) = if isOf nm ((fr[j]?).getD none) then heldN fr nm j ++ [j] else heldN fr nm j := by
  unfold heldN
  rw [List.range_succ, List.filter_append]
  split
  · rename_i h; simp [h]
  · rename_i h; simp [h]
theorem heldN_len (fr : List (Option Frm)) (nm : List UInt8) (j : Nat) : (heldN fr nm j).length ≤ j := by
  have := List.length_filter_le (fun i => isOf nm ((fr[i]?).getD none)) (List.range j)
  rw [List.length_range] at this
  exact this
theorem mem_heldN {fr : List (Option Frm)} {nm : List UInt8} {j i : Nat} : i ∈ heldN fr nm j ↔ i < j ∧ isOf nm ((fr[i]?).getD none) = true := by
  unfold heldN
  rw [List.mem_filter, List.mem_range]
theorem heldN_nodup (fr : List (Option Frm)) (nm : List UInt8) (j : Nat) : (heldN fr nm j).Nodup := List.Nodup.sublist List.filter_sublist List.nodup_range
def goneN (sl : List (Option Fx)) (S : List Nat) : List (Option Fx) := sl.mapIdx fun i o => if i ∈ S then none else o
theorem goneN_get (sl : List (Option Fx)) (S : List Nat) (i : Nat) : (goneN sl S)[i]? = (sl[i]?).map fun o => if i ∈ S then none else o := List.getElem?_mapIdx
theorem goneN_nil (sl : List (Option Fx)) : goneN sl [] = sl := by
  apply List.ext_getElem?
  intro i
  rw [goneN_get]
  cases sl[i]? <;> simp
theorem goneN_snoc (sl : List (Option Fx)) (S : List Nat) (i : Nat) : goneN sl (S ++ [i]) = (goneN sl S).set i none := by
  apply List.ext_getElem?
  intro j
  rw [goneN_get, List.getElem?_set, goneN_get]
  by_cases e : i = j
  · subst e
    rw [if_pos rfl]
    unfold goneN
    rw [List.length_mapIdx]
    cases e2 : sl[i]? with
    | none => rw [if_neg (by have := List.getElem?_eq_none_iff.1 e2; omega)]; rfl
    | some o => rw [if_pos (List.getElem?_eq_some_iff.1 e2).1]; simp
  · rw [if_neg e]
    cases sl[j]? with
    | none => rfl
    | some o => simp [Ne.symm e]
theorem goneN_len (sl : List (Option Fx)) (S : List Nat) : (goneN sl S).length = sl.length := List.length_mapIdx
theorem goneN_held (sl : List (Option Fx)) (nm : List UInt8) (j : Nat) (y : Fx) : (goneN sl (heldN (frs sl) nm sl.length))[j]? = some (some y) ↔ sl[j]? = some (some y) ∧ y.f.name ≠ nm := by
  rw [goneN_get]
  cases e : sl[j]? with
  | none => simp
  | some o =>
    have hj := (List.getElem?_eq_some_iff.1 e).1
    have hf : (frs sl)[j]? = some (o.map Fx.f) := by rw [frs_get, e]; rfl
    have hm : j ∈ heldN (frs sl) nm sl.length ↔ isOf nm (o.map Fx.f) = true := by
      rw [mem_heldN, hf]
      exact ⟨fun h => h.2, fun h => ⟨hj, h⟩⟩
    cases o with
    | none => simp
    | some x =>
      simp only [Option.map_some, Option.some.injEq]
      have hx : isOf nm (some x.f) = true ↔ x.f.name = nm := by simp [isOf]
      by_cases hn : x.f.name = nm
      · rw [if_pos (hm.2 (hx.2 hn))]
        constructor
        · intro h; cases h
        · rintro ⟨rfl, h⟩; exact absurd hn h
      · rw [if_neg (fun h => hn (hx.1 (hm.1 h)))]
        constructor
        · intro h
          obtain rfl := Option.some.inj h
          exact ⟨rfl, hn⟩
        · rintro ⟨rfl, -⟩; rfl
theorem goneN_frs (sl : List (Option Fx)) (nm : List UInt8) : frs (goneN sl (heldN (frs sl) nm sl.length)) = dropF (frs sl) nm := by
  apply List.ext_getElem?
  intro j
  rw [frs_get, goneN_get, drop_get, frs_get]
  cases e : sl[j]? with
  | none => rfl
  | some o =>
    have hj := (List.getElem?_eq_some_iff.1 e).1
    have hf : (frs sl)[j]? = some (o.map Fx.f) := by rw [frs_get, e]; rfl
    have hm : j ∈ heldN (frs sl) nm sl.length ↔ isOf nm (o.map Fx.f) = true := by
      rw [mem_heldN, hf]
      exact ⟨fun h => h.2, fun h => ⟨hj, h⟩⟩
    simp only [Option.map_some]
    by_cases h : j ∈ heldN (frs sl) nm sl.length
    · rw [if_pos h, if_pos (hm.1 h)]; rfl
    · rw [if_neg h, if_neg (fun h2 => h (hm.2 h2))]
def natC (l : List Nat) : List Value := intC (l.map fun (i : Nat) => (i : Int))
theorem natC_app (l : List Nat) (i : Nat) : natC (l ++ [i]) = natC l ++ [.int .i64 (i : Int)] := by simp [natC, intC]
theorem natC_len (l : List Nat) : (natC l).length = l.length := by simp [natC, intC]
section
variable {K : DiskOk} {w0 w w' : World} {B : PB} {X X' : PX} {Fd Fp Fd' Fp' : Nat → Prop} {sl sl' : List (Option Fx)} {p p' : Pst}
end
end Go.Proofs.YtmholhjdpkfleaaDoor
/- What is done with a pool: the state and the answers as a function; 'does' answers so. -/
namespace Go.Proofs.YtmholhjdpkfleaaDoor
open Go.RowKit
set_option linter.unusedSimpArgs false
set_option linter.unusedVariables false
set_option maxRecDepth 100000

/-- the state, and what is told: bytes, a number, an error -/
def doP (p : Pst) (o : Op10) : Pst × List UInt8 × Nat × Nat :=
  if o.kind = 0 then ((createPl p o.name).1, [], 0, (createPl p o.name).2)
  else if o.kind = 1 then ((dropPl p o.name).1, [], 0, (dropPl p o.name).2)
  else if o.kind = 2 then (p, [], (if (findP p o.name).2 = 0 then (findP p o.name).1 else 0), (findP p o.name).2)
  else if o.kind = 3 then ((pinPl p o.name o.k).1, (pinPl p o.name o.k).2.1, 0, (pinPl p o.name o.k).2.2)
  else if o.kind = 4 then ((unpinPl p o.name o.k).1, [], 0, (unpinPl p o.name o.k).2)
  else if o.kind = 5 then ((readPl p o.name o.k).1, (readPl p o.name o.k).2.1, 0, (readPl p o.name o.k).2.2)
  else if o.kind = 6 then ((writePl p o.name o.k o.b).1, o.b, 0, (writePl p o.name o.k o.b).2)
  else if o.kind = 7 then ((flushPl p o.name).1, [], 0, (flushPl p o.name).2)
  else if o.kind = 8 then ({ p with d := (quotaS p.d o.k).1 }, [], 0, (quotaS p.d o.k).2)
  else if o.kind = 9 then ({ p with d := (armS p.d o.k).1 }, [], 0, (armS p.d o.k).2)
  else if o.kind = 10 then ({ p with d := (onS p.d []).1 }, [], 0, (onS p.d []).2)
  else if o.kind = 11 then ({ p with d := (flipS p.d o.name o.k 1).1 }, [], 0, (flipS p.d o.name o.k 1).2)
  else (p, [], 0, 0)
section
variable {K : DiskOk} {w0 w w' : World} {B : PB} {X X' : PX} {Fd Fp Fd' Fp' : Nat → Prop} {sl sl' : List (Option Fx)} {p p' : Pst}
/-- a pool of this state, made of these blocks -/
def PJ (K : DiskOk) (w0 : World) (B : PB) (q : Pst) (S : Nat → Prop) (w : World) : Prop := ∃ Fd Fp X sl, S = Both Fd Fp ∧ PHave K w0 w B Fd Fp X sl q
theorem stay_pool (K : DiskOk) (w0 : World) (B : PB) (q : Pst) : Stay w0 (PJ K w0 B q) := by
  refine ⟨?_, ?_⟩
  · rintro S w w' T ⟨Fd, Fp, X, sl, rfl, h⟩ o hT
    refine ⟨Fd, Fp, X, sl, rfl, ⟨K.same h.D.D (fun i hi => o.block i (K.lt h.D.D i hi) (fun e => (hT i e).2 (.inl hi))) o.size, h.D.low, Below.trans h.D.kp (o.below (fun i hi => (hT i hi).1) h.D.kp.size)⟩, h.I.same (fun i hi => o.block i (h.I.lt i hi) (fun e => (hT i e).2 (.inr hi))) o.size, h.fr, h.ok, h.low, h.ap⟩
  · rintro S w ⟨Fd, Fp, X, sl, rfl, h⟩
    exact h.below
theorem left_pj {F : Nat → Prop} {q : Pst} (h : Left K w0 w w' B F q) : ∃ S', PJ K w0 B q S' w' ∧ Turns w w' F S' := by
  obtain ⟨Fd', Fp', X', sl', h1, t⟩ := h
  exact ⟨_, ⟨Fd', Fp', X', sl', rfl, h1⟩, t⟩
theorem disk_pj (h : PHave K w0 w B Fd Fp X sl p) {f : FuncId} {xs : Array Value} {r : Ds × Nat} (C : Calls Tryd.prog f xs w fun e w' => e = .returned (.int .i64 (r.2 : Int)) ∧ ∃ F', K.D w' B.db F' r.1 ∧ Turns w w' Fd F') :
    Calls Tryd.prog f xs w fun e w' => e = .returned (.int .i64 (r.2 : Int)) ∧ ∃ S', PJ K w0 B { p with d := r.1 } S' w' ∧ Turns w w' (Both Fd Fp) S' := by
  refine (h.D.went (s' := r.1) (E := r.2) rfl C).mono ?_
  rintro e w' ⟨rfl, F', D', t'⟩
  obtain ⟨g1, g2⟩ := h.disk D' t'
  exact ⟨rfl, _, ⟨F', Fp, X, sl, rfl, g1⟩, g2⟩
theorem text_pj {F : Nat → Prop} {q : Pst} {l : List UInt8} {E : Nat} {e : Ending} (h : TextV K w0 w B F q l E e w') : ∃ v, e = .returned (.tuple #[v, .int .i64 (E : Int)]) ∧ Own w' w.heap.size 5 1 v l.length (cel l) ∧ ∃ S', PJ K w0 B q S' w' ∧ Turns w w' F S' ∧ (∀ g, v.ownBlock = some g → ¬ S' g) := by
  obtain ⟨v, rfl, o, Fd', Fp', X', sl', h1, t, n⟩ := h
  exact ⟨v, rfl, o, _, ⟨Fd', Fp', X', sl', rfl, h1⟩, t, n⟩
/-- what holds of a pool that is used -/
structure FitP (p : Pst) (M : Nat) : Prop where
  b : Bnd M p.fr
  t : Txt p.fr
  R : p.mostR ≤ 100000
  P : p.mostP ≤ 100000
theorem textF_txt {fr : List (Option Frm)} (h : Txt fr) (i : Nat) : (textF fr i).length ≤ 16777216 := by
  unfold textF
  cases e : fr[i]? with
  | none => simp
  | some o =>
    cases o with
    | none => simp
    | some f => exact h i f e
end
end Go.Proofs.YtmholhjdpkfleaaDoor
/- What each call of a pool keeps. -/
namespace Go.Proofs.YtmholhjdpkfleaaDoor
open Go.RowKit
set_option linter.unusedSimpArgs false
set_option linter.unusedVariables false
set_option maxRecDepth 100000

theorem iteR {α : Type} {R : α → Prop} {c : Prop} [Decidable c] {a b : α} (h1 : c → R a) (h2 : ¬ c → R b) : R (if c then a else b) := by
  by_cases h : c
  · rw [if_pos h]; exact h1 h
  · rw [if_neg h]; exact h2 h
theorem doP_all {p : Pst} {o : Op10} {R : Pst → Prop} (hd : R (dropPl p o.name).1) (hpin : R (pinPl p o.name o.k).1) (hun : R (unpinPl p o.name o.k).1) (hre : R (readPl p o.name o.k).1) (hwr : R (writePl p o.name o.k o.b).1) (hfl : R (flushPl p o.name).1) (hdk : ∀ d, R { p with d := d }) : R (doP p o).1 := by
  show (fun q : Pst × List UInt8 × Nat × Nat => R q.1) (doP p o)
  unfold doP
  refine iteR (R := fun q : Pst × List UInt8 × Nat × Nat => R q.1) (fun _ => hdk _) (fun _ => ?_)
  refine iteR (R := fun q : Pst × List UInt8 × Nat × Nat => R q.1) (fun _ => hd) (fun _ => ?_)
  refine iteR (R := fun q : Pst × List UInt8 × Nat × Nat => R q.1) (fun _ => hdk p.d) (fun _ => ?_)
  refine iteR (R := fun q : Pst × List UInt8 × Nat × Nat => R q.1) (fun _ => hpin) (fun _ => ?_)
  refine iteR (R := fun q : Pst × List UInt8 × Nat × Nat => R q.1) (fun _ => hun) (fun _ => ?_)
  refine iteR (R := fun q : Pst × List UInt8 × Nat × Nat => R q.1) (fun _ => hre) (fun _ => ?_)
  refine iteR (R := fun q : Pst × List UInt8 × Nat × Nat => R q.1) (fun _ => hwr) (fun _ => ?_)
  refine iteR (R := fun q : Pst × List UInt8 × Nat × Nat => R q.1) (fun _ => hfl) (fun _ => ?_)
  refine iteR (R := fun q : Pst × List UInt8 × Nat × Nat => R q.1) (fun _ => hdk _) (fun _ => ?_)
  refine iteR (R := fun q : Pst × List UInt8 × Nat × Nat => R q.1) (fun _ => hdk _) (fun _ => ?_)
  refine iteR (R := fun q : Pst × List UInt8 × Nat × Nat => R q.1) (fun _ => hdk _) (fun _ => ?_)
  refine iteR (R := fun q : Pst × List UInt8 × Nat × Nat => R q.1) (fun _ => hdk _) (fun _ => ?_)
  exact hdk p.d
theorem doP_well {p : Pst} (hd : DsOk p.d) (h : PstOk p) (o : Op10) : Well p (doP p o).1 :=
  doP_all (drop_well h _) (pin_well hd h _ _) (unpin_well h _ _) (read_well hd h _ _) (write_well hd h _ _ _) (flush_well h _) (fun d => ⟨h.disk d, rfl, fun M b _ => b.more (Nat.le_succ _)⟩)
theorem doP_txt {p : Pst} (hd : DsOk p.d) (h : Txt p.fr) (o : Op10) : Txt (doP p o).1.fr :=
  doP_all (R := fun q => Txt q.fr) (drop_txt h _) (pin_txt hd h _ _) (unpin_txt h _ _) (read_txt hd h _ _) (write_txt h _ _ _) (flush_txt h _) (fun d => h)
theorem doP_grow {p : Pst} (h : PstOk p) (o : Op10) : Grow p (doP p o).1 :=
  doP_all (drop_grow _ _) (pin_grow h _ _) (unpin_grow _ _) (read_grow h _ _) (write_grow h _ _ _) (flush_grow _ _) (fun d => grow_of rfl rfl rfl)
theorem doP_sum {p : Pst} (h : PstOk p) (o : Op10) : sumP (doP p o).1.fr + (if o.kind = 4 ∧ (doP p o).2.2.2 = 0 then 1 else 0) = sumP p.fr + (if o.kind = 3 ∧ (doP p o).2.2.2 = 0 then 1 else 0) := by
  by_cases h3 : o.kind = 3
  · have hd : doP p o = ((pinPl p o.name o.k).1, (pinPl p o.name o.k).2.1, 0, (pinPl p o.name o.k).2.2) := by unfold doP; rw [h3]; rfl
    rw [hd, if_neg (by omega)]
    have := pin_sum h o.name o.k
    simp only [h3, true_and, Nat.add_zero]
    exact this
  · by_cases h4 : o.kind = 4
    · have hd : doP p o = ((unpinPl p o.name o.k).1, [], 0, (unpinPl p o.name o.k).2) := by unfold doP; rw [h4]; rfl
      rw [hd]
      have := unpin_sum (p := p) o.name o.k
      simp only [h4, true_and]
      rw [this]
      simp
    · rw [if_neg (fun e => h4 e.1), if_neg (fun e => h3 e.1), Nat.add_zero, Nat.add_zero]
      show (fun q : Pst × List UInt8 × Nat × Nat => sumP q.1.fr = sumP p.fr) (doP p o)
      unfold doP
      refine iteR (R := fun q : Pst × List UInt8 × Nat × Nat => sumP q.1.fr = sumP p.fr) (fun e => rfl) (fun _ => ?_)
      refine iteR (R := fun q : Pst × List UInt8 × Nat × Nat => sumP q.1.fr = sumP p.fr) (fun e => dropPl_sum p o.name) (fun _ => ?_)
      refine iteR (R := fun q : Pst × List UInt8 × Nat × Nat => sumP q.1.fr = sumP p.fr) (fun e => rfl) (fun _ => ?_)
      refine iteR (R := fun q : Pst × List UInt8 × Nat × Nat => sumP q.1.fr = sumP p.fr) (fun e => absurd e h3) (fun _ => ?_)
      refine iteR (R := fun q : Pst × List UInt8 × Nat × Nat => sumP q.1.fr = sumP p.fr) (fun e => absurd e h4) (fun _ => ?_)
      refine iteR (R := fun q : Pst × List UInt8 × Nat × Nat => sumP q.1.fr = sumP p.fr) (fun e => read_sum h o.name o.k) (fun _ => ?_)
      refine iteR (R := fun q : Pst × List UInt8 × Nat × Nat => sumP q.1.fr = sumP p.fr) (fun e => write_sum h o.name o.k o.b) (fun _ => ?_)
      refine iteR (R := fun q : Pst × List UInt8 × Nat × Nat => sumP q.1.fr = sumP p.fr) (fun e => flush_sum p o.name) (fun _ => ?_)
      refine iteR (R := fun q : Pst × List UInt8 × Nat × Nat => sumP q.1.fr = sumP p.fr) (fun e => rfl) (fun _ => ?_)
      refine iteR (R := fun q : Pst × List UInt8 × Nat × Nat => sumP q.1.fr = sumP p.fr) (fun e => rfl) (fun _ => ?_)
      refine iteR (R := fun q : Pst × List UInt8 × Nat × Nat => sumP q.1.fr = sumP p.fr) (fun e => rfl) (fun _ => ?_)
      refine iteR (R := fun q : Pst × List UInt8 × Nat × Nat => sumP q.1.fr = sumP p.fr) (fun e => rfl) (fun _ => ?_)
      rfl
/-- what is known of a pool behind j things that were done -/
structure Runs (p : Pst) (n j : Nat) : Prop where
  ok : PstOk p
  len : p.fr.length = n
  b : Bnd (65536 + j) p.fr
  t : Txt p.fr
  R : p.mostR ≤ n
  P : p.mostP ≤ p.mostR
  s : sumP p.fr ≤ j
theorem Runs.fit {p : Pst} {n j : Nat} (h : Runs p n j) (hn : n ≤ 4096) : FitP p (65536 + j) := ⟨h.b, h.t, by have := h.R; omega, by have := h.R; have := h.P; omega⟩
theorem Runs.next {p : Pst} {n j : Nat} (h : Runs p n j) (hd : DsOk p.d) (o : Op10) : Runs (doP p o).1 n (j + 1) := by
  have W := doP_well hd h.ok o
  have G := doP_grow h.ok o
  have S := doP_sum h.ok o
  have l := h.len
  have r := h.R
  have g := G.hi
  refine ⟨W.ok, W.len.trans h.len, by have := W.bnd _ h.b (by omega); exact this, doP_txt hd h.t o, by omega, ?_, ?_⟩
  · have h1 := G.pk.2
    have h2 := G.lo
    have h3 := h.P
    have h4 := W.ok.mostR
    have h5 := pin_le_res (doP p o).1.fr
    omega
  · have := h.s
    split at S <;> split at S <;> omega
theorem runs_new (d : Ds) {n : Nat} (h : 1 ≤ n ∧ n ≤ 4096) : Runs (newPl d n) n 0 := by
  obtain ⟨h1, h2, h3⟩ := new_ok d h
  exact ⟨h1, by simp [newPl], h2.more (by omega), new_txt d n, Nat.zero_le _, Nat.le_refl _, by omega⟩
end Go.Proofs.YtmholhjdpkfleaaDoor
