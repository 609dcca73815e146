/- Package pool: soil. -/
import Derived.Test.YtkhfffflegiapaaGreatDoorQPoolRep
namespace Go.Proofs.YtkhfffflegiapaaGreatDoor
open Go.RowKit
set_option linter.unusedSimpArgs false
set_option linter.unusedVariables false
set_option maxRecDepth 100000

section
variable {w w' : World} {B : PB} {X : PX} {Fp : Nat → Prop} {sl : List (Option Fx)} {dl : List (List UInt8 × List Nat)} {t : PT}
/-- nothing is answered; the dirty frames are these now -/
def DTo (w : World) (B : PB) (Fp : Nat → Prop) (sl : List (Option Fx)) (dl' : List (List UInt8 × List Nat)) (t : PT) (e : Ending) (w' : World) : Prop := e = .returned (.tuple #[]) ∧ ∃ X' Fp', PIn w' B X' Fp' sl dl' t ∧ Turns w w' Fp Fp'
theorem dirtyC_ins (X : PX) (nm : List UInt8) (ks : List Nat) (k : Nat) : (dirtyC X nm ks).take (below ks k) ++ dpt (X.bk nm k) :: (dirtyC X nm ks).drop (below ks k) = dirtyC X nm (insK ks k) := by
  unfold dirtyC insK
  rw [List.map_append, List.map_cons, List.map_take, List.map_drop]
theorem dirtyC_len (X : PX) (nm : List UInt8) (ks : List Nat) : (dirtyC X nm ks).length = ks.length := List.length_map _
theorem dirtyC_one (X : PX) (nm : List UInt8) (ks : List Nat) : ∀ u ∈ dirtyC X nm ks, u.oneCell' = true := fun u hu => by
  obtain ⟨k, -, rfl⟩ := List.mem_map.1 hu
  rfl
theorem below_eq_len {l : List Nat} (k : Nat) : below l k ≤ l.length := below_le l k
theorem PRow.lt {v : Value} {xs : List Value} (h : PRow w v xs) {g : Nat} (hg : v.ownBlock = some g) : g < w.heap.size := by
  obtain ⟨c, hc⟩ := h.cells hg
  exact (Array.getElem?_eq_some_iff.1 hc).1
theorem PRow.keep {v : Value} {xs : List Value} (h : PRow w v xs) (k : Keeps w w') : PRow w' v xs := h.same fun g hg => k.block g (h.lt hg)
/-- one file's dirty frames are a new row, and the second map says so -/
theorem PIn.putRow (h : PIn w B X Fp sl dl t) {nm : List UInt8} {ob : Option Nat} (hob : ob = none ∨ ∃ ks, (nm, ks) ∈ dl ∧ ob = (X.R nm).1) {W w4 : World} (hk : Keeps w W) {v' : Value} {ks : List Nat} (hks : ks ≠ []) (hrise : ks.Pairwise (· < ·)) (hheld : ∀ k ∈ ks, some (nm, k) ∈ keysOf (frs sl))
    (hp : PRow w4 v' (dirtyC X nm ks)) (ho : Onto W ob w4 v') (hobl : ∀ g, ob = some g → g < w.heap.size) :
    ∃ g' c' w5, v' = .slice (some ⟨g', 0, none⟩) ks.length c' ∧ (Instr.mapUpdate 93 (.map (some B.dm)) (.string (str nm)) (.slice (some ⟨g', 0, none⟩) ks.length c')).run Tryz.prog w4 = .ok () w5 ∧
      ∃ X' Fp', PIn w5 B X' Fp' sl (putM dl nm ks) t ∧ Turns w w5 Fp Fp' := by
  have hlen := dirtyC_len X nm ks
  rcases hp.form with ⟨-, h0⟩ | ⟨g', cur, rfl, hbx, -, -, -⟩
  · exfalso
    rw [h0] at hlen
    exact hks (List.eq_nil_of_length_eq_zero hlen.symm)
  · rw [hlen] at hp ho ⊢
    have obF : ∀ g, ob = some g → Fp g := fun g hg => by
      rcases hob with e | ⟨ks', he, e⟩
      · rw [e] at hg; cases hg
      · exact h.inP.row nm ks' he g (e.symm.trans hg)
    have obc : ∀ g, ob = some g → ∃ c, w.heap[g]? = some (.cells c 115 (0, 0)) := fun g hg => by
      rcases hob with e | ⟨ks', he, e⟩
      · rw [e] at hg; cases hg
      · exact h.rowcell he (e.symm.trans hg)
    have hw4 : ∀ j, j < w.heap.size → ob ≠ some j → w4.heap[j]? = w.heap[j]? := fun j hj hne => (ho.1.block j (Nat.lt_of_lt_of_le hj hk.size) (fun e => hne e.symm)).trans (hk.block j hj)
    have hs4 : w.heap.size ≤ w4.heap.size := Nat.le_trans hk.size ho.1.size
    have hdm := h.dirt.lt
    have M4 : MapW strW sliV w4 B.dm _ := h.dirt.same (hw4 _ hdm (fun e => by obtain ⟨c, hc⟩ := obc _ e; exact h.notdm hc rfl))
    obtain ⟨w5, r5, M5, O5⟩ := run_putV (P := Tryz.prog) dirtyT M4 nm (some g', ks.length, cur.size)
    rw [← map_put X dl nm (some g') cur.size ks] at M5
    have hw5 : ∀ j, j < w.heap.size → j ≠ B.dm → ob ≠ some j → w5.heap[j]? = w.heap[j]? := fun j hj hd hne => (O5.block j (Nat.lt_of_lt_of_le hj hs4) hd).trans (hw4 j hj hne)
    have hs5 : w.heap.size ≤ w5.heap.size := Nat.le_trans hs4 O5.size
    have hg4 : g' ≠ B.dm := fun e => by
      have := h.dirt.same (hw4 _ hdm (fun e => by obtain ⟨c, hc⟩ := obc _ e; exact h.notdm hc rfl))
      exact this.ne hbx e
    have hp5 : PRow w5 (.slice (some ⟨g', 0, none⟩) ks.length cur.size) (dirtyC X nm ks) := hp.same fun g hg => by
      obtain rfl := Option.some.inj hg
      exact O5.block _ hbx.lt hg4
    have hg' : ∀ g, some g' = some g → (ob = some g ∨ w.heap.size ≤ g) ∧ g < w5.heap.size := fun g hg => by
      obtain rfl := Option.some.inj hg
      refine ⟨?_, Nat.lt_of_lt_of_le hbx.lt O5.size⟩
      rcases ho.2 with e | e
      · exact .inl e.symm
      · exact .inr (Nat.le_trans hk.size (e _ rfl))
    refine ⟨g', cur.size, w5, rfl, r5, _, _, h.dirtyTo hob (fun j hj hd hne => hw5 j (h.lt j hj) hd hne) hg' hs5 (h.dlok.put nm hks hrise) (fun nm' k hk' => ?_) (fun nm' ks' he hne => ?_) (fun ks' he => ?_) M5, ⟨⟨?_, ?_, ?_, hs5, fun j hj hn => ?_⟩, fun j hj => ?_⟩⟩
    · rw [dirtyOf_put] at hk'
      split at hk'
      · rename_i e; rw [e]; exact hheld k hk'
      · exact h.held nm' k hk'
    · rcases mem_putM.1 he with e | e
      · exact absurd (Prod.mk.inj e).1 hne
      · exact e.1
    · rcases mem_putM.1 he with e | e
      · obtain ⟨-, rfl⟩ := Prod.mk.inj e
        exact hp5
      · exact absurd rfl e.2
    · exact O5.os.trans (ho.1.os.trans hk.os)
    · exact O5.tape.trans (ho.1.tape.trans hk.tape)
    · exact O5.output.trans (ho.1.output.trans hk.output)
    · exact hw5 j hj (fun e => hn (by rw [e]; exact h.inP.dm)) (fun e => hn (obF j e))
    · rcases hj with hj | hj
      · exact .inl hj
      · rcases (hg' j hj).1 with e | e
        · exact .inl (obF j e)
        · exact .inr e
theorem insert_any2 (V : World) (v u : Value) (xs : List Value) (i : Nat) (h : PRow V v xs) (hi : i ≤ xs.length) (hm : xs.length ≤ 1000000000) (h1 : ∀ x ∈ xs, x.oneCell' = true) (hu : u.oneCell' = true) :
    Calls Tryz.prog 127 #[v, .int .i64 (i : Int), .slice (some ⟨V.heap.size, 0, none⟩) 1 1] (V.alloc (.cells #[u] 115)) (RowTo (V.alloc (.cells #[u] 115)) v.ownBlock (xs.take i ++ u :: xs.drop i)) :=
  insert_any _ v u xs i V.heap.size (h.keep (keeps_alloc _ _)) hi hm h1 hu (Box.new V _ _) (fun e => by have := h.lt e; omega)
set_option maxHeartbeats 8000000 in
theorem soil_any (h : PIn w B X Fp sl dl t) {i : Nat} {x : Fx} (hx : sl[i]? = some (some x)) :
    Calls Tryz.prog 85 #[.pointer (some ⟨B.pb, 0, none⟩), .pointer (some ⟨x.blk, 0, none⟩)] w (DTo w B Fp sl (soilD dl x.f.name x.f.k) t) := by
  have F := h.fr i x hx
  have hb := h.bk i x hx
  have p3 : w.cell? ⟨B.pb, 3, none⟩ = some (.map (some B.dm)) := h.box.cell 3 rfl
  have q0 : w.cell? ⟨x.blk, 0, none⟩ = some (.string (str x.f.name)) := F.box.cell 0 rfl
  have q1 : w.cell? ⟨x.blk, 1, none⟩ = some (.int .i64 (x.f.k : Int)) := F.box.cell 1 rfl
  obtain ⟨v, hl, hr, ho⟩ := h.dval x.f.name
  have lk := hl w.drew rfl
  have SR := Lib.hid (h.search x.f.name x.f.k hr w.drew (keeps_drew w))
  by_cases hk : x.f.k ∈ dirtyOf dl x.f.name
  · have e : soilD dl x.f.name x.f.k = dl := by unfold soilD; rw [if_pos hk]
    rw [e]
    rw [decide_eq_true hk] at SR
    have H := Lib.hid h
    generalize below (dirtyOf dl x.f.name) x.f.k = bl at *
    generalize str x.f.name = sv at *
    generalize x.f.k = k at *
    generalize x.blk = xb at *
    clear h F hb hr hx hk e ho hl
    go_enter Tryz.func85, Tryz.ntmps85
    go_wp2_with fail
    go_region
    go_wp2_with fail
    refine SR.out.mono ?_
    rintro e w1 ⟨rfl, rfl⟩
    go_wp2_with fail
    go_returns
    exact ⟨rfl, X, Fp, H.out.keep (keeps_drew w), Turns.of_keeps (keeps_drew w)⟩
  · have e : soilD dl x.f.name x.f.k = putM dl x.f.name (insK (dirtyOf dl x.f.name) x.f.k) := by unfold soilD; rw [if_neg hk]
    rw [e]
    rw [decide_eq_false hk] at SR
    have hlen := dirtyC_len X x.f.name (dirtyOf dl x.f.name)
    have hbl := below_le (dirtyOf dl x.f.name) x.f.k
    have INS := Lib.hid (insert_any2 w.drew.drew v (dpt x.blk) (dirtyC X x.f.name (dirtyOf dl x.f.name)) (below (dirtyOf dl x.f.name) x.f.k) hr (by rw [hlen]; exact hbl) (by rw [hlen]; have := h.dlen x.f.name; have := h.most; omega) (dirtyC_one _ _ _) rfl)
    rw [← hb, dirtyC_ins] at INS
    rw [hb] at INS
    have UP := Lib.hid (fun (w4 : World) (v' : Value) (hp : PRow w4 v' (dirtyC X x.f.name (insK (dirtyOf dl x.f.name) x.f.k))) (hon : Onto (w.drew.drew.alloc (.cells #[dpt x.blk] 115)) v.ownBlock w4 v') =>
      h.putRow (nm := x.f.name) (ob := v.ownBlock) (ho.imp id (fun ⟨ks, h1, h2, _⟩ => ⟨ks, h1, h2⟩)) (W := w.drew.drew.alloc (.cells #[dpt x.blk] 115)) (keeps_trans (keeps_trans (keeps_drew w) (keeps_drew _)) (keeps_alloc _ _)) (fun e0 => by have := insK_length (dirtyOf dl x.f.name) x.f.k; rw [e0] at this; simp at this) (insK_rise (h.dlok.rise_of _) hk) (fun k hk' => by
        rcases mem_insK.1 hk' with rfl | hk'
        · exact mem_keys.2 ⟨i, x.f, frs_of hx, rfl, rfl⟩
        · exact h.held _ k hk') hp hon (fun g hg => hr.lt hg))
    have CC := Lib.hid (fun (w4 : World) (v' : Value) (hon : Onto (w.drew.drew.alloc (.cells #[dpt x.blk] 115)) v.ownBlock w4 v') => show w4.cell? ⟨B.pb, 3, none⟩ = some (.map (some B.dm)) ∧ w4.cell? ⟨x.blk, 0, none⟩ = some (.string (str x.f.name)) from by
      have obx : ∀ {i : Nat} {c : Array Value} {T : TypeId}, Box w i T c → T ≠ 115 → Box w4 i T c := fun {i c T} hi hT => by
        refine (hon.1.block i (Nat.lt_of_lt_of_le hi.lt (by simp)) (fun ho2 => ?_)).trans (Box.keep (w := w.drew.drew) hi (keeps_alloc _ _))
        obtain ⟨c', hc⟩ := hr.cells ho2.symm
        exact cells_ne hi hc hT rfl
      exact ⟨(obx h.box (by decide)).cell 3 rfl, (obx F.box (by decide)).cell 0 rfl⟩)
    have SK := Lib.hid (fun (V : World) (kk : Keeps w V) => show V.cell? ⟨B.pb, 3, none⟩ = some (.map (some B.dm)) ∧ V.cell? ⟨x.blk, 0, none⟩ = some (.string (str x.f.name)) from ⟨kk.cellOf p3, kk.cellOf q0⟩)
    have S5 := Lib.hid (fun (V : World) (X' : PX) (Fp' : Nat → Prop) (I : PIn V B X' Fp' sl (putM dl x.f.name (insK (dirtyOf dl x.f.name) x.f.k)) t) => show V.cell? ⟨B.pb, 3, none⟩ = some (.map (some B.dm)) ∧ V.cell? ⟨x.blk, 0, none⟩ = some (.string (str x.f.name)) from ⟨I.box.cell 3 rfl, (I.fr i x hx).box.cell 0 rfl⟩)
    have H := Lib.hid h
    generalize dirtyC X x.f.name (insK (dirtyOf dl x.f.name) x.f.k) = ys at *
    generalize insK (dirtyOf dl x.f.name) x.f.k = ks at *
    generalize below (dirtyOf dl x.f.name) x.f.k = bl at *
    generalize hsv : str x.f.name = sv at *
    generalize x.f.k = k at *
    generalize x.blk = xb at *
    unfold dpt at INS UP CC
    clear h F hb hr hx hk e ho hl hlen hbl
    go_enter Tryz.func85, Tryz.ntmps85
    go_wp2_with fail
    go_region
    go_wp2_with fail
    refine SR.out.mono ?_
    rintro e w1 ⟨rfl, rfl⟩
    go_wp2_with fail
    go_region_held3 (fun V => V.cell? ⟨B.pb, 3, none⟩ = some (.map (some B.dm)) ∧ V.cell? ⟨xb, 0, none⟩ = some (.string sv)) (first | assumption | exact SK.out _ (by first | exact keeps_drew _ | exact keeps_trans (keeps_drew _) (keeps_drew _) | exact keeps_trans (keeps_trans (keeps_drew _) (keeps_drew _)) (keeps_alloc _ _))) (first
      | (go_at_call 127; refine INS.out.mono ?_; rintro ee w4 ⟨v', rfl, hp4, ho4⟩; have s4 := CC.out _ _ ho4; obtain ⟨g', c', w5, rfl, r5, X', Fp', I5, T5⟩ := UP.out _ _ hp4 ho4; have s5 := S5.out _ _ _ I5))
    all_goals
      go_wp2_with fail
      go_returns
      exact ⟨rfl, X', Fp', I5, T5⟩
end
end Go.Proofs.YtkhfffflegiapaaGreatDoor
/- Package pool: clean. -/
namespace Go.Proofs.YtkhfffflegiapaaGreatDoor
open Go.RowKit
set_option linter.unusedSimpArgs false
set_option linter.unusedVariables false
set_option maxRecDepth 100000

theorem delM_put {κ ε : Type} [DecidableEq κ] (l : List (κ × ε)) (k : κ) (x : ε) : delM (putM l k x) k = delM l k := by
  unfold putM delM
  rw [List.filter_cons_of_neg (by simp), List.filter_filter]
  congr 1
  funext p
  simp
theorem erase_below {l : List Nat} (h : l.Pairwise (· < ·)) {k : Nat} (hk : k ∈ l) : l.erase k = l.take (below l k) ++ l.drop (below l k + 1) := by
  have h1 := (at_below h).1 hk
  obtain ⟨hi, he⟩ := List.getElem?_eq_some_iff.1 h1
  have h2 : l = l.take (below l k) ++ k :: l.drop (below l k + 1) := by
    conv => lhs; rw [← List.take_append_drop (below l k) l, List.drop_eq_getElem_cons hi, he]
  have h3 : k ∉ l.take (below l k) := fun hm => by have := take_below h hm; omega
  conv => lhs; rw [h2]
  rw [List.erase_append_right _ h3, List.erase_cons_head]
section
variable {w w' : World} {B : PB} {X : PX} {Fp : Nat → Prop} {sl : List (Option Fx)} {dl : List (List UInt8 × List Nat)} {t : PT}
theorem dirtyC_del (X : PX) (nm : List UInt8) {ks : List Nat} (h : ks.Pairwise (· < ·)) {k : Nat} (hk : k ∈ ks) : (dirtyC X nm ks).take (below ks k) ++ (dirtyC X nm ks).drop (below ks k + 1) = dirtyC X nm (ks.erase k) := by
  rw [erase_below h hk]
  unfold dirtyC
  rw [List.map_append, List.map_take, List.map_drop]
/-- one file has no dirty frames any more -/
theorem PIn.cutRow (h : PIn w B X Fp sl dl t) {nm : List UInt8} {ob : Option Nat} (hob : ob = none ∨ ∃ ks, (nm, ks) ∈ dl ∧ ob = (X.R nm).1) {W w4 : World} (hk : Keeps w W) (y : Option Nat × Nat × Nat) (ho : W.grownBy w4 ob) (hobl : ∀ g, ob = some g → g < w.heap.size) :
    ∃ w5, (Instr.mapUpdate 93 (.map (some B.dm)) (.string (str nm)) (sliV y)).run Tryz.prog w4 = .ok () w5 ∧ Only w4 w5 (fun c => c = B.dm) ∧ ∀ W5 : World, Keeps w5 W5 → W5.heap.size = w5.heap.size → ∀ ty, ∃ w6, (Builtin.delete_ #[93, 9] ty #[.map (some B.dm), .string (str nm)]).run Tryz.prog W5 = .ok (.tuple #[]) w6 ∧
      ∃ X' Fp', PIn w6 B X' Fp' sl (delM dl nm) t ∧ Turns w w6 Fp Fp' := by
  have obF : ∀ g, ob = some g → Fp g := fun g hg => by
    rcases hob with e | ⟨ks', he, e⟩
    · rw [e] at hg; cases hg
    · exact h.inP.row nm ks' he g (e.symm.trans hg)
  have obc : ∀ g, ob = some g → ∃ c, w.heap[g]? = some (.cells c 115 (0, 0)) := fun g hg => by
    rcases hob with e | ⟨ks', he, e⟩
    · rw [e] at hg; cases hg
    · exact h.rowcell he (e.symm.trans hg)
  have hw4 : ∀ j, j < w.heap.size → ob ≠ some j → w4.heap[j]? = w.heap[j]? := fun j hj hne => (ho.block j (Nat.lt_of_lt_of_le hj hk.size) (fun e => hne e.symm)).trans (hk.block j hj)
  have hs4 : w.heap.size ≤ w4.heap.size := Nat.le_trans hk.size ho.size
  have hdm := h.dirt.lt
  have M4 : MapW strW sliV w4 B.dm _ := h.dirt.same (hw4 _ hdm (fun e => by obtain ⟨c, hc⟩ := obc _ e; exact h.notdm hc rfl))
  obtain ⟨w5, r5, M5, O5⟩ := run_putV (P := Tryz.prog) dirtyT M4 nm y
  refine ⟨w5, r5, O5, fun W5 k5 hs5 ty => ?_⟩
  obtain ⟨w6, r6, M6, O6⟩ := run_delV (P := Tryz.prog) dirtyT (M5.keep k5) nm ty
  rw [delM_put, ← map_del X dl nm (none, 0)] at M6
  have hw6 : ∀ j, j < w.heap.size → j ≠ B.dm → ob ≠ some j → w6.heap[j]? = w.heap[j]? := fun j hj hd hne =>
    have h4 : j < w4.heap.size := Nat.lt_of_lt_of_le hj hs4
    have h5 : j < w5.heap.size := Nat.lt_of_lt_of_le h4 O5.size
    (O6.block j (Nat.lt_of_lt_of_le h5 k5.size) hd).trans ((k5.block j h5).trans ((O5.block j h4 hd).trans (hw4 j hj hne)))
  have hs6 : w.heap.size ≤ w6.heap.size := Nat.le_trans hs4 (Nat.le_trans O5.size (Nat.le_trans k5.size O6.size))
  refine ⟨w6, r6, _, _, h.dirtyTo hob (fun j hj hd hne => hw6 j (h.lt j hj) hd hne) (g' := none) (c' := 0) (fun g hg => by cases hg) hs6 (h.dlok.del nm) (fun nm' k hk' => ?_) (fun nm' ks' he hne => (mem_delM.1 he).1) (fun ks' he => absurd rfl (mem_delM.1 he).2) M6, ⟨⟨?_, ?_, ?_, hs6, fun j hj hn => ?_⟩, fun j hj => ?_⟩⟩
  · rw [dirtyOf_del] at hk'
    split at hk'
    · simp at hk'
    · exact h.held nm' k hk'
  · exact O6.os.trans (k5.os.trans (O5.os.trans (ho.os.trans hk.os)))
  · exact O6.tape.trans (k5.tape.trans (O5.tape.trans (ho.tape.trans hk.tape)))
  · exact O6.output.trans (k5.output.trans (O5.output.trans (ho.output.trans hk.output)))
  · exact hw6 j hj (fun e => hn (by rw [e]; exact h.inP.dm)) (fun e => hn (obF j e))
  · rcases hj with hj | hj
    · exact .inl hj
    · cases hj
set_option maxHeartbeats 8000000 in
theorem clean_any (h : PIn w B X Fp sl dl t) {i : Nat} {x : Fx} (hx : sl[i]? = some (some x)) (hk : x.f.k ∈ dirtyOf dl x.f.name) :
    Calls Tryz.prog 91 #[.pointer (some ⟨B.pb, 0, none⟩), .pointer (some ⟨x.blk, 0, none⟩)] w (DTo w B Fp sl (cleanD dl x.f.name x.f.k) t) := by
  have F := h.fr i x hx
  have p3 : w.cell? ⟨B.pb, 3, none⟩ = some (.map (some B.dm)) := h.box.cell 3 rfl
  have q0 : w.cell? ⟨x.blk, 0, none⟩ = some (.string (str x.f.name)) := F.box.cell 0 rfl
  have q1 : w.cell? ⟨x.blk, 1, none⟩ = some (.int .i64 (x.f.k : Int)) := F.box.cell 1 rfl
  obtain ⟨v, hl, hr, ho⟩ := h.dval x.f.name
  have lk := hl w.drew rfl
  have SR := Lib.hid (h.search x.f.name x.f.k hr w.drew (keeps_drew w))
  rw [decide_eq_true hk] at SR
  have hlen := dirtyC_len X x.f.name (dirtyOf dl x.f.name)
  have hrise := h.dlok.rise_of x.f.name
  have hbl : below (dirtyOf dl x.f.name) x.f.k < (dirtyOf dl x.f.name).length := (List.getElem?_eq_some_iff.1 ((at_below hrise).1 hk)).1
  have hdl := h.dlen x.f.name
  have hmost := h.most
  have DEL := Lib.hid (delete_any w.drew v (dirtyC X x.f.name (dirtyOf dl x.f.name)) (below (dirtyOf dl x.f.name) x.f.k) (below (dirtyOf dl x.f.name) x.f.k + 1) hr rfl (by rw [hlen]; exact hbl) (by rw [hlen]; omega) (dirtyC_one _ _ _))
  rw [dirtyC_del X x.f.name hrise hk] at DEL
  have hob := ho.imp id (fun ⟨ks, h1, h2, _⟩ => (⟨ks, h1, h2⟩ : ∃ ks, (x.f.name, ks) ∈ dl ∧ v.ownBlock = (X.R x.f.name).1))
  have CC := Lib.hid (fun (w4 : World) (hon : w.drew.grownBy w4 v.ownBlock) => show w4.cell? ⟨B.pb, 3, none⟩ = some (.map (some B.dm)) ∧ w4.cell? ⟨x.blk, 0, none⟩ = some (.string (str x.f.name)) from by
    have obx : ∀ {i : Nat} {c : Array Value} {T : TypeId}, Box w i T c → T ≠ 115 → Box w4 i T c := fun {i c T} hi hT => by
      refine (hon.block i hi.lt (fun ho2 => ?_)).trans hi
      obtain ⟨c', hc⟩ := hr.cells ho2.symm
      exact cells_ne hi hc hT rfl
    exact ⟨(obx h.box (by decide)).cell 3 rfl, (obx F.box (by decide)).cell 0 rfl⟩)
  obtain ⟨bl, hbl2⟩ : ∃ bl, below (dirtyOf dl x.f.name) x.f.k = bl := ⟨_, rfl⟩
  rw [hbl2] at SR DEL hbl
  have hbi : (bl : Int) ≤ 4096 := by omega
  have hw1 : IntKind.i64.wrap ((bl : Int) + 1) = ((bl + 1 : Nat) : Int) := by rw [IntWalk.i64_in _ (by omega)]; omega
  have hw2 : (bl : Int) + 1 = ((bl + 1 : Nat) : Int) := by omega
  obtain ⟨b2, hb2⟩ : ∃ b2, bl + 1 = b2 := ⟨_, rfl⟩
  rw [hb2] at hw1 hw2 DEL
  by_cases he : (dirtyOf dl x.f.name).erase x.f.k = []
  · have e : cleanD dl x.f.name x.f.k = delM dl x.f.name := by unfold cleanD; rw [if_pos he]
    rw [e]
    have hy : ∀ w4 v', PRow w4 v' (dirtyC X x.f.name ((dirtyOf dl x.f.name).erase x.f.k)) → ∃ y : Option Nat × Nat × Nat, v' = .slice (y.1.map fun b => (⟨b, 0, none⟩ : Addr)) 0 y.2.2 ∧ y.2.1 = 0 := fun w4 v' hp => by
      rw [he] at hp
      rcases hp.form with ⟨rfl, -⟩ | ⟨g, cur, rfl, -⟩
      · exact ⟨(none, 0, 0), rfl, rfl⟩
      · exact ⟨(some g, 0, cur.size), rfl, rfl⟩
    have UP := Lib.hid (fun (w4 : World) (y : Option Nat × Nat × Nat) (hon : w.drew.grownBy w4 v.ownBlock) =>
      h.cutRow (nm := x.f.name) (ob := v.ownBlock) hob (W := w.drew) (w4 := w4.drew) (keeps_drew w) y ⟨hon.os, hon.tape, hon.output, hon.size, hon.block⟩ (fun g hg => hr.lt hg))
    have C5 := Lib.hid (fun (w4 w5 : World) (hon : w.drew.grownBy w4 v.ownBlock) (h5 : Only w4.drew w5 (fun c => c = B.dm)) => show w5.cell? ⟨B.pb, 3, none⟩ = some (.map (some B.dm)) ∧ w5.cell? ⟨x.blk, 0, none⟩ = some (.string (str x.f.name)) from by
      have obx : ∀ {i : Nat} {c : Array Value} {T : TypeId}, Box w i T c → T ≠ 115 → Box w5 i T c := fun {i c T} hi hT => by
        refine (h5.block i (Nat.lt_of_lt_of_le hi.lt hon.size) (h.notdm hi)).trans ((hon.block i hi.lt (fun ho2 => ?_)).trans hi)
        obtain ⟨c', hc⟩ := hr.cells ho2.symm
        exact cells_ne hi hc hT rfl
      exact ⟨(obx h.box (by decide)).cell 3 rfl, (obx F.box (by decide)).cell 0 rfl⟩)
    have HY := Lib.hid hy
    generalize dirtyC X x.f.name ((dirtyOf dl x.f.name).erase x.f.k) = ys at *
    generalize str x.f.name = sv at *
    generalize x.f.k = k at *
    generalize x.blk = xb at *
    clear h F hr hx hk e ho hl hlen hbl hob hrise hdl hmost hbl2 hb2 he hy
    go_enter Tryz.func91, Tryz.ntmps91
    go_wp2_with fail
    go_region
    go_wp2_with fail
    refine SR.out.mono ?_
    rintro e w1 ⟨rfl, rfl⟩
    go_wp2_with fail
    refine DEL.out.mono ?_
    rintro e w4 ⟨v', rfl, hp4, ho4, hv4⟩
    obtain ⟨c3, c0⟩ := CC.out _ ho4
    obtain ⟨y, rfl, hy1⟩ := HY.out _ _ hp4
    obtain ⟨w5, r5, O5, D5⟩ := UP.out _ y ho4
    unfold sliV at r5
    rw [hy1] at r5
    obtain ⟨d3, d0⟩ := C5.out _ _ ho4 O5
    obtain ⟨w6, r6, X', Fp', I6, T6⟩ := D5 w5.drew (keeps_drew w5) rfl 0
    have I6 := Lib.hid I6
    have T6 := Lib.hid T6
    generalize (y.1.map fun b => (⟨b, 0, none⟩ : Addr)) = A' at *
    clear hp4 ho4 hv4 hy1 O5 D5
    go_wp2_with fail
    go_region
    go_wp2_with fail
    go_region
    go_wp2_with fail
    go_returns
    exact ⟨rfl, X', Fp', I6.out, T6.out⟩
  · have e : cleanD dl x.f.name x.f.k = putM dl x.f.name ((dirtyOf dl x.f.name).erase x.f.k) := by unfold cleanD; rw [if_neg he]
    rw [e]
    have hel : 0 < ((dirtyOf dl x.f.name).erase x.f.k).length := List.length_pos_iff.2 he
    have UP := Lib.hid (fun (w4 : World) (v' : Value) (hp : PRow w4 v' (dirtyC X x.f.name ((dirtyOf dl x.f.name).erase x.f.k))) (hon : w.drew.grownBy w4 v.ownBlock) (hv : v'.ownBlock = v.ownBlock) =>
      h.putRow (nm := x.f.name) (ob := v.ownBlock) hob (W := w.drew) (w4 := w4.drew) (keeps_drew w) he (erase_rise hrise _) (fun k hk' => h.held _ k (List.mem_of_mem_erase hk')) (hp.keep (keeps_drew w4)) ⟨⟨hon.os, hon.tape, hon.output, hon.size, hon.block⟩, .inl hv⟩ (fun g hg => hr.lt hg))
    have S5 := Lib.hid (fun (V : World) (X' : PX) (Fp' : Nat → Prop) (I : PIn V B X' Fp' sl (putM dl x.f.name ((dirtyOf dl x.f.name).erase x.f.k)) t) => show V.cell? ⟨B.pb, 3, none⟩ = some (.map (some B.dm)) ∧ V.cell? ⟨x.blk, 0, none⟩ = some (.string (str x.f.name)) from ⟨I.box.cell 3 rfl, (I.fr i x hx).box.cell 0 rfl⟩)
    have H := Lib.hid h
    generalize dirtyC X x.f.name ((dirtyOf dl x.f.name).erase x.f.k) = ys at *
    generalize (dirtyOf dl x.f.name).erase x.f.k = ks at *
    generalize str x.f.name = sv at *
    generalize x.f.k = k at *
    generalize x.blk = xb at *
    clear h F hr hx hk e ho hl hlen hbl hob hrise hdl hmost hbl2 hb2 he
    go_enter Tryz.func91, Tryz.ntmps91
    go_wp2_with fail
    go_region
    go_wp2_with fail
    refine SR.out.mono ?_
    rintro e w1 ⟨rfl, rfl⟩
    go_wp2_with fail
    refine DEL.out.mono ?_
    rintro e w4 ⟨v', rfl, hp4, ho4, hv4⟩
    obtain ⟨c3, c0⟩ := CC.out _ ho4
    obtain ⟨g', c', w5, rfl, r5, X', Fp', I5, T5⟩ := UP.out _ _ hp4 ho4 hv4
    have s5 := S5.out _ _ _ I5
    have hne : ((ks.length : Int) == 0) = false := by rw [beq_eq_false_iff_ne]; omega
    clear hp4 ho4 hv4
    go_wp2_with fail
    go_region
    go_wp2_with fail
    go_returns
    exact ⟨rfl, X', Fp', I5, T5⟩
end
end Go.Proofs.YtkhfffflegiapaaGreatDoor
