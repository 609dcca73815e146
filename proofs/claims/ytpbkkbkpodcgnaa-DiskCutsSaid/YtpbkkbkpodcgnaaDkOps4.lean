/- Package disk: Create, Remove; which sectors become loose; closures that ask for a file's sectors. -/
import Derived.Test.YtpbkkbkpodcgnaaDkOps3
import Derived.Test.YtpbkkbkpodcgnaaDiskKeep
namespace Go.Proofs.Ytpbkkbkpodcgnaa
open Go.RowKit Go.Shelf
set_option linter.unusedSimpArgs false
set_option linter.unusedVariables false
set_option maxRecDepth 100000

section
variable {w w' : World} {b : Nat} {F : Nat → Prop} {s : Ds}
theorem Dk.lok (h : Dk w b F s) : LOk s.l := ⟨h.ok.rise, h.ok.files, h.used⟩
/-- other files, on a disk whose power stays as it was -/
theorem Dk.make {F' : Nat → Prop} {l' : List Fl} (h : Dk w b F s) (hl : LOk l') (hat : ∃ mf ml fb col, Box w' b 83 (dkC mf ml s.q s.armed s.off) ∧ DkX w' b F' l' mf ml fb col) : Dk w' b F' { s with l := l' } :=
  ⟨⟨hl.rise, hl.files, h.ok.q⟩, h.dead, h.armed, hl.used, hat⟩
theorem lookM_none_of {l : List Fl} {fb : List UInt8 → Nat} {nm : List UInt8} (hg : getF l nm = none) : nm ∉ (l.map fun f => (f.name, fb f.name)).map Prod.fst := by
  rw [List.map_map]
  intro hm
  obtain ⟨f, hf, he⟩ := List.mem_map.1 hm
  exact getF_none hg f hf he
/-- a new file without bytes -/
theorem DkX.put {l : List Fl} {mf ml : Nat} {fb : List UInt8 → Nat} {col : Nat → Option (List UInt8)} (h : DkX w b F l mf ml fb col) {nm : List UInt8} (hg : getF l nm = none) {k : Nat} (hk : w.heap.size ≤ k) (hk2 : k < w'.heap.size)
    (hM : FilesM w' mf (putM (l.map fun f => (f.name, fb f.name)) nm k)) (hb : Box w' k 91 #[.slice none 0 0, .slice none 0 0]) (hO : Only w w' (fun c => c = mf)) :
    DkX w' b (fun i => F i ∨ i = k) (putF l ⟨nm, [], [], fun _ => false⟩) mf ml (fun n => if n = nm then k else fb n) (fun i => if i = k then some nm else col i) := by
  have hne : ∀ i, F i → i ≠ k := fun i hi e => by have := h.lt i hi; omega
  have hs : ∀ i, F i → i ≠ mf → w'.heap[i]? = w.heap[i]? := fun i hi hne => hO.block i (h.lt i hi) hne
  have hmem : ∀ {g : Fl}, g ∈ putF l ⟨nm, [], [], fun _ => false⟩ → g = ⟨nm, [], [], fun _ => false⟩ ∨ g ∈ l := fun {g} hgm => List.mem_cons.1 ((putF_perm l _).mem_iff.1 hgm)
  obtain ⟨l2, h2, h3⟩ := h.loose
  refine ⟨fun i hi => ?_, ⟨.inl h.nb.1, by rw [if_neg (hne b h.nb.1)]; exact h.nb.2⟩, ⟨.inl h.nf.1, by rw [if_neg (hne mf h.nf.1)]; exact h.nf.2⟩, ⟨.inl h.nl.1, by rw [if_neg (hne ml h.nl.1)]; exact h.nl.2⟩, h.ne, ?_, ⟨l2, h2.same (hs ml h.nl.1 (fun e => h.ne e.symm)), fun p => ?_⟩, fun g hg' => ?_⟩
  · rcases hi with hi | rfl
    · exact Nat.lt_of_lt_of_le (h.lt i hi) hO.size
    · exact hk2
  · refine hM.perm ?_
    unfold putM
    rw [delM_absent (lookM_none_of hg)]
    have h4 := ((putF_perm l ⟨nm, [], [], fun _ => false⟩).map fun f => (f.name, if f.name = nm then k else fb f.name))
    refine List.Perm.trans ?_ h4.symm
    rw [List.map_cons]
    have : (l.map fun f => (f.name, if f.name = nm then k else fb f.name)) = l.map fun f => (f.name, fb f.name) := by
      apply List.map_congr_left
      intro f hf
      rw [if_neg (getF_none hg f hf)]
    rw [this, if_pos rfl]
  · rw [h3]
    constructor
    · rintro ⟨g, hg', q1, q2⟩
      exact ⟨g, (putF_perm l _).mem_iff.2 (List.mem_cons_of_mem _ hg'), q1, q2⟩
    · rintro ⟨g, hg', q1, q2⟩
      rcases hmem hg' with rfl | hg2
      · cases q2
      · exact ⟨g, hg2, q1, q2⟩
  · rcases hmem hg' with rfl | hg2
    · refine ⟨.slice none 0 0, .slice none 0 0, ?_⟩
      simp only [if_true]
      exact ⟨hb, Own.nil _ _ _ _, Own.nil _ _ _ _, ⟨.inr rfl, by rw [if_pos rfl]⟩, fun g hgg => (by cases hgg), fun g hgg => (by cases hgg), .inl rfl⟩
    · obtain ⟨v1, v2, q⟩ := h.each g hg2
      rw [if_neg (getF_none hg g hg2)]
      refine ⟨v1, v2, (q.same fun i hi => hs i hi.1 (fun e => by have := hi.2; rw [e, h.nf.2] at this; cases this)).wide fun i hi => ⟨.inl hi.1, by rw [if_neg (hne i hi.1)]; exact hi.2⟩⟩
set_option maxHeartbeats 8000000 in
theorem create_any (h : Dk w b F s) (nm : List UInt8) (hnm : nm.length ≤ maxLen) :
    Calls Try.prog 21 #[dpt b, strV nm] w fun e w' => e = .returned (.int .i64 ((createS s nm).2 : Int)) ∧ ∃ F', Dk w' b F' (createS s nm).1 ∧ Turns w w' F F' := by
  show Calls _ _ #[.pointer (some ⟨b, 0, none⟩), .string (str nm)] w _
  have BG := Lib.hid (begin_dk h)
  have TB := Lib.hid (fun (V : World) (hO : Only w V (fun c => c = b)) => h.turnsB hO)
  have GL := Lib.hid (gone_parts h).1
  cases ho : (goneS s).off
  · rw [ho] at BG
    cases hn : nameOk nm
    · have e : createS s nm = (goneS s, 1) := by unfold createS; rw [ho, hn]; simp
      rw [e]
      clear e
      go_enter Try.func21, Try.ntmps21
      go_wp2_with (first
        | (go_at_call 46; refine BG.out.mono ?_; rintro e w1 ⟨rfl, hD, hO⟩)
        | (go_at_call 47; obtain ⟨mf, ml, fb, col, hb, hx⟩ := hD.at_; refine (find_dk hb hx nm hnm).mono ?_; rw [foundV_bad hn]; rintro e w' ⟨rfl, rfl⟩))
      go_ret
      exact ⟨rfl, F, hD, TB.out _ hO⟩
    · cases hg : getF s.l nm with
      | some f =>
        have e : createS s nm = (goneS s, 4) := by unfold createS; rw [ho, hn, hg]; simp
        rw [e]
        have hg2 : getF (goneS s).l nm = some f := by rw [GL.out]; exact hg
        clear e
        go_enter Try.func21, Try.ntmps21
        go_wp2_with (first
          | (go_at_call 46; refine BG.out.mono ?_; rintro e w1 ⟨rfl, hD, hO⟩)
          | (go_at_call 47; obtain ⟨mf, ml, fb, col, hb, hx⟩ := hD.at_; refine (find_dk hb hx nm hnm).mono ?_; rw [foundV_some hn hg2]; rintro e w' ⟨rfl, rfl⟩))
        go_ret
        exact ⟨rfl, F, hD, TB.out _ hO⟩
      | none =>
        have e : createS s nm = ({ goneS s with l := putF s.l ⟨nm, [], [], fun _ => false⟩ }, 0) := by unfold createS; rw [ho, hn, hg]; simp
        rw [e]
        have hg2 : getF (goneS s).l nm = none := by rw [GL.out]; exact hg
        rw [← GL.out]
        clear e
        go_enter Try.func21, Try.ntmps21
        go_wp2_with (first
          | (go_at_call 46; refine BG.out.mono ?_; rintro e w1 ⟨rfl, hD, hO⟩)
          | (go_at_call 47; obtain ⟨mf, ml, fb, col, hb, hx⟩ := hD.at_; refine (find_dk hb hx nm hnm).mono ?_; rw [foundV_none hn hg2]; rintro e w' ⟨rfl, rfl⟩; have c0 := hb.cell 0 rfl; have HM := hx.files)
          | (at_mapUpdate; refine wpList_putV _ rfl _ _ _ rfl filesT mf _ rfl (HM.keep (keeps_alloc _ _)) nm rfl w1.heap.size rfl ?_; intro w2 hM2 hO2))
        have k1 := keeps_alloc w1 (.cells #[.slice none 0 0, .slice none 0 0] 91)
        have hOO : Only w1 w2 (fun c => c = mf) := ((Only.of_keeps k1).weak (fun _ e => e.elim)).trans hO2 (fun i hi => .inl hi)
        have hmf := hx.lt mf hx.nf.1
        have bk : Box w2 w1.heap.size 91 #[.slice none 0 0, .slice none 0 0] := (hO2.block _ (by simp) (by omega)).trans (Box.new w1 91 _)
        have X2 := hx.put hg2 (Nat.le_refl _) (by have := hO2.size; simp at this; omega) hM2 bk hOO
        have B2 : Box w2 b 83 (dkC mf ml (goneS s).q (goneS s).armed (goneS s).off) := (hOO.block b hb.lt (HM.ne hb)).trans hb
        have D2 := hD.make (hD.lok.put (f := ⟨nm, [], [], fun _ => false⟩) hg2 (FlOk.fresh hn) (by show usedL (goneS s).l + sect 0 ≤ _; have := hD.used; unfold sect; omega)) ⟨mf, ml, _, _, B2, X2⟩
        have T2 := (TB.out _ hO).trans (T := F) (U := fun i => F i ∨ i = w1.heap.size) (Turns.mk (hOO.weak fun i hi => by rw [hi]; exact hx.nf.1) fun i hi => by
          rcases hi with hi | hi
          · exact .inl hi
          · exact .inr (by omega))
        go_ret
        exact ⟨rfl, _, D2, T2⟩
  · rw [ho] at BG
    have e : createS s nm = (goneS s, 6) := by unfold createS; rw [ho]; simp
    rw [e]
    clear e
    go_enter Try.func21, Try.ntmps21
    go_wp2_with (go_at_call 46; refine BG.out.mono ?_; rintro e w1 ⟨rfl, hD, hO⟩)
    go_ret
    exact ⟨rfl, F, hD, TB.out _ hO⟩
end
end Go.Proofs.Ytpbkkbkpodcgnaa
