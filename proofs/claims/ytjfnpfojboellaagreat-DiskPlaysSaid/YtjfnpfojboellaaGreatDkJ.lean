/- Package disk: the closure that gathers what is moved. -/
import Derived.Test.YtjfnpfojboellaaGreatDkH
import Derived.Test.YtjfnpfojboellaaGreatDkI
namespace Go.Proofs.YtjfnpfojboellaaGreat
open Go.RowKit Go.Shelf
set_option linter.unusedSimpArgs false
set_option linter.unusedVariables false
set_option maxRecDepth 100000

theorem info_place : (Tryz.prog.info? 73).map (fun i => (i.zero, i.size, i.bytes)) = some (some (.agg #[.string ⟨#[]⟩, .int .i64 0]), 2, 24) := by kernel_rfl
/-- what is moved of those met -/
def movL (a c : List UInt8) (pre : List Pl) : List Pl := (pre.filter fun p => decide (p.1 = a)).map fun p => (c, p.2)
theorem movL_yes {a c : List UInt8} {pre : List Pl} {x : Pl} (h : x.1 = a) : movL a c (pre ++ [x]) = movL a c pre ++ [(c, x.2)] := by
  unfold movL
  rw [List.filter_append, List.map_append]
  simp [h]
theorem movL_no {a c : List UInt8} {pre : List Pl} {x : Pl} (h : x.1 ≠ a) : movL a c (pre ++ [x]) = movL a c pre := by
  unfold movL
  rw [List.filter_append, List.map_append]
  simp [h]
theorem movL_len (a c : List UInt8) (pre : List Pl) : (movL a c pre).length ≤ pre.length := by
  unfold movL
  rw [List.length_map]
  exact List.length_filter_le _ _
theorem mem_movL (a c : List UInt8) (pre : List Pl) (p : Pl) : p ∈ movL a c pre ↔ p.1 = c ∧ (a, p.2) ∈ pre := by
  unfold movL
  rw [List.mem_map]
  constructor
  · rintro ⟨q, hq, rfl⟩
    obtain ⟨h1, h2⟩ := List.mem_filter.1 hq
    have h3 := of_decide_eq_true h2
    exact ⟨rfl, by rw [← h3]; exact h1⟩
  · rintro ⟨h1, h2⟩
    exact ⟨(a, p.2), List.mem_filter.2 ⟨h2, decide_eq_true rfl⟩, Prod.ext h1.symm rfl⟩
/-- the closure's own: two names, and the slice of what is moved -/
def MoveJ (B bf bm bt : Nat) (a c : List UInt8) (pre : List Pl) (T : Nat → Prop) (W : World) : Prop :=
  ∃ v, Box W bf 9 #[.string (str a)] ∧ Box W bt 9 #[.string (str c)] ∧ Box W bm 70 #[v] ∧ Own W B 73 2 v (movL a c pre).length ((movL a c pre).flatMap celP) ∧ T = fun x => x = bf ∨ x = bt ∨ x = bm ∨ v.ownBlock = some x
theorem Own.not_box2 {w : World} {base size : Nat} {e t : TypeId} {v : Value} {n : Nat} {xs : List Value} {b : Nat} {cs : Array Value} (h : Own w base e size v n xs) (hb : Box w b t cs) (hne : t ≠ e) : v.ownBlock ≠ some b := by
  intro hv
  rcases h.2 with ⟨rfl, _⟩ | ⟨g, cap, cur, fz, rfl, _, hg, _⟩
  · simp [Value.ownBlock] at hv
  · simp only [Value.ownBlock, Option.some.injEq] at hv
    subst hv
    exact row_ne hb hg hne rfl
theorem moveJ_same {B bf bm bt : Nat} {a c : List UInt8} : ∀ pre T W W', MoveJ B bf bm bt a c pre T W → (∀ i, T i → W'.heap[i]? = W.heap[i]?) → W.heap.size ≤ W'.heap.size → MoveJ B bf bm bt a c pre T W' := by
  rintro pre T W W' ⟨v, h1, h2, h3, h4, rfl⟩ hs hsz
  exact ⟨v, (hs bf (.inl rfl)).trans h1, (hs bt (.inr (.inl rfl))).trans h2, (hs bm (.inr (.inr (.inl rfl)))).trans h3, h4.same fun k hk => hs k (.inr (.inr (.inr hk))), rfl⟩
theorem moveJ_lt {B bf bm bt : Nat} {a c : List UInt8} : ∀ pre T W, MoveJ B bf bm bt a c pre T W → ∀ i, T i → i < W.heap.size := by
  rintro pre T W ⟨v, h1, h2, h3, h4, rfl⟩ i hi
  rcases hi with rfl | rfl | rfl | hi
  · exact h1.lt
  · exact h2.lt
  · exact h3.lt
  · exact (h4.lt i hi).2
theorem str_place : 9 ≠ 73 := by decide
theorem sl_place : 70 ≠ 73 := by decide
set_option maxHeartbeats 16000000 in
theorem renameC_any (B bf bm bt : Nat) (a c : List UInt8) (pre : List Pl) (T : Nat → Prop) (x : Pl) (W : World) (hJ : MoveJ B bf bm bt a c pre T W) (hB : B ≤ W.heap.size) (hlen : pre.length ≤ 100000000) (hd : bm ≠ bf ∧ bm ≠ bt) :
    Calls Tryz.prog 61 (#[.agg #[.string (str x.1), .int .i64 (x.2 : Int)]] ++ #[.pointer (some ⟨bf, 0, none⟩), .pointer (some ⟨bm, 0, none⟩), .pointer (some ⟨bt, 0, none⟩)]) W fun e W' => e = .returned (.bool (decide (x.1 = a ∨ x.1 = c))) ∧ ∃ T', MoveJ B bf bm bt a c (pre ++ [x]) T' W' ∧ Turns W W' T T' := by
  show Calls _ _ #[.agg #[.string (str x.1), .int .i64 (x.2 : Int)], .pointer (some ⟨bf, 0, none⟩), .pointer (some ⟨bm, 0, none⟩), .pointer (some ⟨bt, 0, none⟩)] W _
  obtain ⟨i0, hi, hz0, hz1, hz2⟩ := info_parts info_place
  have HJ := Lib.hid hJ
  obtain ⟨v, h1, h2, h3, h4, hT⟩ := hJ
  obtain ⟨A, cap, rfl, hcap, hcm, -⟩ := h4.form
  have k := keeps_alloc W (.cells #[.string (str x.1), .int .i64 (x.2 : Int)] 73)
  have c1 := (h1.keep k).cell 0 rfl
  have c2 := (h2.keep k).cell 0 rfl
  have c3 := (h3.keep k).cell 0 rfl
  have bx := Box.new W 73 #[.string (str x.1), .int .i64 (x.2 : Int)]
  have p0 := bx.cell 0 rfl
  have p1 := bx.cell 1 rfl
  have l1 := h1.lt
  have l2 := h2.lt
  have l3 := h3.lt
  have he := str_eq_cases x.1 a
  have hec := str_eq_cases x.1 c
  have K := Lib.hid k
  have HL := Lib.hid hlen
  have HB := Lib.hid hB
  have HD := Lib.hid hd
  have HT := Lib.hid hT
  have H1 := Lib.hid h1
  have H2 := Lib.hid h2
  have H3 := Lib.hid h3
  have H4 := Lib.hid h4
  have MN := Lib.hid (movL_len a c pre)
  by_cases ha : x.1 = a
  · rw [decide_eq_true (.inl ha)]
    rw [decide_eq_true ha] at he
    have MY := Lib.hid (movL_yes (c := c) (pre := pre) ha)
    have k2 := keeps_trans k (keeps_alloc (W.alloc (.cells #[.string (str x.1), .int .i64 (x.2 : Int)] 73)) (.cells #[.string (str c), .int .i64 (x.2 : Int)] 73))
    have bx2 := bx.keep (keeps_alloc (W.alloc (.cells #[.string (str x.1), .int .i64 (x.2 : Int)] 73)) (.cells #[.string (str c), .int .i64 (x.2 : Int)] 73))
    have MV := Lib.hid (show ∀ w4, ((W.alloc (.cells #[.string (str x.1), .int .i64 (x.2 : Int)] 73)).alloc (.cells #[.string (str c), .int .i64 (x.2 : Int)] 73)).grownBy w4 (Value.slice A (movL a c pre).length cap).ownBlock → Box w4 bf 9 #[.string (str a)] ∧ Box w4 bt 9 #[.string (str c)] ∧ Box w4 bm 70 #[.slice A (movL a c pre).length cap] ∧ Box w4 W.heap.size 73 #[.string (str x.1), .int .i64 (x.2 : Int)] from fun w4 hg => by
      have far : ∀ {i : Nat} {t : TypeId} {cs : Array Value}, Box W i t cs → t ≠ 73 → Box w4 i t cs := fun {i t cs} hb hne => (hg.block i (Nat.lt_of_lt_of_le hb.lt k2.size) (fun e => h4.not_box2 hb hne e.symm)).trans (hb.keep k2)
      exact ⟨far h1 str_place, far h2 str_place, far h3 sl_place, (hg.block _ bx2.lt (fun e => by have := (h4.lt _ e.symm).2; omega)).trans bx2⟩)
    have MF := Lib.hid (show ∀ w4 v4, Own w4 B 73 2 v4 ((movL a c pre).length + 1) ((movL a c pre).flatMap celP ++ [.string (str c), .int .i64 (x.2 : Int)]) → ((W.alloc (.cells #[.string (str x.1), .int .i64 (x.2 : Int)] 73)).alloc (.cells #[.string (str c), .int .i64 (x.2 : Int)] 73)).grownBy w4 (Value.slice A (movL a c pre).length cap).ownBlock → (v4.ownBlock = (Value.slice A (movL a c pre).length cap).ownBlock ∨ v4.ownBlock = some ((W.alloc (.cells #[.string (str x.1), .int .i64 (x.2 : Int)] 73)).alloc (.cells #[.string (str c), .int .i64 (x.2 : Int)] 73)).heap.size) →
        MoveJ B bf bm bt a c (pre ++ [x]) (fun i => i = bf ∨ i = bt ∨ i = bm ∨ v4.ownBlock = some i) (w4.setCell ⟨bm, 0, none⟩ v4) ∧ Turns W (w4.setCell ⟨bm, 0, none⟩ v4) T (fun i => i = bf ∨ i = bt ∨ i = bm ∨ v4.ownBlock = some i) from fun w4 v4 ho hg hb => by
      obtain ⟨b1, b2, b3, b4⟩ := MV.out w4 hg
      have hmb : v4.ownBlock ≠ some bm := ho.not_box2 b3 sl_place
      refine ⟨⟨v4, b1.far (fun e => HD.out.1 e.symm) _, b2.far (fun e => HD.out.2 e.symm) _, by simpa using b3.set 0 v4, ?_, rfl⟩, ⟨⟨hg.os, hg.tape, hg.output, by have := hg.size; have := k2.size; simp at *; omega, fun i hi hn => ?_⟩, fun i hi => ?_⟩⟩
      · rw [movL_yes ha, List.length_append, List.flatMap_append]
        exact ho.same fun g hgg => Below.heap_setCell _ ⟨bm, 0, none⟩ _ g (fun e => hmb (by rw [hgg, e]))
      · rw [hT] at hn
        rw [Below.heap_setCell _ ⟨bm, 0, none⟩ _ i (fun e => hn (.inr (.inr (.inl e))))]
        exact (hg.block i (Nat.lt_of_lt_of_le hi k2.size) (fun e => hn (.inr (.inr (.inr e.symm))))).trans (k2.block i hi)
      · rw [hT]
        rcases hi with hi | hi | hi | hi
        · exact .inl (.inl hi)
        · exact .inl (.inr (.inl hi))
        · exact .inl (.inr (.inr (.inl hi)))
        · rcases hb with e | e
          · exact .inl (.inr (.inr (.inr (by rw [← e]; exact hi))))
          · rw [e] at hi
            obtain rfl := Option.some.inj hi
            exact .inr (by simp; omega))
    clear h1 h2 h3 h4 hT k bx hcm hcap hlen hB hd ha hec k2 bx2
    generalize movL a c pre = mv at *
    generalize str x.1 = sx at *
    go_enter Tryz.func61, Tryz.ntmps61
    go_wp2_with (at_builtin; refine wpList_app _ rfl _ _ 70 rfl B 73 i0 (.agg #[.string ⟨#[]⟩, .int .i64 0]) 2 24 Tryz.underlying70 hi hz0 hz1 hz2 rfl (by decide) _ mv.length _ rfl ((H4.out.keep K.out).keep (keeps_alloc _ (.cells #[.string (str c), .int .i64 (x.2 : Int)] 73))) _ (some ⟨W.heap.size + 1, 0, none⟩) 1 1 [.string (str c), .int .i64 (x.2 : Int)] rfl rfl (by have := at_new (W.alloc (.cells #[.string sx, .int .i64 (x.2 : Int)] 73)) 73 #[.string (str c), .int .i64 (x.2 : Int)]; simpa using this) (by intro u hu; simp only [List.mem_cons, List.not_mem_nil, or_false] at hu; rcases hu with rfl | rfl <;> rfl) (by have := HL.out; have := MN.out; unfold maxLen; omega) (by have := HL.out; have := MN.out; omega) (by have := HB.out; simp; omega) ?_; intro v4 w4 hown4 hgrow4 hblk4; obtain ⟨A4, cp4, rfl, -⟩ := hown4.form; have hs4 : W.heap.size + 2 ≤ w4.heap.size := (by have := hgrow4.size; simp at this; omega); obtain ⟨b1, b2, b3, b4⟩ := MV.out w4 hgrow4; have m0 := b3.cell 0 rfl; have m1 := b3.frozen 0; have ml4 := b3.lt; have b5 := b1.far (p := ⟨bm, 0, none⟩) (fun e => HD.out.1 e.symm) (.slice A4 (mv.length + 1) cp4); have q1 := b5.cell 0 rfl; have b6 := b4.far (p := ⟨bm, 0, none⟩) (show W.heap.size ≠ bm by omega) (.slice A4 (mv.length + 1) cp4); have q2 := b6.cell 0 rfl)
    have FIN := MF.out w4 (.slice A4 (mv.length + 1) cp4) hown4 hgrow4 hblk4
    clear hown4 hgrow4 hblk4
    go_ret
    exact ⟨by first | rfl | simp [he], _, FIN⟩
  · rw [decide_eq_false ha] at he
    have MNO := Lib.hid (movL_no (c := c) (pre := pre) ha)
    by_cases hc : x.1 = c
    · rw [decide_eq_true (.inr hc)]
      rw [decide_eq_true hc] at hec
      clear h1 h2 h3 h4 hT bx hcm hcap hlen hB hd ha hc
      generalize str x.1 = sx at *
      go_enter Tryz.func61, Tryz.ntmps61
      go_wp2_with fail
      go_ret
      exact ⟨by first | rfl | simp [hec], T, moveJ_same _ _ W _ (by
        obtain ⟨v', q1, q2, q3, q4, q5⟩ := HJ.out
        exact ⟨v', q1, q2, q3, by rw [MNO.out]; exact q4, q5⟩) (fun i hi => k.block i (moveJ_lt _ _ _ HJ.out i hi)) k.size, Turns.of_keeps k⟩
    · rw [decide_eq_false (fun h => by rcases h with h | h; exact ha h; exact hc h)]
      rw [decide_eq_false hc] at hec
      clear h1 h2 h3 h4 hT bx hcm hcap hlen hB hd ha hc
      generalize str x.1 = sx at *
      go_enter Tryz.func61, Tryz.ntmps61
      go_wp2_with fail
      go_ret
      exact ⟨by first | rfl | simp [hec, he], T, moveJ_same _ _ W _ (by
        obtain ⟨v', q1, q2, q3, q4, q5⟩ := HJ.out
        exact ⟨v', q1, q2, q3, by rw [MNO.out]; exact q4, q5⟩) (fun i hi => k.block i (moveJ_lt _ _ _ HJ.out i hi)) k.size, Turns.of_keeps k⟩
end Go.Proofs.YtjfnpfojboellaaGreat
/- Package disk: Rename. -/
namespace Go.Proofs.YtjfnpfojboellaaGreat
open Go.RowKit Go.Shelf
set_option linter.unusedSimpArgs false
set_option linter.unusedVariables false
set_option maxRecDepth 100000

section
variable {w w' : World} {b : Nat} {F : Nat → Prop} {s : Ds}
theorem DkX.rename {l : List Fl} {mf ml : Nat} {fb : List UInt8 → Nat} {col : Nat → Option (List UInt8)} (h : DkX w b F l mf ml fb col) {a c : List UInt8} {f : Fl} (hg : getF l a = some f) (hM : FilesM w' mf (putM (delM (l.map fun f => (f.name, fb f.name)) a) c (fb f.name)))
    (hL : ∃ l3, LooseM w' ml l3 ∧ ∀ p, p ∈ l3.map Prod.fst ↔ (p.1 ≠ a ∧ p.1 ≠ c ∧ LooseIn l p) ∨ (p.1 = c ∧ f.loose p.2 = true)) (hO : Only w w' (fun i => i = mf ∨ i = ml ∨ ¬ F i)) :
    DkX w' b F (putF (delF (delF l a) c) { f with name := c }) mf ml (fun n => if n = c then fb a else fb n) (fun i => if col i = some a then some c else if col i = some c then none else col i) := by
  have hfn := getF_name hg
  have hfm := getF_mem hg
  have hmem : ∀ {g : Fl}, g ∈ putF (delF (delF l a) c) { f with name := c } ↔ g = { f with name := c } ∨ (g ∈ l ∧ g.name ≠ a ∧ g.name ≠ c) := fun {g} => by
    rw [(putF_perm _ _).mem_iff, List.mem_cons]
    unfold delF
    rw [List.mem_filter, List.mem_filter]
    simp only [decide_eq_true_eq]
    constructor
    · rintro (h | ⟨⟨h1, h2⟩, h3⟩)
      · exact .inl h
      · exact .inr ⟨h1, h2, h3⟩
    · rintro (h | ⟨h1, h2, h3⟩)
      · exact .inl h
      · exact .inr ⟨⟨h1, h2⟩, h3⟩
  refine ⟨fun i hi => Nat.lt_of_lt_of_le (h.lt i hi) hO.size, ⟨h.nb.1, ?_⟩, ⟨h.nf.1, ?_⟩, ⟨h.nl.1, ?_⟩, h.ne, ?_, ?_, fun g hg' => ?_⟩
  · rw [h.nb.2]; rfl
  · rw [h.nf.2]; rfl
  · rw [h.nl.2]; rfl
  · refine hM.perm ?_
    refine List.Perm.trans ?_ ((putF_perm (delF (delF l a) c) { f with name := c }).map fun g => (g.name, if g.name = c then fb a else fb g.name)).symm
    rw [List.map_cons]
    unfold putM
    have e1 : delM (delM (l.map fun f => (f.name, fb f.name)) a) c = (delF (delF l a) c).map fun f => (f.name, fb f.name) := by
      unfold delM delF
      rw [List.filter_map, List.filter_map]
      rfl
    have e2 : ((delF (delF l a) c).map fun g => (g.name, if g.name = c then fb a else fb g.name)) = (delF (delF l a) c).map fun f => (f.name, fb f.name) := by
      apply List.map_congr_left
      intro g hg'
      have h1 := of_decide_eq_true (List.mem_filter.1 hg').2
      rw [if_neg h1]
    rw [e1, e2, hfn]
    simp
  · obtain ⟨l3, h1, h2⟩ := hL
    refine ⟨l3, h1, fun p => (h2 p).trans ?_⟩
    constructor
    · rintro (⟨q1, q2, g, hg', g1, g2⟩ | ⟨q1, q2⟩)
      · exact ⟨g, hmem.2 (.inr ⟨hg', by rw [g1]; exact q1, by rw [g1]; exact q2⟩), g1, g2⟩
      · exact ⟨{ f with name := c }, hmem.2 (.inl rfl), q1.symm, q2⟩
    · rintro ⟨g, hg', g1, g2⟩
      rcases hmem.1 hg' with rfl | ⟨h3, h4, h5⟩
      · exact .inr ⟨g1.symm, g2⟩
      · exact .inl ⟨by rw [← g1]; exact h4, by rw [← g1]; exact h5, g, h3, g1, g2⟩
  · have hs : ∀ {nm : List UInt8} {k : Nat} {v1 v2 : Value} {x y : List UInt8}, FileAt w (DkX.own F col nm) k v1 v2 x y → FileAt w' (DkX.own F col nm) k v1 v2 x y := fun {nm k v1 v2 x y} q => q.same fun i hi => hO.block i (h.lt i hi.1) (fun e => by
      rcases e with e | e | e
      · have := hi.2; rw [e, h.nf.2] at this; cases this
      · have := hi.2; rw [e, h.nl.2] at this; cases this
      · exact e hi.1)
    rcases hmem.1 hg' with rfl | ⟨h3, h4, h5⟩
    · obtain ⟨v1, v2, q⟩ := h.each f hfm
      refine ⟨v1, v2, ?_⟩
      simp only [if_true]
      rw [← hfn]
      exact (hs q).wide fun i hi => ⟨hi.1, by rw [hi.2, hfn]; simp⟩
    · obtain ⟨v1, v2, q⟩ := h.each g h3
      refine ⟨v1, v2, ?_⟩
      rw [if_neg h5]
      refine (hs q).wide fun i hi => ⟨hi.1, ?_⟩
      rw [hi.2, if_neg (fun e => h4 (Option.some.inj e)), if_neg (fun e => h5 (Option.some.inj e))]
theorem put_all (l : List (Pl × Unit)) (k : Pl) : ∀ p, p ∈ (putM l k ()).map Prod.fst ↔ p = k ∨ p ∈ l.map Prod.fst := putM_keys l k
set_option maxHeartbeats 16000000 in
theorem rename_any (h : Dk w b F s) (a c : List UInt8) (hna : a.length ≤ maxLen) (hnc : c.length ≤ maxLen) :
    Calls Tryz.prog 22 #[dpt b, strV a, strV c] w fun e w' => e = .returned (.int .i64 ((renameS s a c).2 : Int)) ∧ ∃ F', Dk w' b F' (renameS s a c).1 ∧ Turns w w' F F' := by
  show Calls _ _ #[.pointer (some ⟨b, 0, none⟩), .string (str a), .string (str c)] w _
  have k0 := keeps_trans (keeps_alloc w (.cells #[.string (str a)] 9)) (keeps_alloc (w.alloc (.cells #[.string (str a)] 9)) (.cells #[.string (str c)] 9))
  have h0 := h.keep k0
  have hFl := h.lt
  have bx := (Box.new w 9 #[.string (str a)]).keep (keeps_alloc (w.alloc (.cells #[.string (str a)] 9)) (.cells #[.string (str c)] 9))
  have by_ := Box.new (w.alloc (.cells #[.string (str a)] 9)) 9 #[.string (str c)]
  simp only [World.size_alloc] at by_
  have BG := Lib.hid (begin_dk h0)
  have TB := Lib.hid (fun (V : World) (hO : Only ((w.alloc (.cells #[.string (str a)] 9)).alloc (.cells #[.string (str c)] 9)) V (fun c => c = b)) => (Turns.of_keeps (S := F) k0).trans (h0.turnsB hO))
  have GL := Lib.hid (gone_parts h).1
  have hbw : b < w.heap.size := by
    obtain ⟨mf, ml, fb, col, hb, hx⟩ := h.at_
    exact hb.lt
  have NB := Lib.hid (fun (V : World) (hO : Only ((w.alloc (.cells #[.string (str a)] 9)).alloc (.cells #[.string (str c)] 9)) V (fun c => c = b)) => show Box V w.heap.size 9 #[.string (str a)] ∧ Box V (w.heap.size + 1) 9 #[.string (str c)] from ⟨(hO.block _ bx.lt (by omega)).trans bx, (hO.block _ by_.lt (by omega)).trans by_⟩)
  have IN := Lib.hid (isName_any c (by unfold maxLen at hnc; omega))
  clear bx by_
  cases ho : (goneS s).off
  · rw [ho] at BG
    cases hn2 : nameOk c
    · have e : renameS s a c = (goneS s, 1) := by unfold renameS; rw [ho, if_neg (by simp), if_pos (.inr hn2)]
      rw [e]
      rw [hn2] at IN
      clear e h h0
      go_enter Tryz.func22, Tryz.ntmps22
      go_wp2_with (first
        | (go_at_call 50; refine BG.out.mono ?_; rintro e w1 ⟨rfl, hD, hO⟩; have n0 := (NB.out _ hO).1.cell 0 rfl; have n1 := (NB.out _ hO).2.cell 0 rfl)
        | (go_at_call 60; refine (IN.out _).mono ?_; rintro e w' ⟨rfl, rfl⟩))
      go_ret
      exact ⟨rfl, F, hD, TB.out _ hO⟩
    · rw [hn2] at IN
      cases hn : nameOk a
      · have e : renameS s a c = (goneS s, 1) := by unfold renameS; rw [ho, if_neg (by simp), if_pos (.inl hn)]
        rw [e]
        clear e h h0
        go_enter Tryz.func22, Tryz.ntmps22
        go_wp2_with (first
          | (go_at_call 50; refine BG.out.mono ?_; rintro e w1 ⟨rfl, hD, hO⟩; have n0 := (NB.out _ hO).1.cell 0 rfl; have n1 := (NB.out _ hO).2.cell 0 rfl)
          | (go_at_call 60; refine (IN.out _).mono ?_; rintro e w' ⟨rfl, rfl⟩)
          | (go_at_call 51; obtain ⟨mf, ml, fb, col, hb, hx⟩ := hD.at_; refine (find_dk hb hx a hna).mono ?_; rw [foundV_bad hn]; rintro e w' ⟨rfl, rfl⟩))
        go_ret
        exact ⟨rfl, F, hD, TB.out _ hO⟩
      · have hnb : ¬ (nameOk a = false ∨ nameOk c = false) := by rw [hn, hn2]; simp
        cases hg : getF s.l a with
        | none =>
          have e : renameS s a c = (goneS s, 3) := by unfold renameS; rw [ho, if_neg (by simp), if_neg hnb, hg]
          rw [e]
          have hg2 : getF (goneS s).l a = none := by rw [GL.out]; exact hg
          clear e h h0 hnb
          go_enter Tryz.func22, Tryz.ntmps22
          go_wp2_with (first
            | (go_at_call 50; refine BG.out.mono ?_; rintro e w1 ⟨rfl, hD, hO⟩; have n0 := (NB.out _ hO).1.cell 0 rfl; have n1 := (NB.out _ hO).2.cell 0 rfl)
            | (go_at_call 60; refine (IN.out _).mono ?_; rintro e w' ⟨rfl, rfl⟩)
            | (go_at_call 51; obtain ⟨mf, ml, fb, col, hb, hx⟩ := hD.at_; refine (find_dk hb hx a hna).mono ?_; rw [foundV_none hn hg2]; rintro e w' ⟨rfl, rfl⟩))
          go_ret
          exact ⟨rfl, F, hD, TB.out _ hO⟩
        | some f =>
          have e : renameS s a c = ({ goneS s with l := putF (delF (delF s.l a) c) { f with name := c } }, 0) := by unfold renameS; rw [ho, if_neg (by simp), if_neg hnb, hg]
          rw [e]
          have hg2 : getF (goneS s).l a = some f := by rw [GL.out]; exact hg
          have HFN := Lib.hid (getF_name hg)
          rw [← GL.out]
          have EG := Lib.hid (enters_of Tryz.func61 (by kernel_rfl) rfl)
          clear e h h0 hnb
          go_enter Tryz.func22, Tryz.ntmps22
          go_wp2_with (first
            | (go_at_call 50; refine BG.out.mono ?_; rintro e w1 ⟨rfl, hD, hO⟩; have n0 := (NB.out _ hO).1.cell 0 rfl; have n1 := (NB.out _ hO).2.cell 0 rfl)
            | (go_at_call 60; refine (IN.out _).mono ?_; rintro e w' ⟨rfl, rfl⟩)
            | (go_at_call 51; obtain ⟨mf, ml, fb, col, hb, hx⟩ := hD.at_; refine (find_dk hb hx a hna).mono ?_; rw [foundV_some hn hg2]; rintro e w' ⟨rfl, rfl⟩))
          obtain ⟨l2, hm2, hmem⟩ := hx.loose
          have hlen2 : l2.length ≤ 1048576 := by
            have h1 := (keys_places hD.ok hm2.once hmem).length_eq
            rw [List.length_map] at h1
            have h2 := places_length_le (goneS s).l
            have h3 := hD.used
            omega
          have k2 := keeps_alloc w1 (.cells #[.slice none 0 0] 70)
          have bm2 := Box.new w1 70 #[.slice none 0 0]
          have hs2 : (w1.alloc (.cells #[.slice none 0 0] 70)).heap.size = w1.heap.size + 1 := by simp
          obtain ⟨w2, hw2⟩ : ∃ w2, w1.alloc (.cells #[.slice none 0 0] 70) = w2 := ⟨_, rfl⟩
          rw [hw2] at k2 bm2 hs2
          have B2 : Box w2 b 56 (dkC mf ml (goneS s).q (goneS s).armed (goneS s).off) := hb.keep k2
          have M2 := hm2.keep k2
          obtain ⟨n2a, n2b⟩ := NB.out _ hO
          have hls : w.heap.size + 1 < w1.heap.size := n2b.lt
          have hml := hFl ml hx.nl.1
          have FG := Lib.hid (forget_any B2 M2 61 #[.pointer (some ⟨w.heap.size, 0, none⟩), .pointer (some ⟨w1.heap.size, 0, none⟩), .pointer (some ⟨w.heap.size + 1, 0, none⟩)] EG.out (fun x => decide (x.1 = a ∨ x.1 = c))
            (fun pre T W => MoveJ w1.heap.size w.heap.size w1.heap.size (w.heap.size + 1) a c pre T W ∧ w2.heap.size ≤ W.heap.size) (fun i => i = w.heap.size ∨ i = w.heap.size + 1 ∨ i = w1.heap.size ∨ (Value.slice none 0 0).ownBlock = some i)
            (fun i hi => by
              rcases hi with rfl | rfl | rfl | hi
              · exact ⟨by omega, by omega, by omega⟩
              · exact ⟨by omega, by omega, by omega⟩
              · exact ⟨by omega, by omega, by omega⟩
              · cases hi)
            ⟨⟨.slice none 0 0, n2a.keep k2, n2b.keep k2, bm2, by simpa [movL] using Own.nil w2 w1.heap.size 73 2, rfl⟩, Nat.le_refl _⟩
            (fun pre T W W' hj hs hz => ⟨moveJ_same pre T W W' hj.1 hs hz, Nat.le_trans hj.2 hz⟩)
            (fun pre T W hj => moveJ_lt pre T W hj.1)
            (fun pre T x W hj hl => (renameC_any w1.heap.size w.heap.size w1.heap.size (w.heap.size + 1) a c pre T x W hj.1 (by have := hj.2; omega) (by omega) ⟨by omega, by omega⟩).mono fun e W' ⟨h1, T', h2, h3⟩ => ⟨h1, T', ⟨h2, Nat.le_trans hj.2 h3.only.size⟩, h3⟩))
          rw [hw2]
          have hmf := hFl mf hx.nf.1
          have HX := Lib.hid hx
          have HB := Lib.hid hb
          have HD := Lib.hid hD
          have HO := Lib.hid hO
          have HM2 := Lib.hid hm2
          have HMEM := Lib.hid hmem
          have N2 := Lib.hid (And.intro n2a n2b)
          have K2 := Lib.hid k2
          have HL2 := Lib.hid hlen2
          clear hx hb hD hO hm2 hmem n2a n2b k2 hlen2 B2 M2 bm2 n0 n1
          go_wp2_with (go_at_call 55; refine FG.out.mono ?_; rintro e w3 ⟨rfl, ss, T3, hss, ⟨⟨mvv, q1, q2, q3, q4, q5⟩, hsz3⟩, hL3, hO3, hT3⟩; obtain ⟨Am, cm, rfl, -⟩ := q4.form; have m0 := q3.cell 0 rfl)
          have O13 : Only w1 w3 (fun i => i = ml ∨ i = w.heap.size ∨ i = w.heap.size + 1 ∨ w1.heap.size ≤ i) := ((Only.of_keeps K2.out).weak (fun _ e => e.elim)).trans hO3 (fun i hi => .inl (by
            rcases hi with hi | hi | hi | hi | hi
            · exact .inl hi
            · exact .inr (.inl hi)
            · exact .inr (.inr (.inl hi))
            · exact .inr (.inr (.inr (by omega)))
            · cases hi))
          have MVK := Lib.hid (show ∀ p, p ∈ movL a c ss ↔ p.1 = c ∧ LooseIn (goneS s).l (a, p.2) from fun p => by rw [mem_movL, hss.mem_iff, HMEM.out])
          have MVL := Lib.hid (show (movL a c ss).length ≤ 1048576 by
            have h1 := movL_len a c ss
            have h2 := hss.length_eq
            rw [List.length_map] at h2
            have := HL2.out
            omega)
          have hmi : ((movL a c ss).length : Int) ≤ 1048576 := by have := MVL.out; omega
          have Q1 := Lib.hid q1
          have Q2 := Lib.hid q2
          have Q4 := Lib.hid q4
          have O3 := Lib.hid O13
          have L3 := Lib.hid hL3
          clear q1 q2 q3 q4 q5 hsz3 hL3 hO3 hT3 hss O13
          generalize movL a c ss = mv at *
          go_wp2_with fail
          go_loopw [12, 35] (fun _ i wr => ∃ (j : Nat) (l3 : List (Pl × Unit)), j ≤ mv.length ∧ i = .int .i64 (j : Int) ∧ LooseM wr ml l3 ∧ (∀ p, p ∈ l3.map Prod.fst ↔ p ∈ (l2.filter fun p => !decide (p.1.1 = a ∨ p.1.1 = c)).map Prod.fst ∨ p ∈ mv.take j) ∧ Only w3 wr (fun x => x = ml)) (fun _ i _ => mv.length - (intOf i).toNat)
          case atStart => exact ⟨0, _, Nat.zero_le _, rfl, L3.out, fun p => by simp, Only.refl _ _⟩
          case round =>
            obtain ⟨j, l3, hj, rfl, hM, hK, hOr⟩ := hrel
            have HJ := Lib.hid hj
            have HM := Lib.hid hM
            have HK := Lib.hid hK
            have HOR := Lib.hid hOr
            have Dr : Box wr b 56 (dkC mf ml (goneS s).q (goneS s).armed (goneS s).off) := (hOr.block b (Nat.lt_of_lt_of_le HB.out.lt O3.out.size) (fun e => HM2.out.ne HB.out e)).trans ((O3.out.block b HB.out.lt (fun e => by
              rcases e with e | e | e | e
              · exact HM2.out.ne HB.out e
              · omega
              · omega
              · omega)).trans HB.out)
            have hbl := Dr.lt
            by_cases hlt : j < mv.length
            · obtain ⟨p, hp⟩ : ∃ p, mv[j]? = some p := ⟨_, List.getElem?_eq_getElem hlt⟩
              have q4w : Own wr w1.heap.size 73 2 (.slice Am mv.length cm) mv.length (mv.flatMap celP) := Q4.out.same fun k hk => hOr.block k (Q4.out.lt k hk).2 (fun e => by have := (Q4.out.lt k hk).1; omega)
              have hl2 : (mv.flatMap celP).length = mv.length * 2 := placesC_length mv
              obtain ⟨g, rfl, ca, -, -⟩ := q4w.cell (j := j * 2) (by omega)
              obtain ⟨g', hg', cb, -, -⟩ := q4w.cell (j := j * 2 + 1) (by omega)
              obtain rfl : g = g' := by injection hg' with hg'; injection hg'
              have ca0 := flatMap_get celP 2 celP_length mv (i := j) (j := 0) (by decide)
              have cb0 := flatMap_get celP 2 celP_length mv (i := j) (j := 1) (by decide)
              rw [hp] at ca0 cb0
              rw [Nat.add_zero] at ca0
              rw [ca0] at ca
              rw [cb0] at cb
              have ca1 : wr.cell? ⟨g, j * 2, none⟩ = some (.string (str p.1)) := ca
              have cb1 : wr.cell? ⟨g, j * 2 + 1, none⟩ = some (.int .i64 (p.2 : Int)) := cb
              have c1 : wr.cell? ⟨b, 1, none⟩ = some (.map (some ml)) := Dr.cell 1 rfl
              have hji : (j : Int) < (mv.length : Int) := by omega
              have ka := keeps_alloc wr (.cells #[.string (str p.1), .int .i64 (p.2 : Int)] 73)
              have Ma := Lib.hid (hM.keep ka)
              have KA := Lib.hid ka
              have HP := Lib.hid hp
              have HLT := Lib.hid hlt
              clear hM hK hOr q4w hl2 hg' ca cb ca0 cb0 Dr hp hj ka hlt m0
              go_wp2_with fail
              obtain ⟨w5, hput, hM5, hO5⟩ := run_putV (P := Tryz.prog) looseT (Ma.out.keep (keeps_drew _)) (p.1, p.2) ()
              have hput' : Sem.run Tryz.prog (Instr.mapUpdate 54 (.map (some ml)) (.agg #[.string (str p.1), .int .i64 (p.2 : Int)]) (.agg #[])) (wr.alloc (.cells #[.string (str p.1), .int .i64 (p.2 : Int)] 73)).drew = .ok () w5 := hput
              clear hput
              go_region
              all_goals
                have O5 : Only w3 w5 (fun x => x = ml) := ((HOR.out.keep KA.out).keep (keeps_drew _)).trans hO5 (fun i hi => .inl hi)
                have K5 := Lib.hid (show ∀ q, q ∈ (putM l3 (p.1, p.2) ()).map Prod.fst ↔ q ∈ (l2.filter fun p => !decide (p.1.1 = a ∨ p.1.1 = c)).map Prod.fst ∨ q ∈ mv.take (j + 1) from fun q => by
                  rw [putM_keys, HK.out q, List.take_add_one, HP.out, Option.toList_some, List.mem_append, List.mem_singleton]
                  constructor
                  · rintro (h | h | h)
                    · exact .inr (.inr h)
                    · exact .inl h
                    · exact .inr (.inl h)
                  · rintro (h | h | h)
                    · exact .inr (.inl h)
                    · exact .inr (.inr h)
                    · exact .inl h)
                have M5h := Lib.hid hM5
                have O5h := Lib.hid O5
                clear hM5 hO5 O5
                have hjl := HLT.out
                go_wp2_with fail
                exact ⟨⟨j + 1, _, by omega, by go_num, M5h.out, K5.out, O5h.out⟩, by simp [intOf]; omega⟩
            · have c0 : wr.cell? ⟨b, 0, none⟩ = some (.map (some mf)) := Dr.cell 0 rfl
              obtain rfl : j = mv.length := by omega
              have hwr : ∀ i, i < w1.heap.size → i ≠ ml → i ≠ w.heap.size → i ≠ w.heap.size + 1 → wr.heap[i]? = w1.heap[i]? := fun i hi h1 h2 h3 => (hOr.block i (Nat.lt_of_lt_of_le hi O3.out.size) h1).trans (O3.out.block i hi (fun e => by
                rcases e with e | e | e | e
                · exact h1 e
                · exact h2 e
                · exact h3 e
                · omega))
              have hlsz : w1.heap.size ≤ wr.heap.size := Nat.le_trans O3.out.size hOr.size
              have n0 : wr.cell? ⟨w.heap.size, 0, none⟩ = some (.string (str a)) := ((show Box wr w.heap.size 9 #[.string (str a)] from (hOr.block _ Q1.out.lt (by omega)).trans Q1.out)).cell 0 rfl
              have BT := Lib.hid (show Box wr (w.heap.size + 1) 9 #[.string (str c)] from (hOr.block _ Q2.out.lt (by omega)).trans Q2.out)
              have FMr := Lib.hid (HX.out.files.same (w' := wr) (hwr mf HX.out.files.lt (fun e => HX.out.ne e) (by omega) (by omega)))
              have HWR := Lib.hid hwr
              have HDR := Lib.hid Dr
              have KEYS := Lib.hid (show ∀ p, p ∈ l3.map Prod.fst ↔ (p.1 ≠ a ∧ p.1 ≠ c ∧ LooseIn (goneS s).l p) ∨ (p.1 = c ∧ f.loose p.2 = true) from fun p => by
                rw [hK p, List.take_length, filt_keys (fun q => !decide (q.1 = a ∨ q.1 = c)), HMEM.out, MVK.out]
                have h5 : LooseIn (goneS s).l (a, p.2) ↔ f.loose p.2 = true := looseIn_one HX.out.nodup (getF_mem hg2) (p := (a, p.2)) HFN.out.symm
                rw [h5]
                simp only [Bool.not_eq_true', decide_eq_false_iff_not]
                constructor
                · rintro (⟨h1, h2⟩ | h)
                  · exact .inl ⟨fun e => h2 (.inl e), fun e => h2 (.inr e), h1⟩
                  · exact .inr h
                · rintro (⟨h1, h2, h3⟩ | h)
                  · exact .inl ⟨h3, fun e => by rcases e with e | e; exact h1 e; exact h2 e⟩
                  · exact .inr h)
              clear hlt hj hM hK hOr m0 hwr Dr
              go_wp2_with fail
              go_region_law ((refine step_delV _ rfl (.tmp 49) (.tmp 50) rfl filesT mf _ (by simp [Act.eval, Act.put]) (FMr.out.keep (keeps_drew _)) a (by simp [Act.eval, Act.put, strW]) ?_); intro w5 hM5 hO5)
              all_goals
                have O5 : Only wr w5 (fun x => x = mf) := ((Only.of_keeps (keeps_drew wr)).weak (fun _ e => e.elim)).trans hO5 (fun i hi => .inl hi)
                have D5 : Box w5 b 56 (dkC mf ml (goneS s).q (goneS s).armed (goneS s).off) := (O5.block b HDR.out.lt (fun e => FMr.out.ne HDR.out e)).trans HDR.out
                have c5 : w5.cell? ⟨b, 0, none⟩ = some (.map (some mf)) := D5.cell 0 rfl
                have B5 : Box w5 (w.heap.size + 1) 9 #[.string (str c)] := (O5.block _ BT.out.lt (by omega)).trans BT.out
                have n5 : w5.cell? ⟨w.heap.size + 1, 0, none⟩ = some (.string (str c)) := B5.cell 0 rfl
                have hb5 := D5.lt
                have hn5 := B5.lt
                have M5h := Lib.hid hM5
                have O5h := Lib.hid O5
                have D5h := Lib.hid D5
                clear hM5 hO5 O5 D5 B5 c0 n0
                go_wp2_with fail
                obtain ⟨w6, hput, hM6, hO6⟩ := run_putV (P := Tryz.prog) filesT (M5h.out.keep (keeps_drew _)) c (fb f.name)
                have hput' : Sem.run Tryz.prog (Instr.mapUpdate 53 (.map (some mf)) (.string (str c)) (.pointer (some ⟨fb f.name, 0, none⟩))) w5.drew = .ok () w6 := hput
                clear hput
                go_region
                all_goals
                  have O6 : Only wr w6 (fun x => x = mf) := (O5h.out.keep (keeps_drew _)).trans hO6 (fun i hi => .inl hi)
                  have L6 : LooseM w6 ml l3 := HM.out.same (O6.block ml HM.out.lt (fun e => HX.out.ne e.symm))
                  have O16 : Only w1 w6 (fun i => i = mf ∨ i = ml ∨ ¬ F i) := ⟨O6.os.trans (HOR.out.os.trans O3.out.os), O6.tape.trans (HOR.out.tape.trans O3.out.tape), O6.output.trans (HOR.out.output.trans O3.out.output), Nat.le_trans hlsz O6.size, fun i hi hn => by
                    have h1 : i ≠ mf := fun e => hn (.inl e)
                    have h2 : i ≠ ml := fun e => hn (.inr (.inl e))
                    have h3 : F i := Classical.byContradiction fun q => hn (.inr (.inr q))
                    have h4 := hFl i h3
                    exact (O6.block i (Nat.lt_of_lt_of_le hi hlsz) h1).trans (HWR.out i hi h2 (by omega) (by omega))⟩
                  have X6 := HX.out.rename hg2 hM6 ⟨l3, L6, KEYS.out⟩ O16
                  have B6 : Box w6 b 56 (dkC mf ml (goneS s).q (goneS s).armed (goneS s).off) := (O6.block b HDR.out.lt (fun e => FMr.out.ne HDR.out e)).trans HDR.out
                  have L0 := HD.out.lok
                  have hud := used_del (goneS s).l a f hg2
                  have hud2 := used_del_le (delF (goneS s).l a) c
                  have DK := HD.out.make (((L0.del a).del c).put (f := { f with name := c }) (getF_del_self _ c) ((HD.out.ok.files f (getF_mem hg2)).named hn2) (by show usedL (delF (delF (goneS s).l a) c) + sect f.now.length ≤ 1048576; have := HD.out.used; omega)) ⟨mf, ml, _, _, B6, X6⟩
                  have T16 : Turns w w6 F F := ⟨(TB.out _ HO.out).only.trans (S1 := fun i => F i ∨ w.heap.size ≤ i) ⟨O16.os, O16.tape, O16.output, O16.size, fun i hi hn => (O6.block i (Nat.lt_of_lt_of_le hi hlsz) (fun e => hn (.inl (by rw [e]; exact HX.out.nf.1)))).trans (HWR.out i hi (fun e => hn (.inl (by rw [e]; exact HX.out.nl.1))) (fun e => hn (.inr (by omega))) (fun e => hn (.inr (by omega))))⟩ (fun i hi => hi), fun _ hi => .inl hi⟩
                  have DKh := Lib.hid DK
                  have T16h := Lib.hid T16
                  clear DK T16 X6 B6 L6 O16 O6 hM6 hO6 L0 hud hud2
                  go_wp2_with fail
                  go_ret
                  exact ⟨rfl, F, DKh.out, T16h.out⟩
  · rw [ho] at BG
    have e : renameS s a c = (goneS s, 6) := by unfold renameS; rw [ho]; simp
    rw [e]
    clear e h h0
    go_enter Tryz.func22, Tryz.ntmps22
    go_wp2_with (go_at_call 50; refine BG.out.mono ?_; rintro e w1 ⟨rfl, hD, hO⟩)
    go_ret
    exact ⟨rfl, F, hD, TB.out _ hO⟩
end
end Go.Proofs.YtjfnpfojboellaaGreat
