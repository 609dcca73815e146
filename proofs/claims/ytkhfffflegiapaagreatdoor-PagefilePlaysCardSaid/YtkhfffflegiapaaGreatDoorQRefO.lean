/- The reference's On: what is kept, sector by sector, file by file. -/
import Derived.Test.YtkhfffflegiapaaGreatDoorQRefW
import Derived.Test.YtkhfffflegiapaaGreatDoorQDisk
import Derived.Test.YtkhfffflegiapaaGreatDoorQRefH
import Derived.Test.YtkhfffflegiapaaGreatDoorQRefT
import Derived.Test.YtkhfffflegiapaaGreatDoorQLawMeant
namespace Go.Proofs.YtkhfffflegiapaaGreatDoor
open Go.RowKit
set_option linter.unusedSimpArgs false
set_option linter.unusedVariables false
set_option maxRecDepth 100000

/-- bytes of the one from a on till j, of the other elsewhere -/
def keepAt (P now : List UInt8) (a j : Nat) : List UInt8 := P.take a ++ (now.take j).drop a ++ P.drop j
theorem keepAt_get (P now : List UInt8) (a j : Nat) (h1 : a ≤ j) (h2 : j ≤ now.length) (h3 : j ≤ P.length) (i : Nat) : (keepAt P now a j)[i]? = if a ≤ i ∧ i < j then now[i]? else P[i]? := by
  unfold keepAt
  have l1 : (P.take a).length = a := by rw [List.length_take]; omega
  have l2 : ((now.take j).drop a).length = j - a := by rw [List.length_drop, List.length_take]; omega
  by_cases c1 : i < a
  · rw [if_neg (by omega), List.append_assoc, List.getElem?_append_left (by omega), List.getElem?_take_of_lt c1]
  · by_cases c2 : i < j
    · rw [if_pos (by omega), List.append_assoc, List.getElem?_append_right (by omega), List.getElem?_append_left (by omega), l1, List.getElem?_drop, List.getElem?_take_of_lt (by omega)]
      congr 1
      omega
    · rw [if_neg (by omega), List.getElem?_append_right (by rw [List.length_append]; omega), List.length_append, l1, l2, List.getElem?_drop]
      congr 1
      omega
theorem keepAt_length (P now : List UInt8) (a j : Nat) (h1 : a ≤ j) (h2 : j ≤ now.length) (h3 : j ≤ P.length) : (keepAt P now a j).length = P.length := by
  unfold keepAt
  rw [List.length_append, List.length_append, List.length_take, List.length_drop, List.length_drop, List.length_take]
  omega
theorem keepAt_zero (P now : List UInt8) (a : Nat) (h2 : a ≤ now.length) (h3 : a ≤ P.length) : keepAt P now a a = P := by
  apply List.ext_getElem?
  intro i
  rw [keepAt_get _ _ _ _ (Nat.le_refl _) h2 h3, if_neg (by omega)]
theorem keepAt_succ (P now : List UInt8) (a j : Nat) (h1 : a ≤ j) (h2 : j < now.length) (h3 : j < P.length) : (keepAt P now a j).set j (now.getD j 0) = keepAt P now a (j + 1) := by
  apply List.ext_getElem?
  intro i
  rw [List.getElem?_set, keepAt_length _ _ _ _ h1 (by omega) (by omega), keepAt_get _ _ _ _ h1 (by omega) (by omega), keepAt_get _ _ _ _ (by omega) (by omega) (by omega)]
  by_cases e : j = i
  · subst e
    rw [if_pos rfl, if_pos h3, if_pos (by omega), List.getD_eq_getElem?_getD, List.getElem?_eq_getElem h2]
    rfl
  · rw [if_neg e]
    by_cases c : a ≤ i ∧ i < j
    · rw [if_pos c, if_pos (by omega)]
    · rw [if_neg c, if_neg (by omega)]
/-- the sectors kept ahead of k -/
def keptTo (f : Fl) (base : Nat) (keep : List Int) (k : Nat) (x : Nat) : Bool := keptF f base keep x && decide (x < k)
/-- so many loose ones stand ahead -/
def ahead (f : Fl) (k : Nat) : Nat := ((List.range k).filter f.loose).length
theorem ahead_succ (f : Fl) (k : Nat) : ahead f (k + 1) = ahead f k + (if f.loose k then 1 else 0) := by
  unfold ahead
  rw [List.range_succ, List.filter_append, List.length_append]
  congr 1
  cases h : f.loose k <;> simp [h]
theorem ahead_le (f : Fl) (k : Nat) : ahead f k ≤ k := by
  unfold ahead
  exact Nat.le_trans (List.length_filter_le _ _) (by simp)
theorem keptTo_zero (f : Fl) (base : Nat) (keep : List Int) : backB f (keptTo f base keep 0) = f.lasts := backB_none _ _ (fun k => by simp [keptTo])
theorem keptTo_skip (f : Fl) (base : Nat) (keep : List Int) (k : Nat) (h : keptF f base keep k = false) : keptTo f base keep (k + 1) = keptTo f base keep k := by
  funext x
  unfold keptTo
  by_cases e : x = k
  · rw [e, h]; simp
  · congr 1
    by_cases c : x < k
    · rw [decide_eq_true c, decide_eq_true (by omega)]
    · rw [decide_eq_false c, decide_eq_false (by omega)]
theorem keptTo_take (f : Fl) (base : Nat) (keep : List Int) (k : Nat) (h : keptF f base keep k = true) (hk : 64 * k < f.now.length) : keepB (backB f (keptTo f base keep k)) f.now k = backB f (keptTo f base keep (k + 1)) := by
  rw [keep_step f _ k hk]
  congr 1
  funext x
  unfold keptTo
  by_cases e : x = k
  · rw [e, h]; simp
  · rw [decide_eq_false e, Bool.or_false]
    congr 1
    by_cases c : x < k
    · rw [decide_eq_true c, decide_eq_true (by omega)]
    · rw [decide_eq_false c, decide_eq_false (by omega)]
theorem keptTo_all (f : Fl) (base : Nat) (keep : List Int) (m : Nat) (h : ∀ x, m ≤ x → f.loose x = false) : keptTo f base keep m = keptF f base keep := by
  funext x
  unfold keptTo
  by_cases c : x < m
  · rw [decide_eq_true c, Bool.and_true]
  · rw [decide_eq_false c, Bool.and_false]
    unfold keptF
    rw [h x (by omega)]
    rfl
theorem ahead_all (f : Fl) (m : Nat) (h : ∀ x, m ≤ x → f.loose x = false) : ∀ n, m ≤ n → ahead f n = ahead f m
  | 0, hn => by rw [show m = 0 by omega]
  | n + 1, hn => by
    by_cases e : m = n + 1
    · rw [e]
    · rw [ahead_succ, h n (by omega), ahead_all f m h n (by omega)]
      rfl
theorem keepB_at (b now : List UInt8) (k : Nat) : keepB b now k = keepAt (padB b (secE now k)) now (64 * k) (secE now k) := rfl
theorem padW_padB (b : List UInt8) (e : Nat) : padW b (e - b.length) = padB b e := rfl
theorem looseF_ahead (f : Fl) : (looseF f).length = ahead f (sect f.now.length) := rfl
theorem placesL_cons (f : Fl) (l : List Fl) : (placesL (f :: l)).length = (looseF f).length + (placesL l).length := by simp [placesL]
theorem backL_snoc (keep : List Int) (f : Fl) : ∀ (l : List Fl) (base : Nat), backL keep (l ++ [f]) base = backL keep l base ++ [backF f (base + (placesL l).length) keep]
  | [], base => by simp [backL, placesL]
  | g :: l, base => by
    show backF g base keep :: backL keep (l ++ [f]) (base + (looseF g).length) = _
    rw [backL_snoc keep f l]
    show _ = backF g base keep :: (backL keep l (base + (looseF g).length) ++ _)
    rw [placesL_cons, Nat.add_assoc]
theorem placesL_snoc (l : List Fl) (f : Fl) : (placesL (l ++ [f])).length = (placesL l).length + (looseF f).length := by simp [placesL]
theorem secE_min (now : List UInt8) (k : Nat) : secE now k = min (64 * (k + 1)) now.length := by unfold secE; omega
section
variable {W W' : World} {F : Nat → Prop}
/-- a file's rows stay when the row of files is written -/
theorem EntOk.store {e : Ent} {g n c : Nat} {ys : List Value} (h : EntOk W F e) (hr : Own W 0 155 4 (.slice (some ⟨g, 0, none⟩) n c) n ys) (i : Nat) (v : Value) : EntOk (W.setCell ⟨g, i, none⟩ v) F e :=
  ⟨h.now.far hr u8_file i v, h.lasts.far hr u8_file i v, h.loose.far hr bool_file i v, h.flag, h.few, h.fn, h.fl, h.fo⟩
end
end Go.Proofs.YtkhfffflegiapaaGreatDoor
/- The reference's disk: On. -/
namespace Go.Proofs.YtkhfffflegiapaaGreatDoor
open Go.RowKit
set_option linter.unusedSimpArgs false
set_option linter.unusedVariables false
set_option maxRecDepth 100000

/-- the first j files are as the loss left them -/
structure OnAt (w wr : World) (F : Nat → Prop) (b g c : Nat) (s : Ds) (n : Nat) (es es' : List Ent) (lk : List Int) (j : Nat) : Prop where
  mid : Mid w wr b g c s n es'
  len : es'.length = n
  map : es'.map (·.f) = backL lk (s.l.take j) 0 ++ s.l.drop j
  rest : ∀ t, j ≤ t → es'[t]? = es[t]?
  done : ∀ t e, t < j → es'[t]? = some e → EntOk wr (more w wr F) e
section
variable {w wr W : World} {b g c n : Nat} {F : Nat → Prop} {s : Ds} {es es' : List Ent} {lk : List Int}
theorem EntOk.box_store {e : Ent} {cs : Array Value} (h : EntOk W F e) (hb : Box W b 144 cs) (i : Nat) (v : Value) : EntOk (W.setCell ⟨b, i, none⟩ v) F e :=
  ⟨h.now.same fun k hk => Below.heap_setCell W ⟨b, i, none⟩ v k (fun e' => h.now.ne_box hb disk_u8 (by rw [hk]; exact congrArg some e')),
   h.lasts.same fun k hk => Below.heap_setCell W ⟨b, i, none⟩ v k (fun e' => h.lasts.ne_box hb disk_u8 (by rw [hk]; exact congrArg some e')),
   h.loose.same fun k hk => Below.heap_setCell W ⟨b, i, none⟩ v k (fun e' => h.loose.ne_box hb disk_bool (by rw [hk]; exact congrArg some e')), h.flag, h.few, h.fn, h.fl, h.fo⟩
theorem Rk.on_zero {W1 : World} (h : Rk w b F s none 0 []) (lk : List Int) (hl : s.l = []) (hW : W1 = (w.setCell ⟨b, 3, none⟩ (.bool false)).setCell ⟨b, 2, none⟩ (.int .i64 0) := by rfl) :
    Rk W1 b (more w W1 F) ⟨backL lk [] 0, s.q, 0, false⟩ none 0 [] ∧ Turns w W1 F (more w W1 F) := by
  have O : Only w W1 (fun i => i = b) := by
    rw [hW]
    exact (Only.cell1 w ⟨b, 3, none⟩ _).trans (Only.cell1 _ ⟨b, 2, none⟩ _) (fun i hi => .inl hi)
  have B3 := h.box.set 3 (.bool false)
  have B4 : Box W1 b 144 (rdC none 0 0 s.q 0 false) := by rw [hW]; exact B3.set 2 (.int .i64 0)
  have LK := h.lok
  rw [hl] at LK
  refine ⟨⟨B4, Own.nil _ _ _ _, rfl, fun e he => (by cases he), .inl h.fb, fun k hk => (by simp [Value.ownBlock] at hk), fun i hi => ?_, LK, h.q, Nat.zero_le _⟩, turns_more (O.weak fun i hi => .inl hi) h.core⟩
  rcases hi with hi | hi
  · exact Nat.lt_of_lt_of_le (h.lt i hi) O.size
  · exact hi.2
theorem OnAt.fin (h : Rk w b F s (some ⟨g, 0, none⟩) c es) (hn : n = es.length) (o : OnAt w wr F b g c s n es es' lk n) {W1 : World} (hW : W1 = (wr.setCell ⟨b, 3, none⟩ (.bool false)).setCell ⟨b, 2, none⟩ (.int .i64 0)) :
    Rk W1 b (more w W1 F) ⟨backL lk s.l 0, s.q, 0, false⟩ (some ⟨g, 0, none⟩) c es' ∧ Turns w W1 F (more w W1 F) := by
  have hsz : W1.heap.size = wr.heap.size := by rw [hW]; simp
  have O : Only w W1 (Core b (.slice (some ⟨g, 0, none⟩) n c)) := by
    rw [hW]
    exact (o.mid.only.trans (Only.cell1 wr ⟨b, 3, none⟩ _) (fun i hi => .inl (.inl hi))).trans (Only.cell1 _ ⟨b, 2, none⟩ _) (fun i hi => .inl (.inl hi))
  have B3 := o.mid.box.set 3 (.bool false)
  have B4 : Box W1 b 144 (rdC (some ⟨g, 0, none⟩) n c s.q 0 false) := by rw [hW]; exact B3.set 2 (.int .i64 0)
  have hne := o.mid.ne
  have R3 : Own W1 0 155 4 (.slice (some ⟨g, 0, none⟩) n c) n (entR es') := o.mid.row.same fun k hk => by
    have hk2 : g = k := Option.some.inj hk
    rw [hW]
    exact (Below.heap_setCell _ ⟨b, 2, none⟩ _ k (fun e => hne (by rw [hk2]; exact e.symm))).trans (Below.heap_setCell _ ⟨b, 3, none⟩ _ k (fun e => hne (by rw [hk2]; exact e.symm)))
  have hll : s.l.length = n := by rw [h.l, List.length_map, hn]
  have hlen := o.len
  subst hn
  refine ⟨⟨by rw [hlen]; exact B4, by rw [hlen]; exact R3, ?_, fun e he => ?_, .inl h.fb, fun k hk => .inl (h.fA k (by rw [hlen] at hk; exact hk)), fun i hi => ?_, h.lok.back lk 0, h.q, Nat.zero_le _⟩, turns_more O h.core⟩
  · have := o.map
    rw [List.take_of_length_le (by omega), List.drop_eq_nil_of_le (by omega), List.append_nil] at this
    exact this.symm
  · obtain ⟨t, ht, he2⟩ := List.getElem_of_mem he
    have E := o.done t e (by omega) (by rw [← he2]; exact List.getElem?_eq_getElem ht)
    have E2 := (E.box_store o.mid.box 3 (.bool false)).box_store B3 2 (.int .i64 0)
    rw [← hW] at E2
    exact E2.sub (fun i hi => by
      rcases hi with hi | hi
      · exact .inl hi
      · exact .inr ⟨hi.1, by rw [hsz]; exact hi.2⟩)
  · rcases hi with hi | hi
    · exact Nat.lt_of_lt_of_le (h.lt i hi) O.size
    · exact hi.2
theorem backL_length (keep : List Int) : ∀ (l : List Fl) (base : Nat), (backL keep l base).length = l.length
  | [], _ => rfl
  | f :: l, base => by
    show (backL keep l _).length + 1 = l.length + 1
    rw [backL_length keep l]
theorem places_used : ∀ l : List Fl, (placesL l).length ≤ usedL l
  | [] => by simp [placesL]
  | f :: l => by
    rw [placesL_cons]
    have h1 := places_used l
    have h2 : (looseF f).length ≤ sect f.now.length := by
      unfold looseF
      exact Nat.le_trans (List.length_filter_le _ _) (by simp)
    show _ ≤ sect f.now.length + usedL l
    omega
theorem OnAt.step {j N BA : Nat} {x : Ent} {W1 W2 w6 : World} {v7 v9 : Value} {NB : List UInt8} {sx : ByteArray} (H : Rk w b F s (some ⟨g, 0, none⟩) c es) (hn : n = es.length) (o : OnAt w W1 F b g c s n es es' lk j) (hx : es[j]? = some x) (k7 : Keeps W1 W2) (k6 : Keeps W2 w6)
    (o7 : Own W2 (W1.heap.size + 1) 5 1 v7 N (cel NB)) (o6 : Own w6 W2.heap.size 5 1 v9 N (cel NB)) (hNB : NB = backB x.f (keptF x.f BA lk)) (hBA : BA = (placesL (s.l.take j)).length) (hsx : str x.f.name = sx) :
    OnAt w ((((w6.setCell ⟨g, j * 4, none⟩ (.string sx)).setCell ⟨g, j * 4 + 1, none⟩ v7).setCell ⟨g, j * 4 + 2, none⟩ v9).setCell ⟨g, j * 4 + 3, none⟩ (.slice none 0 0)) F b g c s n es (es'.set j ⟨backF x.f BA lk, [], v7, v9, .slice none 0 0⟩) lk (j + 1) := by
  have hx' : es'[j]? = some x := by rw [o.rest j (Nat.le_refl _)]; exact hx
  have hNl : NB.length = N := by have := o7.1; rw [cel_length] at this; omega
  have kk := keeps_trans k7 k6
  have M0 := o.mid.keep kk
  have M1 : Mid w (w6.setCell ⟨g, j * 4, none⟩ (.string sx)) b g c s n (es'.set j ⟨backF x.f BA lk, [], x.nv, x.lv, x.ov⟩) := M0.put (e' := ⟨backF x.f BA lk, [], x.nv, x.lv, x.ov⟩) hx' (j := 0) (by decide) (.string sx) (by rw [← hsx]; rfl)
  have M2 := M1.put (e' := ⟨backF x.f BA lk, [], v7, x.lv, x.ov⟩) (set_get hx' _) (j := 1) (by decide) v7 rfl
  rw [List.set_set] at M2
  have M3 := M2.put (e' := ⟨backF x.f BA lk, [], v7, v9, x.ov⟩) (set_get hx' _) (j := 2) (by decide) v9 rfl
  rw [List.set_set] at M3
  have M4 := M3.put (e' := ⟨backF x.f BA lk, [], v7, v9, .slice none 0 0⟩) (set_get hx' _) (j := 3) (by decide) (.slice none 0 0) rfl
  rw [List.set_set] at M4
  have hjl : j < s.l.length := by rw [H.l, List.length_map]; exact (List.getElem?_eq_some_iff.1 hx).1
  have hfx : s.l[j]? = some x.f := by rw [H.l, List.getElem?_map, hx]; rfl
  have hfx2 : s.l[j] = x.f := by rw [List.getElem?_eq_getElem hjl] at hfx; exact Option.some.inj hfx
  have htk : s.l.take (j + 1) = s.l.take j ++ [x.f] := by rw [List.take_add_one, hfx]; rfl
  have hdr : s.l.drop j = x.f :: s.l.drop (j + 1) := by rw [List.drop_eq_getElem_cons hjl, hfx2]
  have f7 : ∀ {base : Nat} {v : Value} {xs : List Value}, Own w6 base 5 1 v N xs → Own ((((w6.setCell ⟨g, j * 4, none⟩ (.string sx)).setCell ⟨g, j * 4 + 1, none⟩ v7).setCell ⟨g, j * 4 + 2, none⟩ v9).setCell ⟨g, j * 4 + 3, none⟩ (.slice none 0 0)) base 5 1 v N xs := fun ow =>
    M3.far8 (M2.far8 (M1.far8 (M0.far8 ow (j * 4) _) (j * 4 + 1) _) (j * 4 + 2) _) (j * 4 + 3) _
  have hs1 := o.mid.only.size
  refine ⟨M4, by rw [List.length_set]; exact o.len, ?_, fun t ht => ?_, fun t e ht he => ?_⟩
  · rw [List.map_set, o.map, hdr, htk, backL_snoc, Nat.zero_add, ← hBA]
    have hl : (backL lk (s.l.take j) 0).length = j := by rw [backL_length, List.length_take]; omega
    rw [List.set_append_right _ _ (by omega), hl, Nat.sub_self, List.set_cons_zero, List.append_assoc]
    rfl
  · rw [List.getElem?_set, if_neg (by omega)]
    exact o.rest t (by omega)
  · rw [List.getElem?_set] at he
    by_cases e1 : j = t
    · rw [if_pos e1, if_pos (by have := (List.getElem?_eq_some_iff.1 hx').1; exact this)] at he
      obtain rfl := Option.some.inj he
      have A7 := f7 (o7.keep k6)
      have A9 := f7 o6
      exact ⟨own_len (by show N = (backB x.f (keptF x.f BA lk)).length; rw [← hNB]; exact hNl.symm) (by have := A7.base_le (Nat.zero_le _); rw [hNB] at this; exact this), own_len (by show N = (backB x.f (keptF x.f BA lk)).length; rw [← hNB]; exact hNl.symm) (by have := A9.base_le (Nat.zero_le _); rw [hNB] at this; exact this), Own.nil _ _ _ _, fun q => by simp [backF], Nat.zero_le _,
        mid_new M4 (by omega) A7, mid_new M4 (by have := k7.size; omega) A9, fun q hq => by simp [Value.ownBlock] at hq⟩
    · rw [if_neg e1] at he
      have E := (o.done t e (by omega) he).keep kk
      have E4 := (((E.store M0.row (j * 4) (.string sx)).store M1.row (j * 4 + 1) v7).store M2.row (j * 4 + 2) v9).store M3.row (j * 4 + 3) (.slice none 0 0)
      refine E4.sub (fun i hi => ?_)
      rcases hi with hi | hi
      · exact .inl hi
      · exact .inr ⟨hi.1, by have := kk.size; simp; omega⟩
end
section
variable {w w' wF : World} {b : Nat} {F : Nat → Prop} {s : Ds} {A : Option Addr} {c : Nat} {es : List Ent}
set_option maxHeartbeats 16000000 in
theorem Rk.on_any (h : Rk w b F s A c es) (hm : es.length ≤ 70000) (AK : Option Addr) (nk ck : Nat) (lk : List Int) (hK : At w w.heap.size AK (intC lk)) (hKF : ∀ ad, AK = some ad → lk ≠ [] → ¬ F ad.block) (hnk : nk = lk.length) (hck : nk ≤ ck) (hk7 : nk ≤ 70000) :
    Calls Tryz.prog 123 #[dpt b, .slice AK nk ck] w fun e w' => e = .returned (.int .i64 ((onS s lk).2 : Int)) ∧ ∃ F', Rd w' b F' (onS s lk).1 ∧ Turns w w' F F' := by
  obtain ⟨i1, hi1, hy0, hy1, hy2⟩ := info_parts info_b8
  have H := Lib.hid h
  have c3 : w.cell? ⟨b, 3, none⟩ = some (.bool s.off) := h.box.cell 3 rfl
  have hl := h.box.lt
  cases ho : s.off with
  | false =>
    have e : onS s lk = (s, 14) := by unfold onS; rw [ho]; rfl
    rw [e]
    rw [ho] at c3
    unfold dpt
    clear h e
    go_enter Tryz.func123, Tryz.ntmps123
    go_wp2_with fail
    go_ret
    exact ⟨rfl, F, ⟨A, c, es, H.out⟩, Turns.refl _ _⟩
  | true =>
    have e : onS s lk = (⟨backL lk s.l 0, s.q, 0, false⟩, 0) := by unfold onS; rw [ho]; simp
    rw [e]
    rw [ho] at c3
    have f3 := h.box.frozen 3
    have f2 := h.box.frozen 2
    rcases h.row.2 with ⟨hv, hz⟩ | ⟨g, cap, cur, fz, hv, -⟩
    · have hes : es = [] := List.eq_nil_of_length_eq_zero (by injection hv)
      have hls : s.l = [] := by rw [h.l, hes]; rfl
      have hA : A = none := by injection hv
      have hcc : c = 0 := by injection hv
      subst hes hA hcc
      have OnZero := Lib.hid (h.on_zero lk hls)
      have c0 : w.cell? ⟨b, 0, none⟩ = some (.slice none 0 0) := h.box.cell 0 rfl
      have c2 : w.cell? ⟨b, 2, none⟩ = some (.int .i64 (s.armed : Int)) := h.box.cell 2 rfl
      unfold dpt
      clear h e
      rw [hls]
      go_enter Tryz.func123, Tryz.ntmps123
      go_wp2_with fail
      go_loopw [5, 6] (fun pl i wr => pl = .int .i64 0 ∧ i = .int .i64 0 ∧ wr = w) (fun _ i _ => 0)
      case atStart => exact ⟨rfl, rfl, rfl⟩
      case round =>
        obtain ⟨rfl, rfl, rfl⟩ := hrel
        go_wp2_with fail
        go_ret
        have U := OnZero.out
        exact ⟨rfl, _, ⟨_, _, _, U.1⟩, U.2⟩
    · obtain rfl : A = some ⟨g, 0, none⟩ := by injection hv
      clear hv
      have BX := Lib.hid h.box
      obtain ⟨n, hn2⟩ : ∃ n, n = es.length := ⟨_, rfl⟩
      have HN := Lib.hid hn2
      have c0 : w.cell? ⟨b, 0, none⟩ = some (.slice (some ⟨g, 0, none⟩) n c) := by rw [hn2]; exact h.box.cell 0 rfl
      have HK := Lib.hid (show ∀ (V : World), Only w V (Core b (.slice (some ⟨g, 0, none⟩) n c)) → At V V.heap.size AK (intC lk) from fun V t => by
        by_cases hl : lk = []
        · rw [hl]; exact At.nil _ _ _
        · rw [hn2] at t
          exact Turns.at_ (turns_more t h.core) hK (fun ad ha => hKF ad ha hl))
      have HNK := Lib.hid hnk
      have HCK := Lib.hid hck
      have HK7 := Lib.hid hk7
      have ni : (n : Int) ≤ 70000 := by omega
      have HES := Lib.hid h.l
      have START := Lib.hid (show OnAt w w F b g c s n es es lk 0 from ⟨h.mid hn2, hn2.symm, by rw [← h.l]; rfl, fun t ht => rfl, fun t e ht => by omega⟩)
      have LOK := Lib.hid h.lok
      unfold dpt
      clear h e hK hKF hnk hck hk7 hn2
      go_enter Tryz.func123, Tryz.ntmps123
      go_wp2_with fail
      go_loopw [5, 6] (fun pl i wr => ∃ (j : Nat) (es' : List Ent), j ≤ n ∧ i = .int .i64 (j : Int) ∧ pl = .int .i64 ((placesL (s.l.take j)).length : Int) ∧ Hid (OnAt w wr F b g c s n es es' lk j)) (fun _ i _ => n - (intOf i).toNat)
      case atStart => exact ⟨0, es, Nat.zero_le _, rfl, rfl, START⟩
      case round =>
        obtain ⟨j, es', hj, rfl, rfl, ON⟩ := hrel
        by_cases hlt : j < n
        · have hji : (j : Int) < (n : Int) := by omega
          rename World => W1
          obtain ⟨BA, hBA⟩ : ∃ y, y = (placesL (s.l.take j)).length := ⟨_, rfl⟩
          rw [← hBA]
          have HBA := Lib.hid hBA
          clear hBA
          obtain ⟨x, hx⟩ : ∃ x, es[j]? = some x := ⟨_, List.getElem?_eq_getElem (by have := HN.out; omega)⟩
          have hx' : es'[j]? = some x := by rw [ON.out.rest j (Nat.le_refl _)]; exact hx
          obtain ⟨fo, eo⟩ := H.out.ok hx
          have EN := Lib.hid (ON.out.mid.ent H.out HN.out eo)
          obtain ⟨A1, c1, e1, hc1, hcm1, -⟩ := EN.out.now.form
          obtain ⟨A2, c2, e2, hc2, hcm2, -⟩ := EN.out.lasts.form
          obtain ⟨A3, c3', e3, hc3, hcm3, -⟩ := EN.out.loose.form
          obtain ⟨m1, hm1⟩ : ∃ m, m = x.f.now.length := ⟨_, rfl⟩
          obtain ⟨m2, hm2⟩ : ∃ m, m = x.f.lasts.length := ⟨_, rfl⟩
          obtain ⟨m3, hm3⟩ : ∃ m, m = x.bs.length := ⟨_, rfl⟩
          rw [← hm1] at e1 hc1
          rw [← hm2] at e2 hc2
          rw [← hm3] at e3 hc3
          have HM1 := Lib.hid hm1
          have HM2 := Lib.hid hm2
          have HM3 := Lib.hid hm3
          have EC := Lib.hid (show entC x = [.string (str x.f.name), .slice A1 m1 c1, .slice A2 m2 c2, .slice A3 m3 c3'] by unfold entC strV; rw [e1, e2, e3])
          obtain ⟨q0, r0⟩ := ON.out.mid.cell hx' 0 (by decide)
          obtain ⟨q1, r1⟩ := ON.out.mid.cell hx' 1 (by decide)
          obtain ⟨q2, r2⟩ := ON.out.mid.cell hx' 2 (by decide)
          obtain ⟨q3, r3⟩ := ON.out.mid.cell hx' 3 (by decide)
          rw [EC.out] at q0 q1 q2 q3
          have q0' : W1.cell? ⟨g, j * 4, none⟩ = some (.string (str x.f.name)) := q0
          have q1' : W1.cell? ⟨g, j * 4 + 1, none⟩ = some (.slice A1 m1 c1) := q1
          have q2' : W1.cell? ⟨g, j * 4 + 2, none⟩ = some (.slice A2 m2 c2) := q2
          have q3' : W1.cell? ⟨g, j * 4 + 3, none⟩ = some (.slice A3 m3 c3') := q3
          have d0 := ON.out.mid.c0
          have mi1 : m1 ≤ 16777216 := by have := fo.size; omega
          have mi2 : m2 ≤ m1 := by have := fo.lasts; omega
          have mi3 : m3 ≤ sect m1 := by have h1 := eo.few; rw [← hm1, ← hm3] at h1; exact h1
          have m3i : (m3 : Int) ≤ 262144 := by unfold sect at mi3; omega
          have MI1 := Lib.hid mi1
          have MI2 := Lib.hid mi2
          have MI3 := Lib.hid mi3
          have hbl : b < W1.heap.size := ON.out.mid.box.lt
          have hgl : g < W1.heap.size := (ON.out.mid.row.lt g rfl).2
          have hgf : g ≠ W1.heap.size := by omega
          have hbf : b ≠ W1.heap.size := by omega
          have HGF := Lib.hid hgf
          have HBF := Lib.hid hbf
          have HBL := Lib.hid hbl
          have HGL := Lib.hid hgl
          generalize hsx : str x.f.name = sx at *
          have HSX := Lib.hid hsx
          have HX := Lib.hid hx
          have HX2 := Lib.hid hx'
          have FO := Lib.hid fo
          have FL := Lib.hid eo.flag
          have E1 := Lib.hid e1
          have E2 := Lib.hid e2
          have E3 := Lib.hid e3
          have HB1 := Lib.hid (show Bs W1 A1 x.f.now by have := EN.out.now; rw [e1, ← hm1] at this; exact this.at_)
          have HB2 := Lib.hid (show Bs W1 A2 x.f.lasts by have := EN.out.lasts; rw [e2, ← hm2] at this; exact this.at_)
          have HO3 := Lib.hid (show Own W1 0 4 1 (.slice A3 m3 c3') m3 (bolC x.bs) by have := EN.out.loose; rw [e3, ← hm3] at this; exact this)
          have LC2 := Lib.hid (show (cel x.f.lasts).length = m2 by rw [cel_length]; exact hm2.symm)
          have LC3 := Lib.hid (show (bolC x.bs).length = m3 by rw [bolC_length]; exact hm3.symm)
          have KF := Lib.hid (keeps_alloc W1 (.cells #[.string sx, .slice A1 m1 c1, .slice A2 m2 c2, .slice A3 m3 c3'] 155))
          have BF := Lib.hid (Box.new W1 155 #[.string sx, .slice A1 m1 c1, .slice A2 m2 c2, .slice A3 m3 c3'])
          have S0 : (W1.alloc (.cells #[.string sx, .slice A1 m1 c1, .slice A2 m2 c2, .slice A3 m3 c3'] 155)).heap.size = W1.heap.size + 1 := by simp
          have SZ0 := Lib.hid S0
          have oz := own_empty (W1.alloc (.cells #[.string sx, .slice A1 m1 c1, .slice A2 m2 c2, .slice A3 m3 c3'] 155)) 5 1
          rw [S0] at oz
          have OZ := Lib.hid oz
          have K1 := Lib.hid (keeps_alloc (W1.alloc (.cells #[.string sx, .slice A1 m1 c1, .slice A2 m2 c2, .slice A3 m3 c3'] 155)) (.cells #[] 5))
          have K0 := Lib.hid (keeps_trans KF.out K1.out)
          clear fo eo hx hx' q0 q1 q2 q3 hm1 hm2 hm3 e1 e2 e3 hsx hc1 hcm1 hc2 hcm2 hcm3 mi1 mi2 mi3 hgf hbf S0 oz hlt
          go_wp2_with (first
            | (at_builtin; refine wpList_app _ rfl _ _ 22 rfl (W1.heap.size + 1) 5 i1 (.int .u8 0) 1 1 Tryz.underlying22 hi1 hy0 hy1 hy2 rfl (by decide) _ 0 [] rfl OZ.out _ A2 m2 c2 (cel x.f.lasts) rfl (by rw [LC2.out, Nat.mul_one]) (HB2.out.keep K0.out) (cel_one _) (by have := MI1.out; have := MI2.out; unfold maxLen; omega) (by have := MI1.out; have := MI2.out; omega) (by simp) ?_; intro v6 w6 o6 g6' b6; have k6 : Keeps (W1.alloc (.cells #[.string sx, .slice A1 m1 c1, .slice A2 m2 c2, .slice A3 m3 c3'] 155)) w6 := Below.grown K1.out g6' K1.out.size (fun g hg => by have := (OZ.out.lt g hg).1; rw [SZ0.out]; exact this); rw [Nat.zero_add, List.nil_append] at o6; have O6 := Lib.hid o6; have K6 := Lib.hid k6; clear o6 g6' b6 k6))
          have B6 := Lib.hid (BF.out.keep K6.out)
          have KR := Lib.hid (keeps_trans KF.out K6.out)
          generalize W1.alloc (.cells #[.string sx, .slice A1 m1 c1, .slice A2 m2 c2, .slice A3 m3 c3'] 155) = W0 at *
          have ME := Lib.hid (show BA + m3 ≤ 1000000000000 by have h1 := places_used (s.l.take j); have h2 := used_le_take s.l j; have h3 := LOK.out.used; have h4 := HBA.out; have h5 := MI3.out; have h6 := MI1.out; unfold sect at h5; omega)
          have st : Own w6 (W1.heap.size + 1) 5 1 v6 m2 (cel (backB x.f (keptTo x.f BA lk 0))) := by rw [keptTo_zero]; exact O6.out
          clear q0' q1' q2' q3' d0 OZ K1 K0 KF BF
          go_loopw [5, 8, 9] (fun pl v kk wz => ∃ k N P : Nat, k ≤ m3 ∧ kk = .int .i64 (k : Int) ∧ pl = .int .i64 (P : Int) ∧ Hid (P = BA + ahead x.f k) ∧ Own wz (W1.heap.size + 1) 5 1 v N (cel (backB x.f (keptTo x.f BA lk k))) ∧ Keeps W1 wz ∧ Box wz W1.heap.size 155 #[.string sx, .slice A1 m1 c1, .slice A2 m2 c2, .slice A3 m3 c3']) (fun _ _ kk _ => m3 - (intOf kk).toNat)
          case atStart => exact ⟨0, m2, BA, Nat.zero_le _, rfl, rfl, Lib.hid rfl, st, KR.out, B6.out⟩
          case round =>
            obtain ⟨k, N, P, hk, rfl, rfl, hP, o7, k7, b7⟩ := hrel
            obtain ⟨A7, c7, rfl, hc7, hc7', -, -⟩ := o7.form
            have f3 := b7.cell 3 rfl
            have PB : (P : Int) ≤ 1000000000000 := by have := ME.out; have := hP.out; have := ahead_le x.f k; omega
            by_cases hlt : k < m3
            · have hki : (k : Int) < (m3 : Int) := by omega
              have HO3k := Lib.hid (HO3.out.keep k7)
              obtain ⟨g3, rfl, z3, -⟩ := HO3k.out.cell (j := k) (by rw [LC3.out]; exact hlt)
              have hbk : (bolC x.bs)[k]? = some (.bool (x.bs.getD k false)) := by
                unfold bolC
                rw [List.getElem?_map, List.getElem?_eq_getElem (by rw [← HM3.out]; exact hlt), List.getD_eq_getElem?_getD, List.getElem?_eq_getElem (by rw [← HM3.out]; exact hlt)]
                rfl
              rw [hbk] at z3
              have hlo := FL.out k
              clear hbk
              cases hb : x.bs.getD k false with
              | false =>
                rw [hb] at z3 hlo
                have st := o7
                rw [← keptTo_skip x.f BA lk k (by unfold keptF; rw [hlo]; rfl)] at st
                have hP2 := Lib.hid (show P = BA + ahead x.f (k + 1) by rw [ahead_succ, hlo]; have := hP.out; simpa using this)
                go_wp2_with fail
                exact ⟨⟨k + 1, N, P, by omega, by go_num, rfl, hP2, st, k7, b7⟩, by simp [intOf]; omega⟩
              | true =>
                rw [hb] at z3 hlo
                have HLO := Lib.hid hlo
                have HS := Lib.hid (refHas_any AK nk ck lk (P : Int) wr (HK.out wr (ON.out.mid.only.keep k7)) HNK.out (by have := HK7.out; omega))
                have hP2 := Lib.hid (show P + 1 = BA + ahead x.f (k + 1) by rw [ahead_succ, hlo]; have := hP.out; simp; omega)
                cases hc : lk.contains (P : Int) with
                | false =>
                  rw [hc] at HS
                  have st := o7
                  rw [← keptTo_skip x.f BA lk k (by unfold keptF; rw [hlo]; have := hP.out; unfold ahead at this; rw [← this, hc]; rfl)] at st
                  clear hlo hc
                  go_wp2_with (go_at_call 160; refine HS.out.mono ?_; rintro e w' ⟨rfl, rfl⟩)
                  exact ⟨⟨k + 1, N, P + 1, by omega, by go_num, by go_num, hP2, st, k7, b7⟩, by simp [intOf]; omega⟩
                | true =>
                  rw [hc] at HS
                  have KEPT := Lib.hid (show keptF x.f BA lk k = true by unfold keptF; rw [hlo]; have := hP.out; unfold ahead at this; rw [← this, hc]; rfl)
                  have hk64 : 64 * k < m1 := by have := FO.out.loose k hlo; rw [← HM1.out] at this; unfold sect at this; omega
                  obtain ⟨t1, ht1⟩ : ∃ t, t = 64 * (k + 1) := ⟨_, rfl⟩
                  obtain ⟨t0, ht0⟩ : ∃ t, t = 64 * k := ⟨_, rfl⟩
                  obtain ⟨e, he⟩ : ∃ e, e = min t1 m1 := ⟨_, rfl⟩
                  have hmu : (64 : Int) * ((k : Int) + 1) = (t1 : Int) := by omega
                  have hmu0 : (64 : Int) * (k : Int) = (t0 : Int) := by omega
                  have hkb : (k : Int) ≤ 262144 := by omega
                  have ht1b : (t1 : Int) ≤ 16777280 := by omega
                  have ht0b : (t0 : Int) ≤ 16777280 := by omega
                  have mn : ∀ (ts : Array TypeId) (t' : TypeId) (w : World), (Builtin.min_ ts t' #[.int .i64 (t1 : Int), .int .i64 (m1 : Int)]).run Tryz.prog w = .ok (.int .i64 (e : Int)) w := by
                    intro ts t' w
                    rw [run_min_int2]
                    congr 2
                    split <;> omega
                  have heb : (e : Int) ≤ 16777216 := by have := MI1.out; omega
                  have HE := Lib.hid (show e = secE x.f.now k by rw [secE_min, ← HM1.out, he, ht1])
                  have HT0 := Lib.hid ht0
                  have HTE := Lib.hid (show t0 ≤ e by omega)
                  have HEM := Lib.hid (show e ≤ m1 by omega)
                  have HK64 := Lib.hid hk64
                  obtain ⟨B0, hB0⟩ : ∃ B0, B0 = backB x.f (keptTo x.f BA lk k) := ⟨_, rfl⟩
                  rw [← hB0] at o7
                  have HB0 := Lib.hid hB0
                  have hBN : B0.length = N := by have := o7.1; rw [cel_length] at this; omega
                  have HBN := Lib.hid hBN
                  have NB := Lib.hid (show N ≤ 16777216 by rw [← hBN, hB0]; have h1 := backB_bounds x.f (keptTo x.f BA lk k) FO.out.lasts; have := MI1.out; have := HM1.out; omega)
                  have f1 := b7.cell 1 rfl
                  have st : Own wr (W1.heap.size + 1) 5 1 (.slice A7 N c7) N (cel (padW B0 0)) := by rw [padW_zero]; exact o7
                  have HP := Lib.hid hP2
                  have B7 := Lib.hid b7
                  have K7 := Lib.hid k7
                  have KLT := Lib.hid hlt
                  clear hlo hc ht1 ht0 he hB0 hk64 hBN
                  go_wp2_with (go_at_call 160; refine HS.out.mono ?_; rintro e w' ⟨rfl, rfl⟩)
                  rename World => W2
                  go_loopw [8] (fun v wz => ∃ i N2 : Nat, i ≤ e - N ∧ Hid (N2 = N + i) ∧ Own wz (W1.heap.size + 1) 5 1 v N2 (cel (padW B0 i)) ∧ Keeps W1 wz ∧ Box wz W1.heap.size 155 #[.string sx, .slice A1 m1 c1, .slice A2 m2 c2, .slice (some ⟨g3, 0, none⟩) m3 c3']) (fun v _ => e - sizeV v)
                  case atStart => exact ⟨0, N, Nat.zero_le _, Lib.hid rfl, st, K7.out, B7.out⟩
                  case round =>
                    obtain ⟨i, N2, hi, hN2, o8, k8, b8⟩ := hrel
                    obtain ⟨A8, c8, rfl, hc8, hc8', -, -⟩ := o8.form
                    have S8 := Lib.hid k8.size
                    by_cases hlt2 : i < e - N
                    · have hlt3 : (N2 : Int) < (e : Int) := by have := hN2.out; omega
                      go_wp2_with (first
                        | (at_builtin; refine wpList_app _ rfl _ _ 22 rfl (W1.heap.size + 1) 5 i1 (.int .u8 0) 1 1 Tryz.underlying22 hi1 hy0 hy1 hy2 rfl (by decide) _ _ _ rfl (o8.keep (keeps_alloc _ _)) (wr.heap.size + 1) _ 1 1 [.int .u8 0] rfl rfl (At.new _ _ _ _ (by omega)) (fun u hu => by simp at hu; subst hu; rfl) (by unfold maxLen; omega) (by omega) (by have := b8.lt; simp; omega) ?_; intro v6 w9 o6 g6 b6; have k9 : Keeps W1 w9 := Below.grown (keeps_trans k8 (keeps_alloc wr _)) g6 (by have := S8.out; simp; omega) (fun g hg => by have := (o8.lt g hg).1; omega); have b9 : Box w9 W1.heap.size 155 #[.string sx, .slice A1 m1 c1, .slice A2 m2 c2, .slice (some ⟨g3, 0, none⟩) m3 c3'] := (g6.block _ (by have := b8.lt; simp; omega) (fun e => by have := (o8.lt W1.heap.size e.symm).1; omega)).trans (b8.keep (keeps_alloc wr _)); rw [← padW_succ] at o6; obtain ⟨A6, c6, rfl, hc6, hc6', -, -⟩ := o6.form))
                      go_roundw
                      case rel => exact ⟨i + 1, N2 + 1, by omega, Lib.hid (by have := hN2.out; omega), o6, k9, b9⟩
                      case measure => simp [sizeV]; omega
                    · obtain rfl : i = e - N := by omega
                      have hge : (e : Int) ≤ (N2 : Int) := by have := hN2.out; omega
                      obtain ⟨PB, hPB⟩ : ∃ PB, PB = padB B0 e := ⟨_, rfl⟩
                      have hpw : padW B0 (e - N) = PB := by rw [hPB, ← padW_padB, HBN.out]
                      rw [hpw] at o8
                      have HPB := Lib.hid hPB
                      have LPB := Lib.hid (show PB.length = N2 by have := o8.1; rw [cel_length] at this; omega)
                      have st2 : Own wr (W1.heap.size + 1) 5 1 (.slice A8 N2 c8) N2 (cel (keepAt PB x.f.now t0 t0)) := by
                        rw [keepAt_zero _ _ _ (by have := HTE.out; have := HEM.out; have := HM1.out; omega) (by have := HTE.out; rw [LPB.out]; omega)]; exact o8
                      have f4 := b8.cell 1 rfl
                      have B8 := Lib.hid b8
                      have K8 := Lib.hid k8
                      have HN2 := Lib.hid hN2
                      clear hlt2 hi hpw hPB o8 hc8 hc8'
                      go_wp2_with fail
                      rename World => W3
                      go_loopw [11] (fun jj wz => ∃ t : Nat, t0 ≤ t ∧ t ≤ e ∧ jj = .int .i64 (t : Int) ∧ Own wz (W1.heap.size + 1) 5 1 (.slice A8 N2 c8) N2 (cel (keepAt PB x.f.now t0 t)) ∧ Keeps W1 wz ∧ Box wz W1.heap.size 155 #[.string sx, .slice A1 m1 c1, .slice A2 m2 c2, .slice (some ⟨g3, 0, none⟩) m3 c3']) (fun jj _ => e - (intOf jj).toNat)
                      case atStart => exact ⟨t0, Nat.le_refl _, HTE.out, rfl, st2, K8.out, B8.out⟩
                      case round =>
                        obtain ⟨t, ht, hte, rfl, o9, k9, b9⟩ := hrel
                        by_cases hlt4 : t < e
                        · have hti : (t : Int) < (e : Int) := by omega
                          have htm : (t : Int) < (m1 : Int) := by have := HEM.out; omega
                          have htn : (t : Int) < (N2 : Int) := by omega
                          have TL := Lib.hid (show t < x.f.now.length by have := HM1.out; omega)
                          have f5 := b9.cell 1 rfl
                          have LKA := Lib.hid (show (cel (keepAt PB x.f.now t0 t)).length = N2 by rw [cel_length, keepAt_length _ _ _ _ ht (by have := TL.out; omega) (by rw [LPB.out]; omega)]; exact LPB.out)
                          obtain ⟨ad, hA1, cB⟩ := (HB1.out.keep k9).at_ TL.out
                          obtain ⟨g8, rfl, z8, fz8, -⟩ := o9.cell (j := t) (by rw [LKA.out]; omega)
                          rw [cel_get _ (by have := LKA.out; rw [cel_length] at this; rw [this]; omega)] at z8
                          have oa := o9.store (j := t) (by rw [LKA.out]; omega) (.int .u8 ((x.f.now.getD t 0).toNat : Int))
                          rw [show (cel (keepAt PB x.f.now t0 t)).set t (.int .u8 ((x.f.now.getD t 0).toNat : Int)) = cel (keepAt PB x.f.now t0 (t + 1)) from by
                            rw [← keepAt_succ PB x.f.now t0 t ht TL.out (by rw [LPB.out]; omega)]; simp [cel, List.map_set]] at oa
                          have hg8 := (o9.lt g8 rfl).1
                          have ba := Lib.hid (b9.far (p := ⟨g8, t, none⟩) (show W1.heap.size ≠ g8 by omega) (.int .u8 ((x.f.now.getD t 0).toNat : Int)))
                          have ka := Lib.hid (keeps_store (A := none) (j := t) k9 o9 (Nat.le_succ _) (.int .u8 ((x.f.now.getD t 0).toNat : Int)))
                          have OA := Lib.hid oa
                          subst hA1
                          clear oa o9 k9 b9
                          generalize (x.f.now.getD t 0).toNat = lj at *
                          generalize ((keepAt PB x.f.now t0 t).getD t 0).toNat = old at *
                          go_wp2_with fail
                          go_roundw
                          case rel => exact ⟨t + 1, by omega, by omega, by go_num, OA.out, ka.out, ba.out⟩
                          case measure => simp [intOf]; omega
                        · obtain rfl : t = e := by omega
                          have hke : keepAt PB x.f.now t0 t = backB x.f (keptTo x.f BA lk (k + 1)) := by
                            rw [HPB.out, HT0.out, HE.out, ← keepB_at, HB0.out]
                            exact keptTo_take x.f BA lk k KEPT.out (by rw [← HM1.out]; exact HK64.out)
                          rw [hke] at o9
                          clear hke hlt4 ht hte
                          go_wp2_with fail
                          exact ⟨⟨k + 1, N2, P + 1, by have := KLT.out; omega, by go_num, by go_num, HP, o9, k9, b9⟩, by have := KLT.out; simp [intOf]; omega⟩
            · obtain rfl : k = m3 := by omega
              have hall : keptTo x.f BA lk k = keptF x.f BA lk := keptTo_all _ _ _ _ (fun q hq => by rw [FL.out q, List.getD_eq_getElem?_getD, List.getElem?_eq_none (by rw [← HM3.out]; exact hq)]; rfl)
              obtain ⟨NB, hNB⟩ : ∃ NB, NB = backB x.f (keptF x.f BA lk) := ⟨_, rfl⟩
              rw [hall, ← hNB] at o7
              have HNB := Lib.hid hNB
              have LNB := Lib.hid (show (cel NB).length = N by have := o7.1; omega)
              have NB2 := Lib.hid (show N ≤ 16777216 by have h0 := LNB.out; rw [cel_length] at h0; rw [← h0, hNB]; have h1 := backB_bounds x.f (keptF x.f BA lk) FO.out.lasts; have := MI1.out; have := HM1.out; omega)
              have AHD := Lib.hid (show P = BA + (looseF x.f).length by
                rw [looseF_ahead, ahead_all x.f k (fun q hq => by rw [FL.out q, List.getD_eq_getElem?_getD, List.getElem?_eq_none (by rw [← HM3.out]; exact hq)]; rfl) _ (by rw [← HM1.out]; exact MI3.out)]; exact hP.out)
              have O7 := Lib.hid o7
              have K7 := Lib.hid k7
              have B7 := Lib.hid b7
              have MW := Lib.hid (ON.out.mid.keep k7)
              have d0 := MW.out.c0
              have f0 := b7.cell 0 rfl
              clear hall hNB o7 k7 hlt hk hP st hc7 hc7' b7
              rename World => W2
              go_wp2_with fail
              have k0 := keeps_trans (keeps_drew W2) (keeps_alloc W2.drew (.cells #[] 5))
              have O0 := Lib.hid (own_empty W2.drew 5 1)
              have BB := Lib.hid (show Bs (W2.drew.alloc (.cells #[] 5)) A7 NB from Bs.keep (O7.out.at_) k0)
              have QS := Lib.hid (fun (X : World) (kk : Keeps W2 X) => And.intro ((MW.out.keep kk).c0) ((B7.out.keep kk).cell 0 rfl : X.cell? ⟨W1.heap.size, 0, none⟩ = some (.string sx)))
              have QT := Lib.hid (fun (X : World) (kk : Keeps W2 X) (u0 u1 u2 u3 : Value) => And.intro
                (((((MW.out.keep kk).box.far (p := ⟨g, j * 4, none⟩) MW.out.ne u0).far (p := ⟨g, j * 4 + 1, none⟩) MW.out.ne u1).far (p := ⟨g, j * 4 + 2, none⟩) MW.out.ne u2).far (p := ⟨g, j * 4 + 3, none⟩) MW.out.ne u3 |>.cell 0 rfl : ((((X.setCell ⟨g, j * 4, none⟩ u0).setCell ⟨g, j * 4 + 1, none⟩ u1).setCell ⟨g, j * 4 + 2, none⟩ u2).setCell ⟨g, j * 4 + 3, none⟩ u3).cell? ⟨b, 0, none⟩ = some (.slice (some ⟨g, 0, none⟩) n c))
                (((((B7.out.keep kk).far (p := ⟨g, j * 4, none⟩) (fun e => HGF.out e.symm) u0).far (p := ⟨g, j * 4 + 1, none⟩) (fun e => HGF.out e.symm) u1).far (p := ⟨g, j * 4 + 2, none⟩) (fun e => HGF.out e.symm) u2).far (p := ⟨g, j * 4 + 3, none⟩) (fun e => HGF.out e.symm) u3 |>.cell 0 rfl : ((((X.setCell ⟨g, j * 4, none⟩ u0).setCell ⟨g, j * 4 + 1, none⟩ u1).setCell ⟨g, j * 4 + 2, none⟩ u2).setCell ⟨g, j * 4 + 3, none⟩ u3).cell? ⟨W1.heap.size, 0, none⟩ = some (.string sx)))
              go_region_held3 (fun V => V.cell? ⟨b, 0, none⟩ = some (.slice (some ⟨g, 0, none⟩) n c) ∧ V.cell? ⟨W1.heap.size, 0, none⟩ = some (.string sx)) (first | exact QS.out _ (by first | assumption | exact keeps_refl _ | exact keeps_drew _ | exact k0) | exact QT.out _ (by assumption) _ _ _ _) (first
                | ((refine step_appD _ rfl _ _ 22 rfl W2.heap.size 5 i1 (.int .u8 0) 1 1 Tryz.underlying22 hi1 hy0 hy1 hy2 rfl (by decide) _ 0 [] (by simp [Act.eval, Act.put]) O0.out _ A7 N c7 (cel NB) (by simp [Act.eval, Act.put]) (by rw [LNB.out, Nat.mul_one]) BB.out (cel_one _) (by have := NB2.out; unfold maxLen; omega) (by have := NB2.out; omega) (by simp) ?_); intro v6 w6 hown6 hgrow6 hblk6; have k6 : Keeps W2 w6 := Below.grown k0 hgrow6 k0.size (fun g hg => (O0.out.lt g hg).1); have O6 := Lib.hid (show Own w6 W2.heap.size 5 1 v6 N (cel NB) by simpa using hown6); obtain ⟨A9, c9, rfl, -⟩ := O6.out.form; obtain ⟨z0, y0⟩ := (MW.out.keep k6).cell HX2.out 0 (by decide); obtain ⟨z1, y1⟩ := (MW.out.keep k6).cell HX2.out 1 (by decide); obtain ⟨z2, y2⟩ := (MW.out.keep k6).cell HX2.out 2 (by decide); obtain ⟨z3, y3⟩ := (MW.out.keep k6).cell HX2.out 3 (by decide); rw [EC.out] at z0 z1 z2 z3; have z0' : w6.cell? ⟨g, j * 4, none⟩ = some (.string sx) := z0; have y0' : w6.frozen? ⟨g, j * 4, none⟩ = false := y0; have z1' : w6.cell? ⟨g, j * 4 + 1, none⟩ = some (.slice A1 m1 c1) := z1; have z2' : w6.cell? ⟨g, j * 4 + 2, none⟩ = some (.slice A2 m2 c2) := z2; have z3' : w6.cell? ⟨g, j * 4 + 3, none⟩ = some (.slice A3 k c3') := z3; clear z0 z1 z2 z3 hown6 hgrow6 hblk6))
              have NEXT := Lib.hid (ON.out.step H.out HN.out HX.out K7.out k6 O7.out O6.out HNB.out HBA.out HSX.out)
              have hpl := Lib.hid (show P = (placesL (s.l.take (j + 1))).length by
                rw [show s.l.take (j + 1) = s.l.take j ++ [x.f] by rw [List.take_add_one, H.out.l, List.getElem?_map, HX.out]; rfl, placesL_snoc, ← HBA.out]; exact AHD.out)
              go_wp2_with fail
              exact ⟨⟨j + 1, _, by omega, by go_num, by rw [← hpl.out], NEXT⟩, by simp [intOf]; omega⟩
        · obtain rfl : j = n := by omega
          have d0 := ON.out.mid.c0
          have d2 : wr.cell? ⟨b, 2, none⟩ = some (.int .i64 (s.armed : Int)) := ON.out.mid.box.cell 2 rfl
          have d3 : wr.cell? ⟨b, 3, none⟩ = some (.bool s.off) := ON.out.mid.box.cell 3 rfl
          have y2 := ON.out.mid.box.frozen 2
          have y3 := ON.out.mid.box.frozen 3
          have B3 := (ON.out.mid.box.set 3 (.bool false))
          have e2 : (wr.setCell ⟨b, 3, none⟩ (.bool false)).cell? ⟨b, 2, none⟩ = some (.int .i64 (s.armed : Int)) := B3.cell 2 rfl
          have x2 := B3.frozen 2
          have B4 := Lib.hid (B3.set 2 (.int .i64 0))
          clear hlt hj B3
          go_wp2_with fail
          go_ret
          have U := ON.out.fin H.out HN.out rfl
          exact ⟨rfl, _, ⟨_, _, _, U.1⟩, U.2⟩
end
end Go.Proofs.YtkhfffflegiapaaGreatDoor
/- The reference's disk keeps the contracts. -/
namespace Go.Proofs.YtkhfffflegiapaaGreatDoor
open Go.RowKit
set_option linter.unusedSimpArgs false
set_option linter.unusedVariables false
set_option maxRecDepth 100000

theorem Rk.few {w : World} {b : Nat} {F : Nat → Prop} {s : Ds} {A : Option Addr} {c : Nat} {es : List Ent} (h : Rk w b F s A c es) (hm : s.l.length ≤ 70000) : es.length ≤ 70000 := by
  rw [h.l, List.length_map] at hm
  exact hm
def refOk : Ref.DiskOk where
  Z := fun _ => True
  keep := fun _ _ => trivial
  D := Rd
  lt := fun h i hi => by
    obtain ⟨A, c, es, h⟩ := h
    exact h.lt i hi
  same := fun h hs hz => h.same hs hz
  ok := fun h => by
    obtain ⟨A, c, es, h⟩ := h
    exact ⟨h.lok.rise, h.lok.files, h.q⟩
  new := fun q w _ h1 h2 => refNew_any q w h1 h2
  create := fun nm _ h hm hn => by
    obtain ⟨A, c, es, h⟩ := h
    exact h.create_any (h.few hm) nm hn
  remove := fun nm _ h hm hn => by
    obtain ⟨A, c, es, h⟩ := h
    exact h.remove_any (h.few hm) nm hn
  write := fun nm off A n c l _ h hm hn h1 h2 hB hF hl hc h7 => by
    obtain ⟨A', c', es, h⟩ := h
    exact h.write_any (h.few hm) nm off A n c l hn h1 h2 hB hF hl hc h7
  cut := fun nm n _ h hm hn h1 h2 => by
    obtain ⟨A, c, es, h⟩ := h
    exact h.cut_any (h.few hm) nm n hn h1 h2
  sync := fun nm _ h hm hn => by
    obtain ⟨A, c, es, h⟩ := h
    exact h.sync_any (h.few hm) nm hn
  read := fun nm off n _ h hm hn h1 h2 h3 h4 => by
    obtain ⟨A, c, es, h⟩ := h
    exact h.read_any (h.few hm) nm off n hn h1 h2 h3 h4
  size := fun nm _ h hm hn => by
    obtain ⟨A, c, es, h⟩ := h
    exact h.size_any (h.few hm) nm hn
  used := fun _ h hm => by
    obtain ⟨A, c, es, h⟩ := h
    refine (h.used_any (h.few hm)).mono ?_
    rintro e w' ⟨he, rfl⟩
    exact ⟨he, keeps_refl _⟩
  quota := fun n _ h hm h1 h2 => by
    obtain ⟨A, c, es, h⟩ := h
    exact h.quota_any n h1 h2
  arm := fun n _ h hm h1 h2 => by
    obtain ⟨A, c, es, h⟩ := h
    exact h.arm_any n h1 h2
  on := fun A n c l _ h hm hB hF hl hc h7 => by
    obtain ⟨A', c', es, h⟩ := h
    exact h.on_any (h.few hm) A n c l hB hF hl hc h7
  flip := fun nm i m _ h hm hn h1 h2 => by
    obtain ⟨A, c, es, h⟩ := h
    exact h.flip_any (h.few hm) nm i m hn h1 h2
  files := fun _ h hm => by
    obtain ⟨A, c, es, h⟩ := h
    exact h.files_any (h.few hm)
end Go.Proofs.YtkhfffflegiapaaGreatDoor
