/- The contract of milepostref04's Pop, where there is something. -/
import Derived.Test.YtldmecannmifiaaRefHeap2
namespace Go.Proofs.Ytldmecannmifiaa
open Go.RowKit
set_option linter.unusedSimpArgs false
set_option linter.unusedVariables false
set_option maxRecDepth 100000

/-- an item in a row -/
def ItG (W : World) (g j : Nat) (e : It) : Prop := W.cell? ⟨g, j * 2, none⟩ = some (.int .u64 (e.k : Int)) ∧ W.cell? ⟨g, j * 2 + 1, none⟩ = some (.int .u32 (e.i : Int))
theorem flat_get (l : List It) {j : Nat} {e : It} (h : l[j]? = some e) : (l.flatMap itC)[j * 2]? = some (.int .u64 (e.k : Int)) ∧ (l.flatMap itC)[j * 2 + 1]? = some (.int .u32 (e.i : Int)) := by
  have g : ∀ i, i < 2 → (l.flatMap itC)[j * 2 + i]? = (itC e)[i]? := fun i hi => by
    rw [flatMap_get itC 2 itC_length l hi, h]
    rfl
  exact ⟨g 0 (by decide), g 1 (by decide)⟩
theorem flat_len (l : List It) : (l.flatMap itC).length = l.length * 2 := flatMap_length itC 2 itC_length l
theorem own_item {W : World} {B g n cap : Nat} {T : TypeId} {l : List It} (h : Own W B T 2 (.slice (some ⟨g, 0, none⟩) n cap) n (l.flatMap itC)) {j : Nat} {e : It} (he : l[j]? = some e) : ItG W g j e ∧ W.frozen? ⟨g, j * 2, none⟩ = false ∧ W.frozen? ⟨g, j * 2 + 1, none⟩ = false := by
  have hj := (List.getElem?_eq_some_iff.1 he).1
  obtain ⟨f0, f1⟩ := flat_get l he
  obtain ⟨g', e', c0, z0, _⟩ := h.cell (j := j * 2) (by rw [flat_len]; omega)
  obtain ⟨g'', e'', c1, z1, _⟩ := h.cell (j := j * 2 + 1) (by rw [flat_len]; omega)
  injection e' with e'; injection e' with e'; subst e'
  injection e'' with e''; injection e'' with e''; subst e''
  exact ⟨⟨c0.trans f0, c1.trans f1⟩, z0, z1⟩
theorem ItG.keep {W V : World} {g j : Nat} {e : It} (h : ItG W g j e) (k : Keeps W V) : ItG V g j e := ⟨k.cellOf h.1, k.cellOf h.2⟩
/-- one item of a list is another one -/
theorem flat_set (l : List It) (a : Nat) (z : It) : ((l.flatMap itC).set (a * 2) (.int .u64 (z.k : Int))).set (a * 2 + 1) (.int .u32 (z.i : Int)) = (l.set a z).flatMap itC := by
  induction l generalizing a with
  | nil => simp
  | cons x l ih =>
    rcases a with _ | a
    · simp [itC]
    · have e : (a + 1) * 2 = a * 2 + 1 + 1 := by omega
      rw [e]
      simp only [List.flatMap_cons, itC, List.set_cons_succ, List.cons_append, List.nil_append]
      rw [← ih a]
theorem flat_take (l : List It) (m : Nat) : (l.flatMap itC).take (m * 2) = (l.take m).flatMap itC := by
  induction l generalizing m with
  | nil => simp
  | cons x l ih =>
    rcases m with _ | m
    · simp
    · have e : (m + 1) * 2 = m * 2 + 1 + 1 := by omega
      rw [e]
      simp only [List.flatMap_cons, itC, List.cons_append, List.nil_append, List.take_succ_cons]
      rw [ih m]
theorem Own.cut_ {W : World} {B g n cap m : Nat} {T : TypeId} {xs : List Value} (h : Own W B T 2 (.slice (some ⟨g, 0, none⟩) n cap) n xs) (hm : m ≤ n) : Own W B T 2 (.slice (some ⟨g, 0, none⟩) m cap) m (xs.take (m * 2)) := by
  refine ⟨by rw [List.length_take, h.1]; omega, ?_⟩
  rcases h.2 with ⟨hv, _⟩ | ⟨g', cap', cur, fz, hv, hb, hg, hz, h1, h2, h3, h4⟩
  · cases hv
  · injection hv with hA hn hc
    injection hA with hA
    injection hA with hA
    subst hA; subst hc
    refine .inr ⟨g, cap, cur, fz, rfl, hb, hg, hz, by omega, h2, h3, ?_⟩
    rw [← h4, List.take_take, Nat.min_eq_left (by omega)]
theorem set_perm {d : List It} {k : Nat} {x : It} (h : d[k]? = some x) (z : It) : (x :: d.set k z).Perm (z :: d) := by
  induction d generalizing k with
  | nil => simp at h
  | cons a d ih =>
    rcases k with _ | k
    · simp only [List.getElem?_cons_zero, Option.some.injEq] at h
      subst h
      exact List.Perm.swap _ _ _
    · have h' : d[k]? = some x := by simpa using h
      rw [List.set_cons_succ]
      exact (List.Perm.swap a x _).trans (((ih h').cons a).trans (List.Perm.swap z a _))
/-- what is left when x, which stands at a, goes, and the last one comes in its place -/
def popL (l : List It) (a : Nat) (z : It) : List It := (l.set a z).take (l.length - 1)
theorem popL_perm {l : List It} {a : Nat} {x z : It} (hx : l[a]? = some x) (hz : l[l.length - 1]? = some z) : (x :: popL l a z).Perm l := by
  have ha := (List.getElem?_eq_some_iff.1 hx).1
  unfold popL
  have hl : l = l.take (l.length - 1) ++ [z] := by
    have h1 : l.take (l.length - 1 + 1) = l.take (l.length - 1) ++ [z] := by
      have hk := (List.getElem?_eq_some_iff.1 hz).1
      rw [List.take_succ_eq_append_getElem hk]
      rw [List.getElem?_eq_getElem hk] at hz
      rw [Option.some.inj hz]
    rw [show l.length - 1 + 1 = l.length by omega, List.take_length] at h1
    exact h1
  rw [List.take_set]
  by_cases h : a = l.length - 1
  · subst h
    rw [hx] at hz
    obtain rfl := Option.some.inj hz
    rw [List.set_eq_of_length_le (by rw [List.length_take]; omega)]
    refine (List.perm_append_singleton x _).symm.trans ?_
    rw [← hl]
  · have hd : (l.take (l.length - 1))[a]? = some x := by rw [List.getElem?_take, if_pos (by omega)]; exact hx
    refine (set_perm hd z).trans ?_
    refine (List.perm_append_singleton z _).symm.trans ?_
    rw [← hl]
theorem popL_length {l : List It} {a : Nat} {z : It} : (popL l a z).length = l.length - 1 := by
  unfold popL
  rw [List.length_take, List.length_set]
  omega

set_option maxHeartbeats 4000000 in
theorem RefAt.popped {B : Nat} {w : World} {rb g cap : Nat} {l : List It} (h : RefAt B w rb (.slice (some ⟨g, 0, none⟩) l.length cap) l) {W : World} (k : Keeps w W) {a : Nat} (ha : a < l.length) (z : It) {s : Nat} (hs : w.heap.size ≤ s) (u u' : Value) :
    RefAt B (((((W.setCell ⟨g, a * 2, none⟩ (.int .u64 (z.k : Int))).setCell ⟨g, a * 2 + 1, none⟩ (.int .u32 (z.i : Int))).setCell ⟨rb, 0, none⟩ (.slice (some ⟨g, 0, none⟩) (l.length - 1) cap)).setCell ⟨s, 0, none⟩ u).setCell ⟨s, 1, none⟩ u') rb (.slice (some ⟨g, 0, none⟩) (l.length - 1) cap) (popL l a z) ∧
    Turns w (((((W.setCell ⟨g, a * 2, none⟩ (.int .u64 (z.k : Int))).setCell ⟨g, a * 2 + 1, none⟩ (.int .u32 (z.i : Int))).setCell ⟨rb, 0, none⟩ (.slice (some ⟨g, 0, none⟩) (l.length - 1) cap)).setCell ⟨s, 0, none⟩ u).setCell ⟨s, 1, none⟩ u') (RS rb (.slice (some ⟨g, 0, none⟩) l.length cap)) (RS rb (.slice (some ⟨g, 0, none⟩) (l.length - 1) cap)) := by
  have hg := h.own.lt g rfl
  have hrb := h.box.lt
  have hne : g ≠ rb := fun e => h.ne (by simp [Value.ownBlock, e])
  have hsg : g ≠ s := by omega
  have hsr : rb ≠ s := by omega
  have o1 := h.own.keep k
  have o2 := o1.store (j := a * 2) (by rw [flat_len]; omega) (.int .u64 (z.k : Int))
  have o3 := o2.store (j := a * 2 + 1) (by rw [List.length_set, flat_len]; omega) (.int .u32 (z.i : Int))
  rw [flat_set] at o3
  have o4 := o3.cut_ (m := l.length - 1) (by omega)
  rw [flat_take] at o4
  refine ⟨⟨?_, ?_, ?_, h.b⟩, ⟨⟨k.os, k.tape, k.output, ?_, fun i hi hn => ?_⟩, fun i hi => .inl hi⟩⟩
  · have b1 : Box W rb 28 #[.slice (some ⟨g, 0, none⟩) l.length cap] := h.box.keep k
    have b2 := ((((b1.far (p := ⟨g, a * 2, none⟩) (fun e => hne e.symm) (.int .u64 (z.k : Int))).far (p := ⟨g, a * 2 + 1, none⟩) (fun e => hne e.symm) (.int .u32 (z.i : Int))).set 0 (.slice (some ⟨g, 0, none⟩) (l.length - 1) cap)).far (p := ⟨s, 0, none⟩) hsr u).far (p := ⟨s, 1, none⟩) hsr u'
    simpa using b2
  · rw [popL_length]
    refine o4.same fun b hb => ?_
    obtain rfl : g = b := by simpa [Value.ownBlock] using hb
    rw [Below.heap_setCell _ ⟨s, 1, none⟩ _ g hsg, Below.heap_setCell _ ⟨s, 0, none⟩ _ g hsg, Below.heap_setCell _ ⟨rb, 0, none⟩ _ g hne]
  · intro e
    exact h.ne e
  · simp only [World.size_setCell]
    exact k.size
  · have i1 : i ≠ g := fun e => hn (.inr (by simp [Value.ownBlock, e]))
    have i2 : i ≠ rb := fun e => hn (.inl e)
    have i3 : i ≠ s := by omega
    rw [Below.heap_setCell _ ⟨s, 1, none⟩ _ i i3, Below.heap_setCell _ ⟨s, 0, none⟩ _ i i3, Below.heap_setCell _ ⟨rb, 0, none⟩ _ i i2, Below.heap_setCell _ ⟨g, a * 2 + 1, none⟩ _ i i1, Below.heap_setCell _ ⟨g, a * 2, none⟩ _ i i1]
    exact k.block i hi

set_option maxHeartbeats 4000000 in
theorem refPop_some {B : Nat} {w : World} {rb : Nat} {v : Value} {l : List It} (h : RefAt B w rb v l) (hpos : 0 < l.length) (hl : l.length ≤ 60000) :
    Calls Try.prog 12 #[.pointer (some ⟨rb, 0, none⟩)] w fun e w' => ∃ (x : It) (v' : Value) (l' : List It), e = .returned (.tuple #[.agg #[.int .u64 (x.k : Int), .int .u32 (x.i : Int)], .bool true]) ∧ Least x l ∧ (x :: l').Perm l ∧ RefAt B w' rb v' l' ∧ Turns w w' (RS rb v) (RS rb v') := by
  obtain ⟨A, cap, rfl, hcap, hm, _⟩ := h.own.form
  obtain ⟨g, rfl, _⟩ := h.own.cell (j := 0) (by rw [flat_len]; omega)
  have hg := h.own.lt g rfl
  have c0 := h.box.cell 0 rfl
  have l0 := h.box.lt
  have hz : ((l.length : Int) == 0) = false := by rw [beq_eq_false_iff_ne]; omega
  have kz := keeps_alloc w (.cells #[.int .u64 0, .int .u32 0] 32)
  have H := Lib.hid h
  have HP := Lib.hid hpos
  have BZ := Box.new w 32 #[.int .u64 0, .int .u32 0]
  have hgb := hg.2
  clear h hpos hg
  go_enter Try.func12, Try.ntmps12
  go_wp2_with fail
  generalize w.alloc (.cells #[.int .u64 0, .int .u32 0] 32) = W0 at *
  clear c0
  go_loopw [4, 5] (fun at_ i wr => ∃ (a j : Nat), j ≤ l.length ∧ 1 ≤ j ∧ a < j ∧ at_ = .int .i64 a ∧ i = .int .i64 j ∧ (∀ q e f, q < j → l[q]? = some e → l[a]? = some f → lessB e f = false) ∧ Keeps W0 wr) (fun _ i _ => l.length - (intOf i).toNat)
  case atStart => exact ⟨0, 1, by have := HP.out; omega, Nat.le_refl _, by omega, rfl, rfl, fun q e f hq he hf => by
    obtain rfl : q = 0 := by omega
    rw [he] at hf
    obtain rfl := Option.some.inj hf
    exact lessB_irr _, keeps_refl _⟩
  case round =>
    obtain ⟨a, j, hj, hj1, haj, rfl, rfl, hmin, hks⟩ := hrel
    have HM := Lib.hid hmin
    have kw := keeps_trans kz hks
    have bx := H.out.box.keep kw
    have c0 := bx.cell 0 rfl
    obtain ⟨f, hf⟩ : ∃ f, l[a]? = some f := ⟨_, List.getElem?_eq_getElem (by omega)⟩
    have ow := H.out.own.keep kw
    obtain ⟨hF, fa0, fa1⟩ := own_item ow hf
    have a0 : (0 : Int) ≤ (a : Int) := by omega
    have an : (a : Int) < (l.length : Int) := by omega
    clear hmin
    by_cases hlt : j < l.length
    · obtain ⟨e, he⟩ : ∃ e, l[j]? = some e := ⟨_, List.getElem?_eq_getElem hlt⟩
      obtain ⟨hE, -, -⟩ := own_item ow he
      have j0 : (0 : Int) ≤ (j : Int) := by omega
      have jn : (j : Int) < (l.length : Int) := by omega
      have C := Lib.hid (refLess_any e f)
      have SS := Lib.hid (fun (V : World) (k : Keeps wr V) => And.intro ((bx.keep k).cell 0 rfl) (And.intro (hE.keep k) (hF.keep k)))
      have HE := Lib.hid he
      have HF := Lib.hid hf
      clear he hf ow bx fa0 fa1
      go_wp2_with fail
      go_region_held3 (fun V => V.cell? ⟨rb, 0, none⟩ = some (.slice (some ⟨g, 0, none⟩) l.length cap) ∧ (V.cell? ⟨g, j * 2, none⟩ = some (.int .u64 (e.k : Int)) ∧ V.cell? ⟨g, j * 2 + 1, none⟩ = some (.int .u32 (e.i : Int))) ∧ (V.cell? ⟨g, a * 2, none⟩ = some (.int .u64 (f.k : Int)) ∧ V.cell? ⟨g, a * 2 + 1, none⟩ = some (.int .u32 (f.i : Int)))) (exact SS.out _ (by first | assumption | exact keeps_drew _)) (first
        | (go_at_call 20; refine (C.out _).mono ?_; rintro ee w1 ⟨rfl, k1⟩; replace k1 := keeps_trans (keeps_drew _) k1))
      cases hb : lessB e f
      · go_wp2_with fail
        go_roundw
        case rel => exact ⟨a, j + 1, by omega, by omega, by omega, by go_num, by go_num, fun q e' f' hq he' hf' => by
          rw [HF.out] at hf'
          obtain rfl := Option.some.inj hf'
          by_cases hqj : q = j
          · subst hqj
            rw [HE.out] at he'
            obtain rfl := Option.some.inj he'
            exact hb
          · exact HM.out q e' _ (by omega) he' HF.out, keeps_trans hks k1⟩
        case measure => simp [intOf]; omega
      · go_wp2_with fail
        go_roundw
        case rel => exact ⟨j, j + 1, by omega, by omega, by omega, by go_num, by go_num, fun q e' f' hq he' hf' => by
          rw [HE.out] at hf'
          obtain rfl := Option.some.inj hf'
          by_cases hqj : q = j
          · subst hqj
            rw [HE.out] at he'
            obtain rfl := Option.some.inj he'
            exact lessB_irr _
          · have h1 := HM.out q e' f (by omega) he' HF.out
            rw [lessB_true] at hb
            rw [lessB_false] at *
            omega, keeps_trans hks k1⟩
        case measure => simp [intOf]; omega
    · obtain rfl : j = l.length := by omega
      obtain ⟨z, hzl⟩ : ∃ z, l[l.length - 1]? = some z := ⟨_, List.getElem?_eq_getElem (by omega)⟩
      obtain ⟨hZ, -, -⟩ := own_item ow hzl
      obtain ⟨n1, hn1⟩ : ∃ n1, n1 = l.length - 1 := ⟨_, rfl⟩
      rw [← hn1] at hZ
      have hi1 : (l.length : Int) - 1 = (n1 : Int) := by omega
      have hi2 : (n1 : Int) < (l.length : Int) := by omega
      have hi3 : (0 : Int) ≤ (n1 : Int) := by omega
      have hi4 : (n1 : Int) ≤ (cap : Int) := by omega
      have bz := BZ.keep hks
      have bz0 := bz.cell 0 rfl
      have bz1 := bz.cell 1 rfl
      have bf0 := bz.frozen 0
      have bf1 := bz.frozen 1
      have rf0 := bx.frozen 0
      have lg : g < wr.heap.size := Nat.lt_of_lt_of_le hgb kw.size
      have lr : rb < wr.heap.size := bx.lt
      have lz : w.heap.size < wr.heap.size := bz.lt
      have ngr : g ≠ rb := fun e => H.out.ne (by simp [Value.ownBlock, e])
      have ngz : g ≠ w.heap.size := by omega
      have nrz : rb ≠ w.heap.size := by omega
      have HN1 := Lib.hid hn1
      have LST := Lib.hid (show Least f l from ⟨List.mem_of_getElem? hf, fun y hy => by
        obtain ⟨q, hq⟩ := List.getElem?_of_mem hy
        exact HM.out q y f ((List.getElem?_eq_some_iff.1 hq).1) hq hf⟩)
      have PRM := Lib.hid (popL_perm hf hzl)
      have HAJ := Lib.hid haj
      obtain ⟨f0, f1⟩ := hF
      obtain ⟨z0, z1⟩ := hZ
      have POP := RefAt.popped H.out kw haj z (Nat.le_refl w.heap.size) (.int .u64 (f.k : Int)) (.int .u32 (f.i : Int))
      rw [← hn1] at POP
      have RB : Box (((((wr.setCell ⟨g, a * 2, none⟩ (.int .u64 (z.k : Int))).setCell ⟨g, a * 2 + 1, none⟩ (.int .u32 (z.i : Int))).setCell ⟨rb, 0, none⟩ (.slice (some ⟨g, 0, none⟩) n1 cap)).setCell ⟨w.heap.size, 0, none⟩ (.int .u64 (f.k : Int))).setCell ⟨w.heap.size, 1, none⟩ (.int .u32 (f.i : Int))) w.heap.size 32 #[.int .u64 (f.k : Int), .int .u32 (f.i : Int)] := by
        have h5 := ((((bz.far (p := ⟨g, a * 2, none⟩) (fun e => ngz e.symm) (.int .u64 (z.k : Int))).far (p := ⟨g, a * 2 + 1, none⟩) (fun e => ngz e.symm) (.int .u32 (z.i : Int))).far (p := ⟨rb, 0, none⟩) (fun e => nrz e.symm) (.slice (some ⟨g, 0, none⟩) n1 cap)).set 0 (.int .u64 (f.k : Int))).set 1 (.int .u32 (f.i : Int))
        simpa using h5
      have PO := Lib.hid (And.intro POP RB)
      clear POP RB
      clear hf hzl hn1 ow bx hlt hj hj1 haj bz
      go_wp2_with fail
      go_region
      all_goals
        go_wp2_with fail
        clear bz0 bz1 bf0 bf1 rf0 f0 f1 z0 z1 c0 fa0 fa1
        obtain ⟨⟨RA, TU⟩, RB⟩ := PO.out
        generalize ((((wr.setCell ⟨g, a * 2, none⟩ (.int .u64 (z.k : Int))).setCell ⟨g, a * 2 + 1, none⟩ (.int .u32 (z.i : Int))).setCell ⟨rb, 0, none⟩ (.slice (some ⟨g, 0, none⟩) n1 cap)).setCell ⟨w.heap.size, 0, none⟩ (.int .u64 (f.k : Int))).setCell ⟨w.heap.size, 1, none⟩ (.int .u32 (f.i : Int)) = fw at *
        have kf := keeps_trans (keeps_alloc fw (.cells #[.int .u64 (f.k : Int), .int .u32 (f.i : Int)] 32)) (keeps_drew _)
        have RC := RB.keep kf
        have q0 := RC.cell 0 rfl
        have q1 := RC.cell 1 rfl
        have RA' := RA.keep kf
        have TU' := TU.trans (Turns.of_keeps kf)
        clear RA TU RB RC kf
        generalize (fw.alloc (.cells #[.int .u64 (f.k : Int), .int .u32 (f.i : Int)] 32)).drew = fz at *
        exact bodyPost_ret (v := .tuple #[.agg #[.int .u64 (f.k : Int), .int .u32 (f.i : Int)], .bool true]) (by simp [results, Try.results12, go_sem, q0, q1]) rfl ⟨f, _, _, rfl, LST.out, PRM.out, RA', TU'⟩
end Go.Proofs.Ytldmecannmifiaa
