/- Package disk: Loose. -/
import Derived.Test.YtpbkkbkpodcgnaaDkLoose
import Derived.Shelf.SlSortCmp.NoneTotal
namespace Go.Proofs.Ytpbkkbkpodcgnaa
open Go.RowKit Go.Sort
set_option linter.unusedSimpArgs false
set_option linter.unusedVariables false
set_option maxRecDepth 100000

set_option maxHeartbeats 4000000 in
theorem sortedPl_any (Bm b : Nat) (es : List ((List UInt8 × Nat) × Unit)) (w : World) (hm : w.cell? ⟨Bm, 0, none⟩ = some (.map (some b))) (hown : LooseM w b es) (hN : es.length ≤ 1000000000) :
    Calls Try.prog 41 #[.func (.func 66) #[] #[.pointer (some ⟨Bm, 0, none⟩)], .func (.func 43) #[] #[]] w fun e w' => ∃ (v : Value) (l : List (List UInt8 × Nat)), e = .returned v ∧ l.Perm (es.map Prod.fst) ∧ RiseP l ∧ Own w' w.heap.size 63 2 v l.length (l.flatMap celP) ∧ Keeps w w' := by
  have CO := Lib.hid (collectP Bm b es w hm hown hN)
  have S0 := Lib.hid (fun (p : Option Addr) (cap : Nat) (W : World) => AnyF.slices_SortFunc_none sortPl p cap (.func (.func 43) #[] #[]) W)
  have S1 := Lib.hid sortP_any
  have HN := Lib.hid hN
  have ON := Lib.hid hown.once
  clear hm hown hN
  go_enter Try.func41, Try.ntmps41
  go_wp2_with (go_at_call 64; refine CO.out.mono ?_; rintro e W ⟨v, ss, rfl, hS, hrow, hb⟩)
  have HS := Lib.hid hS
  have HB := Lib.hid hb
  have HR := Lib.hid (Own.of_row hrow)
  have HD := Lib.hid (hS.nodup_iff.2 ON.out)
  have HL := Lib.hid (show ss.length < 4611686018427387904 by have h1 := hS.length_eq; rw [List.length_map] at h1; have := HN.out; omega)
  clear hS hb
  rcases hrow.2 with ⟨rfl, hz⟩ | ⟨gb, cap, cur, rfl, hbase, hgb, r1, r2, r3, r4⟩
  · obtain rfl : ss = [] := List.eq_nil_of_length_eq_zero hz
    clear hrow hz
    go_wp2_with (go_at_call 65; refine (S0.out none 0 W).mono ?_; rintro e w' ⟨rfl, rfl⟩)
    go_ret
    exact ⟨_, [], rfl, HS.out, by simp [RiseP], HR.out, HB.out⟩
  · have C1 := Lib.hid (S1.out gb cap _ ss W HD.out HR.out HL.out)
    clear hrow r1 r2 r3 r4 hgb
    go_wp2_with (go_at_call 65; refine C1.out.mono ?_; rintro e w' ⟨rfl, l', hp, hr, ho, hon⟩)
    go_ret
    have hll : ss.length = l'.length := hp.length_eq
    rw [hll] at ho
    rw [hll]
    refine ⟨_, l', rfl, hp.symm.trans HS.out, hr, ho, ?_⟩
    exact ⟨hon.os.trans HB.out.os, hon.tape.trans HB.out.tape, hon.output.trans HB.out.output, Nat.le_trans HB.out.size hon.size, fun k hk => (hon.block k (Nat.lt_of_lt_of_le hk HB.out.size) (fun e => by omega)).trans (HB.out.block k hk)⟩
theorem places_length_le (l : List Fl) : (placesL l).length ≤ usedL l := by
  unfold placesL usedL
  induction l with
  | nil => simp
  | cons f l ih =>
    rw [List.flatMap_cons, List.length_append, List.length_map, List.map_cons, List.sum_cons]
    have : (looseF f).length ≤ sect f.now.length := by
      unfold looseF
      exact Nat.le_trans (List.length_filter_le _ _) (by rw [List.length_range]; exact Nat.le_refl _)
    omega
theorem placeC_cel (l : List (List UInt8 × Nat)) : l.flatMap placeC = l.flatMap celP := rfl
/-- the map's keys are the loose sectors -/
theorem keys_places {s : Ds} (h : DsOk s) {K : List (List UInt8 × Nat)} (hn : K.Nodup) (hm : ∀ p, p ∈ K ↔ LooseIn s.l p) : K.Perm (placesL s.l) :=
  (List.perm_ext_iff_of_nodup hn (nodup_rise (rise_places h.rise))).2 fun p => (hm p).trans (mem_places h.files p).symm
set_option maxHeartbeats 4000000 in
theorem loose_any {w : World} {b : Nat} {F : Nat → Prop} {s : Ds} (h : Dk w b F s) : Calls Try.prog 15 #[dpt b] w fun e w' => ∃ v, e = .returned v ∧ Own w' w.heap.size 63 2 v (placesL s.l).length ((placesL s.l).flatMap placeC) ∧ Keeps w w' := by
  obtain ⟨mf, ml, fb, col, hb, hx⟩ := h.at_
  obtain ⟨l2, hm2, hmem⟩ := hx.loose
  have c1 : w.cell? ⟨b, 1, none⟩ = some (.map (some ml)) := hb.cell 1 rfl
  have hk0 := keeps_alloc w (.cells #[.map (some ml)] 81)
  have hbx := Box.new w 81 #[.map (some ml)]
  have hp2 := keys_places h.ok hm2.once hmem
  have hlen : l2.length ≤ 1000000000 := by
    have h1 := hp2.length_eq
    rw [List.length_map] at h1
    have h2 := places_length_le s.l
    have h3 := h.used
    omega
  have SK := Lib.hid (sortedPl_any w.heap.size ml _ _ (hbx.cell 0 rfl) (hm2.keep hk0) hlen)
  have SN := Lib.hid (fun (l : List (List UInt8 × Nat)) (hp : l.Perm (l2.map Prod.fst)) (hr : RiseP l) => rise_eq hr (rise_places h.ok.rise) (hp.trans hp2))
  have KS := Lib.hid (keysP (some ml) w)
  have HK := Lib.hid hk0
  clear h hb hx hbx hlen hk0 hp2 hm2 hmem
  show Calls _ _ #[.pointer (some ⟨b, 0, none⟩)] w _
  go_enter Try.func15, Try.ntmps15
  go_wp2_with (first
    | (go_at_call 42; refine KS.out.mono ?_; rintro e w' ⟨rfl, rfl⟩)
    | (go_at_call 41; refine SK.out.mono ?_; rintro e w' ⟨v, l, rfl, hp, hr, hown, hkp⟩))
  have hs := SN.out l hp hr
  rw [hs] at hown
  go_ret
  exact ⟨_, rfl, hown.base_le (by simp), keeps_trans HK.out hkp⟩
end Go.Proofs.Ytpbkkbkpodcgnaa
