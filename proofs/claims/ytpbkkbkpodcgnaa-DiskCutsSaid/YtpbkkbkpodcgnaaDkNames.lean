/- Package disk: the names of all files. -/
import Derived.Test.YtpbkkbkpodcgnaaDkMem
import Derived.Test.YtpbkkbkpodcgnaaIterS
import Derived.Test.YtpbkkbkpodcgnaaLaySt
import Derived.Sort.OwnSorted
import Derived.Sort.KeysCollected
namespace Go.Proofs.Ytpbkkbkpodcgnaa
open Go.RowKit Go.Sort
set_option linter.unusedSimpArgs false
set_option linter.unusedVariables false
set_option maxRecDepth 100000

theorem celS_enc (ss : List (List UInt8)) : ss.flatMap celS = ss.map encStr := by
  induction ss with
  | nil => rfl
  | cons a ss ih =>
    rw [List.flatMap_cons, ih]
    rfl
set_option maxHeartbeats 4000000 in
theorem sortedKeys_any (Bm b : Nat) (es : List ((List UInt8) × Nat)) (w : World) (hm : w.cell? ⟨Bm, 0, none⟩ = some (.map (some b))) (hown : MapW strW dpt w b es) (hN : es.length ≤ 1000000000) :
    Calls Try.prog 39 #[.func (.func 63) #[] #[.pointer (some ⟨Bm, 0, none⟩)]] w fun e w' => ∃ (v : Value) (ss : List (List UInt8)), e = .returned v ∧ ss.Perm (es.map Prod.fst) ∧ Own w' w.heap.size 9 1 v ss.length ((ss.mergeSort leB).map encStr) ∧ Keeps w w' := by
  have CO := Lib.hid (collectS Bm b es w hm hown hN)
  have S0 := Lib.hid (fun (p : Option Addr) (cap : Nat) (W : World) => AnyG.slices_Sort_string_none sortStr p cap W)
  have S1 := Lib.hid (fun (blk off cap : Nat) (zs : List (List UInt8)) (W : World) (h1 : Holds encStr W blk off zs.toArray) (h2 : blk < W.heap.size) (h3 : zs.length < 4611686018427387904) => AnyG.slices_Sort_string sortStr blk off cap zs W h1 h2 h3)
  have HN := Lib.hid hN
  clear hm hown hN
  go_enter Try.func39, Try.ntmps39
  go_wp2_with (go_at_call 61; refine CO.out.mono ?_; rintro e W ⟨v, ss, rfl, hS, hrow, hb⟩)
  rw [celS_enc] at hrow
  have HS := Lib.hid hS
  have HB := Lib.hid hb
  have HR := Lib.hid hrow
  have hlen : ss.length ≤ 1000000000 := by have h1 := hS.length_eq; rw [List.length_map] at h1; have := HN.out; omega
  have HL := Lib.hid hlen
  clear hS hb hlen
  rcases hrow.2 with ⟨rfl, hz⟩ | ⟨gb, cap, cur, rfl, hbase, hgb, r1, r2, r3, r4⟩
  · obtain rfl : ss = [] := List.eq_nil_of_length_eq_zero hz
    clear hrow hz
    go_wp2_with (go_at_call 62; refine (S0.out none 0 W).mono ?_; rintro e w' ⟨rfl, rfl⟩)
    go_ret
    exact ⟨_, [], rfl, HS.out, Own.of_row (by simpa using HR.out), HB.out⟩
  · have hH : Holds encStr W gb 0 ss.toArray := holds_of_block hgb (by simpa using r4)
    have hgl : gb < W.heap.size := (Array.getElem?_eq_some_iff.1 hgb).1
    have C1 := Lib.hid (S1.out gb 0 cap ss W hH hgl (by have := HL.out; omega))
    have OWN := Lib.hid (fun (n : Nat) (os : Array Obj) => ownsRow_sorted (n := n) (os := os) (ts := ss.mergeSort leB) (by simp) hbase hgb r1 r2 r3)
    have HBB := Lib.hid (fun (n : Nat) (os : Array Obj) => HB.out.grown (grownBy_sorted (g := gb) (n := n) (os := os) ((ss.mergeSort leB).toArray)) HB.out.size (fun j hj => by cases hj; exact hbase))
    clear hrow hH hgl hgb r1 r2 r3 r4 hbase
    go_wp2_with (go_at_call 62; refine C1.out.mono ?_; rintro e w' ⟨rfl, nn, os, rfl⟩)
    go_ret
    exact ⟨_, ss, rfl, HS.out, Own.of_row (OWN.out nn os), HBB.out nn os⟩
/-- names that rise, in whatever order they came, sorted -/
theorem sort_names {ss : List (List UInt8)} {l : List Fl} (hp : ss.Perm (l.map (·.name))) (hl : l.Pairwise fun f g => f.name < g.name) : ss.mergeSort leB = l.map (·.name) := by
  rw [mergeSort_of_perm hp]
  apply List.mergeSort_of_pairwise
  rw [List.pairwise_map]
  exact hl.imp fun {a b} hab => by
    unfold leB
    exact decide_eq_true (List.le_of_lt hab)
set_option maxHeartbeats 4000000 in
theorem names_any {w : World} {b : Nat} {F : Nat → Prop} {s : Ds} (h : Dk w b F s) (hl : s.l.length ≤ 70000) : Calls Try.prog 14 #[dpt b] w fun e w' => ∃ v, e = .returned v ∧ Own w' w.heap.size 9 1 v s.l.length (s.l.map fun f => strV f.name) ∧ Keeps w w' := by
  obtain ⟨mf, ml, fb, col, hb, hx⟩ := h.at_
  have c0 : w.cell? ⟨b, 0, none⟩ = some (.map (some mf)) := hb.cell 0 rfl
  have hk0 := keeps_alloc w (.cells #[.map (some mf)] 79)
  have hbx := Box.new w 79 #[.map (some mf)]
  have hlen : (s.l.map fun f => (f.name, fb f.name)).length ≤ 1000000000 := by
    rw [List.length_map]
    omega
  have SK := Lib.hid (sortedKeys_any w.heap.size mf _ _ (hbx.cell 0 rfl) (hx.files.keep hk0) hlen)
  have SN := Lib.hid (fun (ss : List (List UInt8)) (hp : ss.Perm ((s.l.map fun f => (f.name, fb f.name)).map Prod.fst)) => sort_names (l := s.l) (by simpa [List.map_map, Function.comp_def] using hp) h.ok.rise)
  have KS := Lib.hid (keysS (some mf) w)
  have HK := Lib.hid hk0
  clear h hb hx hbx hlen hk0 hl
  show Calls _ _ #[.pointer (some ⟨b, 0, none⟩)] w _
  go_enter Try.func14, Try.ntmps14
  go_wp2_with (first
    | (go_at_call 40; refine KS.out.mono ?_; rintro e w' ⟨rfl, rfl⟩)
    | (go_at_call 39; refine SK.out.mono ?_; rintro e w' ⟨v, ss, rfl, hp, hown, hkp⟩))
  have hs := SN.out ss hp
  rw [hs] at hown
  have hlen : ss.length = s.l.length := by have := hp.length_eq; simpa using this
  rw [hlen] at hown
  go_ret
  refine ⟨_, rfl, ?_, keeps_trans HK.out hkp⟩
  have e1 : (s.l.map (·.name)).map encStr = s.l.map fun f => strV f.name := by
    rw [List.map_map]
    rfl
  rw [e1] at hown
  exact hown.base_le (by simp)
end Go.Proofs.Ytpbkkbkpodcgnaa
