/- Words and laws of no program: bytes that a slice holds in memory, rows that a call made itself (whatever mark they bear), numbers as bytes. -/
import Derived.WalkKit
import Derived.WalkSpells
import Derived.WalkLawsBesides
import Derived.Handy
import Derived.Lib.ConvBytes
import Derived.Lib.Hide
import Derived.Maps.AppendAt
import Derived.RegionTactic
import Derived.OwnWalk
import Derived.Laws.BytesArg
import Derived.Deep.Draws
import Derived.Deep.QuietTactic
import Derived.BigQuiet
import Derived.Deep.RegionWith
import Derived.StillTailTactics
namespace Go.Proofs.Ytdfaogagadoooaa
open Go.RowKit

/-! ### What stays -/
/-- Nothing that was there has turned. -/
abbrev Keeps (w w' : World) : Prop := Below w.heap.size w w'
theorem keeps_refl (w : World) : Keeps w w := Below.refl _ _
theorem keeps_trans {a b c : World} (h : Keeps a b) (k : Keeps b c) : Keeps a c := Below.trans h (k.mono h.size)
theorem keeps_drewN (w : World) (n : Nat) : Keeps w (w.drewN n) := ⟨rfl, rfl, rfl, Nat.le_refl _, fun _ _ => rfl⟩
theorem keeps_drew (w : World) : Keeps w w.drew := ⟨rfl, rfl, rfl, Nat.le_refl _, fun _ _ => rfl⟩
theorem keeps_alloc (w : World) (o : Obj) : Keeps w (w.alloc o) := (Below.refl _ _).alloc (Nat.le_refl _) o
theorem keeps_grown {w w' : World} {row : Option Nat} (h : w.grownBy w' row) (B : Nat) (hB : B ≤ w.heap.size) (hr : ∀ k, row = some k → B ≤ k) : Below B w w' := (Below.refl B w).grown h hB hr
/-- what was kept below a greater number -/
theorem keeps_of {B : Nat} {w w' : World} (h : Below B w w') (hB : w.heap.size ≤ B) : Keeps w w' := h.mono hB
theorem Keeps.cellOf {w w' : World} (h : Keeps w w') {p : Addr} {v : Value} (hc : w.cell? p = some v) : w'.cell? p = some v := by
  rw [h.cell (block_lt_of_cell hc)]; exact hc

/-! ### Bytes -/
def cel (l : List UInt8) : List Value := l.map fun b => .int .u8 (b.toNat : Int)
theorem cel_length (l : List UInt8) : (cel l).length = l.length := by simp [cel]
theorem cel_append (l m : List UInt8) : cel (l ++ m) = cel l ++ cel m := by simp [cel]
theorem cel_take (l : List UInt8) (k : Nat) : cel (l.take k) = (cel l).take k := by simp [cel, List.map_take]
theorem cel_drop (l : List UInt8) (k : Nat) : cel (l.drop k) = (cel l).drop k := by simp [cel, List.map_drop]
theorem cel_at {l : List UInt8} {j : Nat} {u : Value} (h : (cel l)[j]? = some u) : u = .int .u8 ((l.getD j 0).toNat : Int) := by
  simp only [cel, List.getElem?_map, Option.map_eq_some_iff] at h
  obtain ⟨b, hb, rfl⟩ := h
  simp [List.getD, hb]
theorem cel_get (l : List UInt8) {j : Nat} (h : j < l.length) : (cel l)[j]? = some (.int .u8 ((l.getD j 0).toNat : Int)) := by
  simp [cel, List.getD, h]
theorem cel_one (l : List UInt8) : ∀ u ∈ cel l, u.oneCell' = true := by
  intro u hu
  obtain ⟨_, _, rfl⟩ := List.mem_map.1 hu
  rfl
theorem cel_inj {l m : List UInt8} (h : cel l = cel m) : l = m := by
  induction l generalizing m with
  | nil => cases m with
    | nil => rfl
    | cons => simp [cel] at h
  | cons a l ih => cases m with
    | nil => simp [cel] at h
    | cons b m =>
      simp only [cel, List.map_cons, List.cons.injEq] at h
      have e : a = b := by
        have := h.1
        simp only [Value.int.injEq, true_and] at this
        exact UInt8.toNat_inj.1 (by omega)
      rw [e, ih h.2]

/-- From an address on, if there is one, these cells stand, one behind the other, all below block B. -/
def At (w : World) (B : Nat) (A : Option Addr) (xs : List Value) : Prop :=
  xs = [] ∨ ∃ ad, A = some ad ∧ ad.block < B ∧ ∀ j u, xs[j]? = some u → w.cell? (ad.add j) = some u
theorem addr_block (a : Addr) (n : Nat) : (a.add n).block = a.block := by unfold Addr.add; split <;> rfl
theorem addr_add (a : Addr) (i j : Nat) : (a.add i).add j = a.add (i + j) := by
  unfold Addr.add
  rcases Nat.eq_zero_or_pos i with hi | hi <;> rcases Nat.eq_zero_or_pos j with hj | hj
  · simp [hi, hj]
  · simp [hi]
  · simp [hj]
  · rw [if_neg (by omega), if_neg (by omega), if_neg (by omega)]; simp [Nat.add_assoc]
theorem At.nil (w : World) (B : Nat) (A : Option Addr) : At w B A [] := .inl rfl
theorem At.get {w : World} {B : Nat} {A : Option Addr} {xs : List Value} (h : At w B A xs) {k : Nat} (hk : k < xs.length) :
    ∃ ad, A = some ad ∧ ad.block < B ∧ w.cell? (ad.add k) = xs[k]? := by
  rcases h with rfl | ⟨ad, e, hb, hc⟩
  · simp at hk
  · exact ⟨ad, e, hb, by rw [List.getElem?_eq_getElem hk]; exact hc k _ (List.getElem?_eq_getElem hk)⟩
theorem At.keep {w w' : World} {B : Nat} {A : Option Addr} {xs : List Value} (h : At w B A xs) (k : Below B w w') : At w' B A xs := by
  rcases h with rfl | ⟨ad, e, hb, hc⟩
  · exact .inl rfl
  · exact .inr ⟨ad, e, hb, fun j u hu => (k.cell (by rw [addr_block]; exact hb)).trans (hc j u hu)⟩
theorem At.more {w : World} {B B' : Nat} {A : Option Addr} {xs : List Value} (h : At w B A xs) (hB : B ≤ B') : At w B' A xs := by
  rcases h with rfl | ⟨ad, e, hb, hc⟩
  · exact .inl rfl
  · exact .inr ⟨ad, e, by omega, hc⟩
theorem At.take {w : World} {B : Nat} {A : Option Addr} {xs : List Value} (h : At w B A xs) (k : Nat) : At w B A (xs.take k) := by
  rcases h with rfl | ⟨ad, e, hb, hc⟩
  · simp [At]
  · refine .inr ⟨ad, e, hb, fun j u hu => hc j u ?_⟩
    rw [List.getElem?_take] at hu
    split at hu
    · exact hu
    · cases hu
/-- the cut behind k places, where the capacity goes on -/
theorem At.drop {w : World} {B : Nat} {ad : Addr} {xs : List Value} (h : At w B (some ad) xs) (k : Nat) : At w B (some (ad.add k)) (xs.drop k) := by
  rcases h with rfl | ⟨ad', e, hb, hc⟩
  · simp [At]
  · obtain rfl := Option.some.inj e
    refine .inr ⟨_, rfl, by rw [addr_block]; exact hb, fun j u hu => ?_⟩
    rw [addr_add]
    exact hc _ _ (by rw [← hu, List.getElem?_drop])

/-- A slice value's address, of these bytes, in a world. -/
def Bs (w : World) (A : Option Addr) (l : List UInt8) : Prop := At w w.heap.size A (cel l)
theorem Bs.keep {w w' : World} {A : Option Addr} {l : List UInt8} (h : Bs w A l) (k : Keeps w w') : Bs w' A l := (At.keep h k).more k.size
theorem Bs.nil (w : World) (A : Option Addr) : Bs w A [] := At.nil _ _ _
theorem Bs.take {w : World} {A : Option Addr} {l : List UInt8} (h : Bs w A l) (k : Nat) : Bs w A (l.take k) := by
  unfold Bs; rw [cel_take]; exact At.take h k
theorem Bs.drop {w : World} {ad : Addr} {l : List UInt8} (h : Bs w (some ad) l) (k : Nat) : Bs w (some (ad.add k)) (l.drop k) := by
  unfold Bs; rw [cel_drop]; exact At.drop h k
theorem Bs.at_ {w : World} {A : Option Addr} {l : List UInt8} (h : Bs w A l) {k : Nat} (hk : k < l.length) :
    ∃ ad, A = some ad ∧ w.cell? (ad.add k) = some (.int .u8 ((l.getD k 0).toNat : Int)) := by
  obtain ⟨ad, e, _, hc⟩ := At.get h (k := k) (by rw [cel_length]; exact hk)
  exact ⟨ad, e, by rw [hc, cel_get l hk]⟩
theorem Bs.some_ {w : World} {A : Option Addr} {l : List UInt8} (h : Bs w A l) (hl : 0 < l.length) : ∃ ad, A = some ad := by
  obtain ⟨ad, e, _⟩ := h.at_ hl
  exact ⟨ad, e⟩

/-- a string of these bytes -/
def str (l : List UInt8) : ByteArray := ⟨l.toArray⟩
theorem str_inj {l m : List UInt8} (h : str l = str m) : l = m := by
  have := congrArg (fun b : ByteArray => b.data.toList) h
  simpa [str] using this
theorem str_size (l : List UInt8) : (str l).size = l.length := by simp [str, ByteArray.size]
theorem str_data (l : List UInt8) : (str l).data.toList = l := by simp [str]
theorem str_toList (l : List UInt8) : (str l).toList = l := by
  have := ByteArray.toList_mk l
  exact this

section
variable {P : Program}
/-- string(b) -/
theorem run_str (w : World) (src e dst : TypeId) (hs : P.underlying src = some (.slice e)) (he : P.underlying e = some (.int .u8)) (hd : P.underlying dst = some .string)
    (A : Option Addr) (l : List UInt8) (n cap : Nat) (hn : n = l.length) (h : Bs w A l) : (convert src dst (.slice A n cap)).run P w = .ok (.string (str l)) w := by
  subst hn
  rcases A with _ | ad
  · rw [run_convert_bytes_nil w src e hs he l.length cap dst hd]
    rcases l with _ | ⟨b, l⟩
    · rfl
    · obtain ⟨ad, e, _⟩ := h.at_ (k := 0) (by simp)
      cases e
  · have hl : (loadCells ad l.length).run P w = .ok (((l.map fun b => (b.toNat : Int)).map (Value.int .u8)).toArray) w := by
      have hc : ∀ j v, (cel l)[j]? = some v → w.cell? (ad.add j) = some v := by
        intro j v hj
        rcases h with h | ⟨ad', e, _, hc⟩
        · rw [h] at hj; simp at hj
        · obtain rfl := Option.some.inj e
          exact hc j v hj
      have := run_loadCells_list (P := P) w ad (cel l) hc
      rw [cel_length] at this
      rw [this]
      simp [cel, Function.comp_def]
    rw [run_convert_bytes_string w src dst e _ l.length cap hs he hd, run_bytesToString w ad l.length cap _ hl, foldl_push_bytes]
    have e1 : (l.map fun b => (b.toNat : Int)).map (fun n : Int => UInt8.ofNat n.toNat) = l := by
      simp [List.map_map, Function.comp_def]
    rw [e1]
    simp [str, ByteArray.empty, ByteArray.emptyWithCapacity]
    rfl
end

/-! ### Rows of the call's own: none of their cells is marked (behind the last one a mark may stand) -/
def Own (w : World) (base : Nat) (e : TypeId) (size : Nat) (v : Value) (n : Nat) (xs : List Value) : Prop :=
  xs.length = n * size ∧ ((v = .slice none 0 0 ∧ n = 0) ∨
    ∃ g cap cur fz, v = .slice (some ⟨g, 0, none⟩) n cap ∧ base ≤ g ∧ w.heap[g]? = some (.cells cur e fz) ∧ (fz.2 = 0 ∨ cur.size ≤ fz.1) ∧ n ≤ cap ∧ cap ≤ maxLen ∧ cur.size = cap * size ∧ cur.toList.take (n * size) = xs)
theorem Own.nil (w : World) (base : Nat) (e : TypeId) (size : Nat) : Own w base e size (.slice none 0 0) 0 [] := ⟨by simp, .inl ⟨rfl, rfl⟩⟩
theorem Own.of_row {w : World} {base : Nat} {e : TypeId} {size : Nat} {v : Value} {n : Nat} {xs : List Value} (h : w.ownsRow base e size v n xs) : Own w base e size v n xs := by
  refine ⟨h.1, ?_⟩
  rcases h.2 with h0 | ⟨g, cap, cur, hv, hb, hg, h1, h2, h3, h4⟩
  · exact .inl h0
  · exact .inr ⟨g, cap, cur, (0, 0), hv, hb, hg, .inl rfl, h1, h2, h3, h4⟩
section
variable {w w' : World} {base : Nat} {e : TypeId} {size : Nat} {v : Value} {n : Nat} {xs : List Value}
theorem Own.lt (h : Own w base e size v n xs) : ∀ k, v.ownBlock = some k → base ≤ k ∧ k < w.heap.size := by
  intro k hk
  rcases h.2 with ⟨rfl, _⟩ | ⟨g, cap, cur, fz, rfl, hb, hg, _⟩
  · simp [Value.ownBlock] at hk
  · simp only [Value.ownBlock, Option.some.injEq] at hk
    subst hk
    exact ⟨hb, (Array.getElem?_eq_some_iff.1 hg).1⟩
theorem Own.base_le {base' : Nat} (h : Own w base e size v n xs) (hb : base' ≤ base) : Own w base' e size v n xs := by
  refine ⟨h.1, ?_⟩
  rcases h.2 with h0 | ⟨g, cap, cur, fz, hv, hbg, r⟩
  · exact .inl h0
  · exact .inr ⟨g, cap, cur, fz, hv, by omega, r⟩
/-- the row's own block has not turned -/
theorem Own.same (h : Own w base e size v n xs) (hk : ∀ k, v.ownBlock = some k → w'.heap[k]? = w.heap[k]?) : Own w' base e size v n xs := by
  refine ⟨h.1, ?_⟩
  rcases h.2 with h0 | ⟨g, cap, cur, fz, rfl, hbg, hg, r⟩
  · exact .inl h0
  · exact .inr ⟨g, cap, cur, fz, rfl, hbg, (hk g rfl).trans hg, r⟩
theorem Own.keep (h : Own w base e size v n xs) (k : Keeps w w') : Own w' base e size v n xs := h.same fun g hg => k.block g (h.lt g hg).2
theorem Own.grown {row : Option Nat} (h : Own w base e size v n xs) (hg : w.grownBy w' row) (hne : v.ownBlock = none ∨ v.ownBlock ≠ row) : Own w' base e size v n xs :=
  h.same fun g hh => hg.block g (h.lt g hh).2 (by rcases hne with h1 | h1 <;> simp_all)
/-- what the value looks like -/
theorem Own.form (h : Own w base e size v n xs) : ∃ A cap, v = .slice A n cap ∧ n ≤ cap ∧ cap ≤ maxLen ∧ (A = none → n = 0 ∧ cap = 0) ∧ (∀ ad, A = some ad → v.ownBlock = some ad.block ∧ base ≤ ad.block ∧ ad.block < w.heap.size) := by
  rcases h.2 with ⟨rfl, rfl⟩ | ⟨g, cap, cur, fz, rfl, hb, hg, hz, h1, h2, h3, h4⟩
  · exact ⟨none, 0, rfl, Nat.le_refl _, by simp [maxLen], fun _ => ⟨rfl, rfl⟩, fun _ h => by cases h⟩
  · exact ⟨_, cap, rfl, h1, h2, fun h => (by cases h), fun ad h => by cases h; exact ⟨rfl, hb, (Array.getElem?_eq_some_iff.1 hg).1⟩⟩
/-- its cells stand there -/
theorem Own.at_ {A : Option Addr} {cap : Nat} (h : Own w base e size (.slice A n cap) n xs) : At w w.heap.size A xs := by
  rcases h.2 with ⟨hv, h0⟩ | ⟨g, cap', cur, fz, hv, hb, hg, hz, h1, h2, h3, h4⟩
  · left
    have := h.1
    rw [h0] at this
    exact List.eq_nil_of_length_eq_zero (by simpa using this)
  · right
    have hA : A = some ⟨g, 0, none⟩ := by injection hv
    refine ⟨_, hA, (Array.getElem?_eq_some_iff.1 hg).1, fun j u hu => ?_⟩
    rw [Addr.add_lit, Nat.zero_add, cell_of_row w g j cur e fz hg]
    rw [← h4, List.getElem?_take] at hu
    split at hu
    · simpa using hu
    · cases hu
end

theorem storeCells_own (P : Program) (g o : Nat) (t : TypeId) (fz : Nat × Nat) : ∀ (vs : List Value) (i : Nat) (cur : Array Value) (w : World), w.heap[g]? = some (.cells cur t fz) → (fz.2 = 0 ∨ cur.size ≤ fz.1) →
    o + i + vs.length ≤ cur.size → (∀ v ∈ vs, v.oneCell' = true) →
    (storeCells ⟨g, o, none⟩ vs i).run P w = .ok () (w.setRow g (cur.toList.take (o + i) ++ vs ++ cur.toList.drop (o + i + vs.length)).toArray) := by
  intro vs
  induction vs with
  | nil =>
    intro i cur w hg _ _ _
    simp only [storeCells, List.append_nil, List.length_nil, Nat.add_zero, List.take_append_drop, Array.toArray_toList]
    rw [setRow_self w g cur t fz hg]
    rfl
  | cons v rest ih =>
    intro i cur w hg hfz hl h1
    have hlen : (v :: rest).length = rest.length + 1 := rfl
    have hi : o + i < cur.size := by omega
    have hadd : (⟨g, o, none⟩ : Addr).add i = ⟨g, o + i, none⟩ := Addr.add_lit ..
    have hcell : w.cell? ⟨g, o + i, none⟩ = some cur[o + i] := by rw [cell_of_row w g _ cur t fz hg]; exact Array.getElem?_eq_getElem hi
    have hfro : w.frozen? ⟨g, o + i, none⟩ = false := by
      obtain ⟨lo, hi'⟩ := fz
      simp only [World.frozen?, hg, Bool.and_eq_false_iff, decide_eq_false_iff_not]
      rcases hfz with hfz | hfz
      · right; simp only at hfz; omega
      · left; simp only at hfz; omega
    have hst : (store ((⟨g, o, none⟩ : Addr).add i) v).run P w = .ok () (w.setRow g (cur.setIfInBounds (o + i) v)) := by
      rw [hadd, run_store P w _ v _ (h1 v (by simp)), hcell]
      simp [hfro, setCell_eq_setRow w g (o + i) cur t fz v hg]
    have hsz : (cur.setIfInBounds (o + i) v).size = cur.size := by simp
    have ih' := ih (i + 1) (cur.setIfInBounds (o + i) v) (w.setRow g (cur.setIfInBounds (o + i) v)) (setRow_heap w g cur _ t _ hg) (by rw [hsz]; rcases hfz with h | h <;> omega) (by rw [hsz]; omega) (fun x hx => h1 x (by simp [hx]))
    simp only [storeCells, Sem.run_bind, hst, Result.andThen_ok, ih', setRow_setRow]
    congr 3
    have e := list_seg_step cur.toList (o + i) v rest (by simp at hl ⊢; omega)
    simpa [Array.toList_setIfInBounds, Nat.add_assoc] using e

/-- The first m cells of a row, its length and its mark, are as they were. -/
def Pre (w w' : World) (row : Option Nat) (m : Nat) : Prop := ∀ g, row = some g → ∃ cur cur' e fz, w.heap[g]? = some (.cells cur e fz) ∧ w'.heap[g]? = some (.cells cur' e fz) ∧ cur'.size = cur.size ∧ cur'.toList.take m = cur.toList.take m
theorem Pre.refl {w : World} {row : Option Nat} (h : ∀ g, row = some g → ∃ cur e fz, w.heap[g]? = some (.cells cur e fz)) (m : Nat) : Pre w w row m := fun g hg => by
  obtain ⟨cur, e, fz, hh⟩ := h g hg
  exact ⟨cur, cur, e, fz, hh, hh, rfl, rfl⟩
theorem Own.pre {w w' : World} {base : Nat} {e : TypeId} {size : Nat} {v : Value} {n : Nat} {xs : List Value} {row : Option Nat} {m : Nat} (h : Own w base e size v n xs) (hg : w.grownBy w' row) (hp : Pre w w' row m) (hm : v.ownBlock ≠ row ∨ n * size ≤ m) : Own w' base e size v n xs := by
  by_cases hr : v.ownBlock = row
  · have hm' : n * size ≤ m := by rcases hm with hm | hm; exact absurd hr hm; exact hm
    refine ⟨h.1, ?_⟩
    rcases h.2 with h0 | ⟨g, cap, cur, fz, rfl, hb, hgg, hz, h1, h2, h3, h4⟩
    · exact .inl h0
    · obtain ⟨c0, c1, e', fz', q0, q1, q2, q3⟩ := hp g (by rw [← hr]; rfl)
      rw [hgg] at q0
      injection q0 with q0
      injection q0 with qa qb qc
      subst qa; subst qb; subst qc
      refine .inr ⟨g, cap, c1, fz, rfl, hb, q1, by rw [q2]; exact hz, h1, h2, by rw [q2]; exact h3, ?_⟩
      rw [← h4]
      have e1 := congrArg (List.take (n * size)) q3
      rw [List.take_take, List.take_take, Nat.min_eq_left hm'] at e1
      exact e1
  · exact h.grown hg (.inr hr)

section
variable {P : Program} (w : World)
/-- append onto a row of one's own, from whatever source, nil too. -/
theorem run_app (base : Nat) (t ty e : TypeId) (i : TypeInfo) (z : Value) (size bytes : Nat) (ht : P.underlying t = some (.slice e)) (hi : P.info? e = some i) (hz : i.zero = some z)
    (hsize : i.size = size) (hby : i.bytes = bytes) (hzs : z.cells.size = size) (hsz : 0 < size)
    (v : Value) (n : Nat) (xs : List Value) (hown : Own w base e size v n xs)
    (B : Nat) (A : Option Addr) (m c : Nat) (news : List Value) (hm : news.length = m * size) (hr : At w B A news) (h1 : ∀ u ∈ news, u.oneCell' = true)
    (h63 : n + m ≤ maxLen) (hbytes : (n + m) * bytes ≤ 140737488355328) (hbase : base ≤ w.heap.size) :
    ∃ v' w', (Builtin.append_ #[t, t] ty #[v, .slice A m c]).run P w = .ok v' w' ∧ Own w' base e size v' (n + m) (xs ++ news) ∧ w.grownBy w' v.ownBlock ∧
      (v'.ownBlock = v.ownBlock ∨ v'.ownBlock = some w.heap.size) ∧ Pre w w' v.ownBlock (n * size) := by
  subst hsize
  subst hby
  rcases Nat.eq_zero_or_pos m with h0 | hpos
  · subst h0
    have hn : news = [] := List.eq_nil_of_length_eq_zero (by simpa using hm)
    subst hn
    refine ⟨v, w, ?_, by simpa using hown, World.grownBy.refl w _, .inl rfl, Pre.refl (fun g hg => by rcases hown.2 with ⟨rfl, _⟩ | ⟨g', cap, cur, fz, rfl, _, hgg, _⟩ <;> simp [Value.ownBlock] at hg; subst hg; exact ⟨_, _, _, hgg⟩) _⟩
    have hf : ∀ W : World, (Builtin.firstCells i.size 0 (.slice A 0 c)).run P W = .ok #[] W := by
      intro W
      cases A with
      | none => simp [Builtin.firstCells]
      | some ad => exact run_firstCells_some (P := P) W i.size 0 ad 0 c [] (by simp) (by simp)
    rcases hown.2 with ⟨rfl, rfl⟩ | ⟨g, cap, cur, fz, rfl, _, _, _, hnc, _⟩
    · simp [Builtin.append_, run_underlying ht, sizeOf, typeInfo, hi, Builtin.lenOf, hf]
    · simp [Builtin.append_, run_underlying ht, sizeOf, typeInfo, hi, Builtin.lenOf, hf, hnc, storeCells]
  · obtain ⟨ad, rfl, hnews⟩ : ∃ ad, A = some ad ∧ ∀ j u, news[j]? = some u → w.cell? (ad.add j) = some u := by
      rcases hr with hr | ⟨ad, e, _, hc⟩
      · subst hr
        have hp : 0 < m * i.size := Nat.mul_pos hpos hsz
        simp at hm
        omega
      · exact ⟨ad, e, hc⟩
    have hsmall : n + m ≤ 9223372036854775807 := by simp only [maxLen] at h63; omega
    have hlen : (xs ++ news).length = (n + m) * i.size := by rw [List.length_append, hown.1, hm, Nat.add_mul]
    have made : ∀ (old : Nat), ∀ (row : Option Nat),
        Own (w.drew.alloc (.cells (xs.toArray ++ news.toArray ++ Builtin.zeroCells z.cells (grownCap w (n + m) old e - (n + m))) e)) base e i.size
          (.slice (some ⟨w.heap.size, 0, none⟩) (n + m) (grownCap w (n + m) old e)) (n + m) (xs ++ news) ∧
        w.grownBy (w.drew.alloc (.cells (xs.toArray ++ news.toArray ++ Builtin.zeroCells z.cells (grownCap w (n + m) old e - (n + m))) e)) row := by
      intro old row
      have hge := grownCap_ge w (n + m) old e
      have hcm : grownCap w (n + m) old e ≤ maxLen := grownCap_le_maxLen w (n + m) old e h63
      refine ⟨⟨hlen, .inr ⟨w.heap.size, _, _, _, rfl, hbase, heap_alloc_new w.drew _, .inl rfl, hge, hcm, ?_, ?_⟩⟩, ⟨rfl, rfl, rfl, by simp, fun k hk _ => _root_.Go.heap_alloc_old w.drew _ hk⟩⟩
      · simp only [Array.size_append, List.size_toArray, size_zeroCells, hzs, hown.1, hm, ← Nat.add_mul]
        congr 1
        omega
      · simp only [Array.toList_append, List.append_assoc]
        rw [← List.append_assoc, ← hlen]
        exact List.take_left
    rcases hown.2 with ⟨rfl, rfl⟩ | ⟨g, cap, cur, fz, rfl, hbg, hg, hfz, hnc, hcm, hcs, htake⟩
    · have hx : xs = [] := List.eq_nil_of_length_eq_zero (by simpa using hown.1)
      subst hx
      have hrun := run_append_nil (P := P) w t ty e i z ht hi hz ad m c news hm hnews hpos (by omega) (by have hb := hbytes; simp only [Nat.zero_add] at hb; omega)
      have hgr := made 0 (Value.ownBlock (.slice none 0 0))
      simp only [Nat.zero_add, List.nil_append, Array.empty_append] at hgr ⊢
      exact ⟨_, _, hrun, hgr.1, hgr.2, .inr rfl, fun _ h => by cases h⟩
    · by_cases hroom : n + m ≤ cap
      · have hfit : n * i.size + news.length ≤ cur.size := by rw [hm, hcs, ← Nat.add_mul]; exact Nat.mul_le_mul_right _ hroom
        have hf := run_firstCells_some (P := P) w i.size m ad m c news hm hnews
        have hst := storeCells_own P g (n * i.size) e fz news 0 cur w hg hfz (by simpa using hfit) h1
        simp only [Nat.add_zero] at hst
        have hrun : (Builtin.append_ #[t, t] ty #[.slice (some ⟨g, 0, none⟩) n cap, .slice (some ad) m c]).run P w =
            .ok (.slice (some ⟨g, 0, none⟩) (n + m) cap) (w.setRow g (cur.toList.take (n * i.size) ++ news ++ cur.toList.drop (n * i.size + news.length)).toArray) := by
          simp [Builtin.append_, run_underlying ht, sizeOf, typeInfo, hi, Builtin.lenOf, hroom, hf, Addr.add_lit, hst]
        have hlt : (cur.toList.take (n * i.size)).length = n * i.size := by rw [htake]; exact hown.1
        refine ⟨_, _, hrun, ?_, ?_, .inl rfl, ?_⟩
        rotate_left 2
        · intro g' hg'
          obtain rfl : g = g' := by simpa [Value.ownBlock] using hg'
          refine ⟨cur, _, e, fz, hg, setRow_heap w g cur _ e _ hg, ?_, ?_⟩
          · simp only [List.size_toArray, List.length_append, List.length_take, List.length_drop, Array.length_toList]
            omega
          · simp only [List.append_assoc]
            rw [List.take_append_of_le_length (Nat.le_of_eq hlt.symm), List.take_of_length_le (Nat.le_of_eq hlt)]
        · refine ⟨hlen, .inr ⟨g, cap, _, fz, rfl, hbg, setRow_heap w g cur _ e _ hg, ?_, hroom, hcm, ?_, ?_⟩⟩
          · rcases hfz with h | h
            · exact .inl h
            · right
              simp only [List.size_toArray, List.length_append, List.length_take, List.length_drop, Array.length_toList]
              omega
          · simp only [List.size_toArray, List.length_append, List.length_take, List.length_drop, Array.length_toList]
            omega
          · rw [htake, ← hlen]
            exact List.take_left
        · exact ⟨rfl, rfl, rfl, by simp, fun k _ hk => setRow_other w g k _ (fun e => hk (by simp [Value.ownBlock, e]))⟩
      · have holds : ∀ j u, xs[j]? = some u → w.cell? ((⟨g, 0, none⟩ : Addr).add j) = some u := by
          intro j u hu
          rcases Own.at_ hown with hx | ⟨ad', e, _, hc⟩
          · subst hx; simp at hu
          · obtain rfl := Option.some.inj e
            exact hc j u hu
        have hrun := run_append_grow (P := P) w t ty e i z ht hi hz ⟨g, 0, none⟩ n cap xs hown.1 holds ad m c news hm hnews (by omega) (by omega) (growslice_fits (by omega) hbytes)
        have hgr := made cap (Value.ownBlock (.slice (some ⟨g, 0, none⟩) n cap))
        have hgn := made cap none
        refine ⟨_, _, hrun, hgr.1, hgr.2, .inr rfl, ?_⟩
        intro g' hg'
        obtain rfl : g = g' := by simpa [Value.ownBlock] using hg'
        exact ⟨cur, cur, e, fz, hg, (hgn.2.block g (Array.getElem?_eq_some_iff.1 hg).1 (by simp)).trans hg, rfl, rfl⟩

theorem wp_app {o : Oper} {a : Act} {K : Act → World → Prop} {Q : Exit → Act → World → Prop} (s x : Operand) (t : TypeId)
    (ho : o.op = .call { callee := .builtin .append, args := #[s, x], argTypes := #[t, t] })
    (base : Nat) (e : TypeId) (i : TypeInfo) (z : Value) (size bytes : Nat) (ht : P.underlying t = some (.slice e)) (hi : P.info? e = some i) (hz : i.zero = some z)
    (hsize : i.size = size) (hby : i.bytes = bytes) (hzs : z.cells.size = size) (hsz : 0 < size)
    (v : Value) (n : Nat) (xs : List Value) (hs : a.eval s = v) (hown : Own w base e size v n xs)
    (B : Nat) (A : Option Addr) (m c : Nat) (news : List Value) (hx : a.eval x = .slice A m c) (hm : news.length = m * size) (hr : At w B A news) (h1 : ∀ u ∈ news, u.oneCell' = true)
    (h63 : n + m ≤ maxLen) (hbytes : (n + m) * bytes ≤ 140737488355328) (hbase : base ≤ w.heap.size)
    (h : ∀ v' w', Own w' base e size v' (n + m) (xs ++ news) → w.grownBy w' v.ownBlock → (v'.ownBlock = v.ownBlock ∨ v'.ownBlock = some w.heap.size) → K (a.put o.dst v') w') : o.wp P a w K Q := by
  obtain ⟨v', w', hrun, h2, h3, h4, _⟩ := run_app (P := P) w base t o.type e i z size bytes ht hi hz hsize hby hzs hsz v n xs hown B A m c news hm hr h1 h63 hbytes hbase
  unfold Oper.wp execOp
  simp only [ho, resolve, invoke, builtin, Sem.run_bind, Sem.run_pure, Result.andThen_ok, List.map_toArray, List.map_cons, List.map_nil, hs, hx, hrun]
  exact h v' w' h2 h3 h4

theorem wpList_app {ops : Array Oper} {rest : List Oper} {o : Oper} {a : Act} {Q : Exit → Act → World → Prop} (hgd : o.guard = none) (s x : Operand) (t : TypeId)
    (ho : o.op = .call { callee := .builtin .append, args := #[s, x], argTypes := #[t, t] })
    (base : Nat) (e : TypeId) (i : TypeInfo) (z : Value) (size bytes : Nat) (ht : P.underlying t = some (.slice e)) (hi : P.info? e = some i) (hz : i.zero = some z)
    (hsize : i.size = size) (hby : i.bytes = bytes) (hzs : z.cells.size = size) (hsz : 0 < size)
    (v : Value) (n : Nat) (xs : List Value) (hs : a.eval s = v) (hown : Own w base e size v n xs)
    (B : Nat) (A : Option Addr) (m c : Nat) (news : List Value) (hx : a.eval x = .slice A m c) (hm : news.length = m * size) (hr : At w B A news) (h1 : ∀ u ∈ news, u.oneCell' = true)
    (h63 : n + m ≤ maxLen) (hbytes : (n + m) * bytes ≤ 140737488355328) (hbase : base ≤ w.heap.size)
    (h : ∀ v' w', Own w' base e size v' (n + m) (xs ++ news) → w.grownBy w' v.ownBlock → (v'.ownBlock = v.ownBlock ∨ v'.ownBlock = some w.heap.size) → wpList P ops Q rest (a.put o.dst v') w') : wpList P ops Q (o :: rest) a w :=
  wpList_plain hgd fun _ hK => wp_app w s x t ho base e i z size bytes ht hi hz hsize hby hzs hsz v n xs hs hown B A m c news hx hm hr h1 h63 hbytes hbase fun v' w' h2 h3 h4 => hK _ _ (h v' w' h2 h3 h4)
theorem wp_app2 {o : Oper} {a : Act} {K : Act → World → Prop} {Q : Exit → Act → World → Prop} (s x : Operand) (t : TypeId)
    (ho : o.op = .call { callee := .builtin .append, args := #[s, x], argTypes := #[t, t] })
    (base : Nat) (e : TypeId) (i : TypeInfo) (z : Value) (size bytes : Nat) (ht : P.underlying t = some (.slice e)) (hi : P.info? e = some i) (hz : i.zero = some z)
    (hsize : i.size = size) (hby : i.bytes = bytes) (hzs : z.cells.size = size) (hsz : 0 < size)
    (v : Value) (n : Nat) (xs : List Value) (hs : a.eval s = v) (hown : Own w base e size v n xs)
    (B : Nat) (A : Option Addr) (m c : Nat) (news : List Value) (hx : a.eval x = .slice A m c) (hm : news.length = m * size) (hr : At w B A news) (h1 : ∀ u ∈ news, u.oneCell' = true)
    (h63 : n + m ≤ maxLen) (hbytes : (n + m) * bytes ≤ 140737488355328) (hbase : base ≤ w.heap.size)
    (h : ∀ v' w', Own w' base e size v' (n + m) (xs ++ news) → w.grownBy w' v.ownBlock → (v'.ownBlock = v.ownBlock ∨ v'.ownBlock = some w.heap.size) → Pre w w' v.ownBlock (n * size) → K (a.put o.dst v') w') : o.wp P a w K Q := by
  obtain ⟨v', w', hrun, h2, h3, h4, h5⟩ := run_app (P := P) w base t o.type e i z size bytes ht hi hz hsize hby hzs hsz v n xs hown B A m c news hm hr h1 h63 hbytes hbase
  unfold Oper.wp execOp
  simp only [ho, resolve, invoke, builtin, Sem.run_bind, Sem.run_pure, Result.andThen_ok, List.map_toArray, List.map_cons, List.map_nil, hs, hx, hrun]
  exact h v' w' h2 h3 h4 h5

theorem wpList_app2 {ops : Array Oper} {rest : List Oper} {o : Oper} {a : Act} {Q : Exit → Act → World → Prop} (hgd : o.guard = none) (s x : Operand) (t : TypeId)
    (ho : o.op = .call { callee := .builtin .append, args := #[s, x], argTypes := #[t, t] })
    (base : Nat) (e : TypeId) (i : TypeInfo) (z : Value) (size bytes : Nat) (ht : P.underlying t = some (.slice e)) (hi : P.info? e = some i) (hz : i.zero = some z)
    (hsize : i.size = size) (hby : i.bytes = bytes) (hzs : z.cells.size = size) (hsz : 0 < size)
    (v : Value) (n : Nat) (xs : List Value) (hs : a.eval s = v) (hown : Own w base e size v n xs)
    (B : Nat) (A : Option Addr) (m c : Nat) (news : List Value) (hx : a.eval x = .slice A m c) (hm : news.length = m * size) (hr : At w B A news) (h1 : ∀ u ∈ news, u.oneCell' = true)
    (h63 : n + m ≤ maxLen) (hbytes : (n + m) * bytes ≤ 140737488355328) (hbase : base ≤ w.heap.size)
    (h : ∀ v' w', Own w' base e size v' (n + m) (xs ++ news) → w.grownBy w' v.ownBlock → (v'.ownBlock = v.ownBlock ∨ v'.ownBlock = some w.heap.size) → Pre w w' v.ownBlock (n * size) → wpList P ops Q rest (a.put o.dst v') w') : wpList P ops Q (o :: rest) a w :=
  wpList_plain hgd fun _ hK => wp_app2 w s x t ho base e i z size bytes ht hi hz hsize hby hzs hsz v n xs hs hown B A m c news hx hm hr h1 h63 hbytes hbase fun v' w' h2 h3 h4 h5 => hK _ _ (h v' w' h2 h3 h4 h5)
end

section
variable {w : World} {base : Nat} {e : TypeId} {size : Nat} {v : Value} {n : Nat} {xs : List Value}
/-- an element's cell, and that it may be written -/
theorem Own.cell {A : Option Addr} {cap : Nat} (h : Own w base e size (.slice A n cap) n xs) {j : Nat} (hj : j < xs.length) : ∃ g, A = some ⟨g, 0, none⟩ ∧ w.cell? ⟨g, j, none⟩ = xs[j]? ∧ w.frozen? ⟨g, j, none⟩ = false ∧ base ≤ g := by
  rcases h.2 with ⟨_, h0⟩ | ⟨g, cap', cur, fz, hv, hb, hg, hz, h1, h2, h3, h4⟩
  · have := h.1
    rw [h0] at this
    omega
  · have hA : A = some ⟨g, 0, none⟩ := by injection hv
    have hlen := h.1
    have hjc : j < cur.size := by rw [h3]; have := Nat.mul_le_mul_right size h1; omega
    refine ⟨g, hA, ?_, ?_, hb⟩
    · rw [cell_of_row w g j cur e fz hg, ← h4, List.getElem?_take, if_pos (by omega)]
      simp
    · obtain ⟨lo, hi⟩ := fz
      simp only [World.frozen?, hg, Bool.and_eq_false_iff, decide_eq_false_iff_not]
      simp only at hz
      rcases hz with hz | hz <;> omega
/-- a store into an element -/
theorem Own.store {g cap : Nat} (h : Own w base e size (.slice (some ⟨g, 0, none⟩) n cap) n xs) {j : Nat} (_hj : j < xs.length) (u : Value) : Own (w.setCell ⟨g, j, none⟩ u) base e size (.slice (some ⟨g, 0, none⟩) n cap) n (xs.set j u) := by
  refine ⟨by rw [List.length_set]; exact h.1, ?_⟩
  rcases h.2 with ⟨hv, _⟩ | ⟨g', cap', cur, fz, hv, hb, hg, hz, h1, h2, h3, h4⟩
  · cases hv
  · injection hv with hA hn hc
    injection hA with hA
    injection hA with hA
    subst hA; subst hc
    refine .inr ⟨g, cap, cur.setIfInBounds j u, fz, rfl, hb, ?_, ?_, h1, h2, by simpa using h3, ?_⟩
    · simp [World.setCell, Array.getElem?_modify, hg]
    · simpa using hz
    · rw [Array.toList_setIfInBounds, List.take_set, h4]
/-- rows of two element types never share a block -/
theorem Own.apart {e' : TypeId} {size' : Nat} {v' : Value} {n' : Nat} {xs' : List Value} {base' : Nat} (h : Own w base e size v n xs) (h' : Own w base' e' size' v' n' xs') (hne : e ≠ e') : v.ownBlock = none ∨ v.ownBlock ≠ v'.ownBlock := by
  rcases h.2 with ⟨rfl, _⟩ | ⟨g, cap, cur, fz, rfl, _, hg, _⟩
  · exact .inl rfl
  · right
    rcases h'.2 with ⟨rfl, _⟩ | ⟨g', cap', cur', fz', rfl, _, hg', _⟩
    · simp [Value.ownBlock]
    · simp only [Value.ownBlock]
      intro hh
      obtain rfl := Option.some.inj hh
      rw [hg] at hg'
      injection hg' with hg'
      injection hg' with _ ht
      exact hne ht
end

/-! ### A row grows: its own block alone is written, or it moves to a new one -/
def Onto (w : World) (row : Option Nat) (w' : World) (v' : Value) : Prop := w.grownBy w' row ∧ (v'.ownBlock = row ∨ ∀ g, v'.ownBlock = some g → w.heap.size ≤ g)
theorem Onto.refl (w : World) (v : Value) : Onto w v.ownBlock w v := ⟨World.grownBy.refl _ _, .inl rfl⟩
theorem grownBy_step {w w1 w2 : World} {row row1 : Option Nat} (h : w.grownBy w1 row) (k : w1.grownBy w2 row1) (hr : row1 = row ∨ ∀ g, row1 = some g → w.heap.size ≤ g) : w.grownBy w2 row :=
  ⟨k.os.trans h.os, k.tape.trans h.tape, k.output.trans h.output, Nat.le_trans h.size k.size, fun i hi hne =>
    (k.block i (Nat.lt_of_lt_of_le hi h.size) (by
      rcases hr with hr | hr
      · rw [hr]; exact hne
      · intro e
        have := hr i e.symm
        omega)).trans (h.block i hi hne)⟩
theorem Onto.step {w w1 w2 : World} {row : Option Nat} {v1 v2 : Value} (h : Onto w row w1 v1) (k : w1.grownBy w2 v1.ownBlock) (hv : v2.ownBlock = v1.ownBlock ∨ v2.ownBlock = some w1.heap.size) : Onto w row w2 v2 := by
  refine ⟨grownBy_step h.1 k h.2, ?_⟩
  rcases hv with hv | hv
  · rw [hv]; exact h.2
  · right
    intro g hg
    rw [hv] at hg
    obtain rfl := Option.some.inj hg
    exact h.1.size
theorem Onto.keep {w w1 w2 : World} {row : Option Nat} {v1 : Value} (h : Onto w row w1 v1) (k : Keeps w1 w2) : Onto w row w2 v1 :=
  ⟨grownBy_step (row1 := none) h.1 ⟨k.os, k.tape, k.output, k.size, fun i hi _ => k.block i hi⟩ (.inr (fun g hg => by cases hg)), h.2⟩
/-- what grew onto a row that is new is kept -/
theorem Onto.keeps {w w1 w2 : World} {v1 v2 : Value} (k : Keeps w w1) (h : Onto w1 v1.ownBlock w2 v2) (hv : ∀ g, v1.ownBlock = some g → w.heap.size ≤ g) : Keeps w w2 :=
  Below.grown k h.1 k.size hv

/-- the cells of a block that was laid just now -/
theorem At.new (w : World) (cs : List Value) (e : TypeId) (B : Nat) (hB : w.heap.size < B) : At (w.alloc (.cells cs.toArray e)) B (some ⟨w.heap.size, 0, none⟩) cs := by
  refine .inr ⟨_, rfl, hB, fun j u hu => ?_⟩
  rw [Addr.add_lit, Nat.zero_add, cell_of_row _ _ j cs.toArray e (0, 0) (heap_alloc_new w _)]
  simpa using hu

/-! ### Numbers as bytes, the lowest first -/
def le : List UInt8 → Nat
  | [] => 0
  | b :: t => b.toNat + 256 * le t
def nb : Nat → Nat → List UInt8
  | 0, _ => []
  | k + 1, x => UInt8.ofNat (x % 256) :: nb k (x / 256)
theorem nb_length (k x : Nat) : (nb k x).length = k := by
  induction k generalizing x with
  | zero => rfl
  | succ k ih => simp [nb, ih]
theorem le_lt (l : List UInt8) : le l < 256 ^ l.length := by
  induction l with
  | nil => simp [le]
  | cons b t ih =>
    have := b.toNat_lt
    simp only [le, List.length_cons, Nat.pow_succ]
    omega
theorem le_append (l m : List UInt8) : le (l ++ m) = le l + 256 ^ l.length * le m := by
  induction l with
  | nil => simp [le]
  | cons b t ih =>
    simp only [List.cons_append, le, ih, List.length_cons, Nat.pow_succ]
    rw [Nat.mul_add, Nat.mul_comm (256 ^ t.length) 256, Nat.mul_assoc, Nat.add_assoc]
theorem le_nb (k x : Nat) : le (nb k x) = x % 256 ^ k := by
  induction k generalizing x with
  | zero => simp [nb, le, Nat.mod_one]
  | succ k ih =>
    simp only [nb, le, ih]
    have e : (UInt8.ofNat (x % 256)).toNat = x % 256 := by simp
    rw [e, Nat.pow_succ, Nat.mul_comm (256 ^ k) 256, Nat.mod_mul]
theorem nb_le (l : List UInt8) : nb l.length (le l) = l := by
  induction l with
  | nil => rfl
  | cons b t ih =>
    have hb := b.toNat_lt
    simp only [List.length_cons, nb, le]
    have e1 : (b.toNat + 256 * le t) % 256 = b.toNat := by omega
    have e2 : (b.toNat + 256 * le t) / 256 = le t := by omega
    rw [e1, e2, ih]
    simp
theorem nb_succ (k x : Nat) : nb (k + 1) x = nb k x ++ [UInt8.ofNat (x / 256 ^ k % 256)] := by
  induction k generalizing x with
  | zero => simp [nb]
  | succ k ih =>
    rw [nb, ih]
    simp only [nb, List.cons_append]
    rw [Nat.div_div_eq_div_mul, Nat.pow_succ, Nat.mul_comm 256]
theorem nb_mod (k x : Nat) : nb k (x % 256 ^ k) = nb k x := by
  have h := nb_le (nb k x)
  rw [nb_length, le_nb] at h
  exact h
theorem le_take_succ (l : List UInt8) (k : Nat) (hk : k < l.length) : le (l.take (k + 1)) = le (l.take k) + 256 ^ k * (l.getD k 0).toNat := by
  rw [List.take_succ_eq_append_getElem hk, le_append]
  simp [le, List.length_take, Nat.min_eq_left (Nat.le_of_lt hk), List.getD, hk]
end Go.Proofs.Ytdfaogagadoooaa
