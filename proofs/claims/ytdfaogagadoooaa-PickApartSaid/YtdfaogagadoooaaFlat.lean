/- Arguments opened, of no program: the cells of a plain type, one behind the other; slices of structs. -/
import Derived.Test.YtdfaogagadoooaaBase
import Derived.Deep.Slices
import Derived.Deep.Fields
import Derived.ChangeSame
import Derived.OpenShut
namespace Go.Proofs.Ytdfaogagadoooaa
open Go.RowKit Go.ChangeShapes Go.WideShapes Go.Deep
set_option linter.unusedVariables false
set_option maxRecDepth 100000
set_option linter.unusedSimpArgs false

/-- The types of a struct's cells, field by field; none: laid with gaps. -/
def flatFields (P : Program) (g : TypeId → Option (List TypeId)) : List Field → Nat → Option (List TypeId)
  | [], _ => some []
  | f :: fs, off => if f.offset = off then (g f.type).bind fun l => if P.cellsOf f.type = l.length then (flatFields P g fs (off + l.length)).map (l ++ ·) else none else none
/-- The types of a plain type's cells. -/
def flat (P : Program) : Nat → TypeId → Option (List TypeId)
  | 0, _ => none
  | fuel + 1, t => match P.underlying t with
    | some (.struct fs) => flatFields P (flat P fuel) fs.toList 0
    | some (.array n e) => (flat P fuel e).bind fun l => if P.cellsOf e = l.length then some (List.replicate n l).flatten else none
    | some _ => if P.cellsOf t = 1 then some [t] else none
    | none => none

section
variable {H : Type} {enc : TypeId × Value → H} {P : Program} {w : World} {base : Nat} {spare : Nat → Bool} {held : Bool}
/-- this cell is one of that type -/
def Leaf (enc : TypeId × Value → H) (P : Program) (w : World) (base : Nat) (spare : Nat → Bool) (held : Bool) (T : TypeId) (c : Value) : Prop := ∃ n y, DataW.trod enc P w base spare held n T [c] = some y
theorem Leaf.int {T : TypeId} {c : Value} {k : IntKind} (h : Leaf enc P w base spare held T c) (hT : P.underlying T = some (.int k)) : ∃ a, c = .int k a ∧ (Lit.int k a).wf = true := by
  obtain ⟨n, y, h⟩ := h
  obtain ⟨a, e, _, hw⟩ := DataW.trod_int hT h
  exact ⟨a, by simpa using e, hw⟩
theorem Leaf.bool {T : TypeId} {c : Value} (h : Leaf enc P w base spare held T c) (hT : P.underlying T = some .bool) : ∃ b, c = .bool b := by
  obtain ⟨n, y, h⟩ := h
  obtain ⟨b, e, _⟩ := DataW.trod_bool hT h
  exact ⟨b, by simpa using e⟩

theorem flatFields_leaf {g : TypeId → Option (List TypeId)} {cs : List Value} {n : Nat} {xs : List (DataW H × List MemPlace)}
    (ih : ∀ t ts, g t = some ts → ∀ {m : Nat} {cs' : List Value} {x : DataW H × List MemPlace}, DataW.trod enc P w base spare held m t cs' = some x → cs'.length = ts.length → ∀ (j : Nat) (T : TypeId), ts[j]? = some T → ∃ c, cs'[j]? = some c ∧ Leaf enc P w base spare held T c) :
    ∀ (fs : List Field) (i0 off : Nat) (ts : List TypeId), flatFields P g fs off = some ts →
      (∀ i f, fs[i]? = some f → DataW.trod enc P w base spare held n f.type ((cs.drop f.offset).take (P.cellsOf f.type)) = xs[i0 + i]?) → i0 + fs.length = xs.length → off + ts.length ≤ cs.length →
      ∀ (j : Nat) (T : TypeId), ts[j]? = some T → ∃ c, cs[off + j]? = some c ∧ Leaf enc P w base spare held T c := by
  intro fs
  induction fs with
  | nil =>
    intro i0 off ts h _ _ _ j T hj
    simp only [flatFields, Option.some.injEq] at h
    subst h
    simp at hj
  | cons f fs ihf =>
    intro i0 off ts h ht hx hl j T hj
    simp only [flatFields] at h
    split at h
    · rename_i ho
      obtain ⟨l, hl1, h2⟩ := Option.bind_eq_some_iff.1 h
      split at h2
      · rename_i hc
        obtain ⟨r, hr, rfl⟩ := Option.map_eq_some_iff.1 h2
        by_cases hjl : j < l.length
        · rw [List.getElem?_append_left hjl] at hj
          have h0 := ht 0 f rfl
          simp only [List.length_append] at hl
          have hx0 : i0 + 0 < xs.length := by rw [← hx]; simp
          rw [List.getElem?_eq_getElem hx0] at h0
          obtain ⟨c, hc1, hc2⟩ := ih f.type l hl1 h0 (by rw [List.length_take, List.length_drop, hc, ho]; omega) j T hj
          refine ⟨c, ?_, hc2⟩
          rw [List.getElem?_take] at hc1
          split at hc1
          · rw [List.getElem?_drop, ho] at hc1
            exact hc1
          · cases hc1
        · rw [List.getElem?_append_right (by omega)] at hj
          have h1 := ihf (i0 + 1) (off + l.length) r hr (fun i f' hf' => by
            have := ht (i + 1) f' hf'
            rw [this]
            congr 1
            omega) (by rw [← hx]; simp; omega) (by simp only [List.length_append] at hl; omega) (j - l.length) T hj
          obtain ⟨c, hc1, hc2⟩ := h1
          exact ⟨c, by rw [← hc1]; congr 1; omega, hc2⟩
      · cases h2
    · cases h
theorem flatten_rep {α : Type} (l : List α) (n j : Nat) (x : α) (h : (List.replicate n l).flatten[j]? = some x) : ∃ i k, i < n ∧ k < l.length ∧ j = i * l.length + k ∧ l[k]? = some x := by
  induction n generalizing j with
  | zero => simp at h
  | succ n ih =>
    rw [List.replicate_succ, List.flatten_cons] at h
    by_cases hj : j < l.length
    · rw [List.getElem?_append_left hj] at h
      exact ⟨0, j, by omega, hj, by omega, h⟩
    · rw [List.getElem?_append_right (by omega)] at h
      obtain ⟨i, k, h1, h2, h3, h4⟩ := ih _ h
      exact ⟨i + 1, k, by omega, h2, by rw [Nat.add_mul]; omega, h4⟩
theorem flat_leaf : ∀ (fuel : Nat) (t : TypeId) (ts : List TypeId), flat P fuel t = some ts → ∀ {m : Nat} {cs : List Value} {x : DataW H × List MemPlace}, DataW.trod enc P w base spare held m t cs = some x → cs.length = ts.length → ∀ (j : Nat) (T : TypeId), ts[j]? = some T → ∃ c, cs[j]? = some c ∧ Leaf enc P w base spare held T c := by
  intro fuel
  induction fuel with
  | zero => intro t ts h; simp [flat] at h
  | succ fuel ih =>
    intro t ts h m cs x ht hl j T hj
    simp only [flat] at h
    have one : P.cellsOf t = 1 → ts = [t] → ∃ c, cs[j]? = some c ∧ Leaf enc P w base spare held T c := by
      intro h1 h2
      subst h2
      match cs, hl with
      | [c], _ =>
        rcases j with _ | j
        · simp only [List.getElem?_cons_zero, Option.some.injEq] at hj
          subst hj
          exact ⟨c, rfl, m, x, ht⟩
        · simp at hj
    split at h
    · rename_i fs hu
      obtain ⟨xs, n, _, _, hcl, hxl, hg⟩ := DataW.trod_struct hu ht
      have := flatFields_leaf (P := P) (cs := cs) (n := n) (xs := xs) (fun t ts h => ih t ts h) fs.toList 0 0 ts h (fun i f hf => by
        rw [Nat.zero_add]
        exact hg i f (by simpa using hf)) (by simp [hxl]) (by omega) j T hj
      simpa using this
    · rename_i n e hu
      obtain ⟨l, hl1, h2⟩ := Option.bind_eq_some_iff.1 h
      split at h2
      · rename_i hc
        injection h2 with h2
        subst h2
        obtain ⟨xs, m', _, _, hcl, hxl, hg⟩ := DataW.trod_array hu ht
        obtain ⟨i, k, h1, h3, h4, h5⟩ := flatten_rep l n j T hj
        have h0 := hg i h1
        rw [List.getElem?_eq_getElem (by omega)] at h0
        have hle : (i + 1) * l.length ≤ n * l.length := Nat.mul_le_mul_right _ h1
        rw [Nat.add_mul] at hle
        rw [List.length_flatten, List.map_replicate, List.sum_replicate_nat] at hl
        obtain ⟨c, hc1, hc2⟩ := ih e l hl1 h0 (by rw [List.length_take, List.length_drop, hc]; omega) k T h5
        refine ⟨c, ?_, hc2⟩
        rw [List.getElem?_take] at hc1
        split at hc1
        · rw [List.getElem?_drop, hc] at hc1
          rw [h4]
          exact hc1
        · cases hc1
      · cases h2
    · split at h
      · rename_i hc
        injection h with h
        exact one hc h.symm
      · cases h
    · cases h

/-- a value by itself: its cells -/
theorem flat_agg {r : Reach} {b0 : Nat} {t : TypeId} {fs : Array Field} {ts : List TypeId} {v : Value} {d : DataW H} {p : List MemPlace} (hu : P.underlying t = some (.struct fs)) (hf : flat P 6 t = some ts) (hC : P.cellsOf t = ts.length)
    (hv : Value.okWide P w r b0 t v) (h : DataW.Trod enc P w base spare held t v d p) : ∃ cs : List Value, v = .agg cs.toArray ∧ cs.length = ts.length ∧ ∀ (j : Nat) (T : TypeId), ts[j]? = some T → ∃ c, cs[j]? = some c ∧ Leaf enc P w base spare held T c := by
  obtain ⟨cs, rfl, hsz⟩ := okWide_struct hu hv
  obtain ⟨fuel, hf'⟩ := h
  refine ⟨cs.toList, by simp, by simpa using hsz.trans hC, ?_⟩
  exact flat_leaf 6 t ts hf hf' (by simpa [Value.cells] using hsz.trans hC)

/-- a slice: its cells -/
theorem flat_slice {t e : TypeId} {ts : List TypeId} {A : Option Addr} {n c : Nat} (ht : P.underlying t = some (.slice e)) (hf : flat P 6 e = some ts) (hC : P.cellsOf e = ts.length) (h : Leaf enc P w base spare held t (.slice A n c)) :
    n ≤ c ∧ c ≤ maxLen ∧ (A = none → n = 0 ∧ c = 0) ∧ ∀ i, i < n → ∃ ad, A = some ad ∧ ∀ (j : Nat) (T : TypeId), ts[j]? = some T → ∃ x, w.cell? (ad.add (i * ts.length + j)) = some x ∧ Leaf enc P w base spare held T x := by
  obtain ⟨fuel, y, h⟩ := h
  rcases open_slice ht h with ⟨hcs, _⟩ | ⟨a, len, cap, m, n', D, Pl, hcs, hb, hl, hm, hmm, hx, hi⟩
  · simp only [List.cons.injEq, Value.slice.injEq, and_true] at hcs
    obtain ⟨rfl, rfl, rfl⟩ := hcs
    exact ⟨Nat.le_refl _, Nat.zero_le _, fun _ => ⟨rfl, rfl⟩, fun i hi => by omega⟩
  · simp only [List.cons.injEq, Value.slice.injEq, and_true] at hcs
    obtain ⟨rfl, rfl, rfl⟩ := hcs
    refine ⟨hl, hm, (by intro h; cases h), fun i hin => ⟨a, rfl, fun j T hj => ?_⟩⟩
    have hlm : i < m := by rw [hmm]; split <;> omega
    obtain ⟨cs', hc, ht'⟩ := hi i hlm
    rw [hC] at hc
    obtain ⟨_, hcl, hat⟩ := World.cells?_some hc
    obtain ⟨x, hx1, hx2⟩ := flat_leaf 6 e ts hf ht' hcl j T hj
    refine ⟨x, ?_, hx2⟩
    have hjl : j < ts.length := (List.getElem?_eq_some_iff.1 hj).1
    rw [← Go.Deep.add_add, hat j hjl, hx1]
end

/-- what is there for every place is a list -/
theorem list_of {α : Type} {Q : Nat → α → Prop} (n : Nat) (h : ∀ i, i < n → ∃ x, Q i x) : ∃ l : List α, l.length = n ∧ ∀ i x, l[i]? = some x → Q i x := by
  induction n with
  | zero => exact ⟨[], rfl, fun i x h => by simp at h⟩
  | succ n ih =>
    obtain ⟨l, hl, hq⟩ := ih fun i hi => h i (by omega)
    obtain ⟨x, hx⟩ := h n (by omega)
    refine ⟨l ++ [x], by simp [hl], fun i y hy => ?_⟩
    by_cases hi : i < l.length
    · rw [List.getElem?_append_left hi] at hy
      exact hq i y hy
    · rw [List.getElem?_append_right (by omega)] at hy
      obtain rfl : i = l.length := by
        have := (List.getElem?_eq_some_iff.1 hy).1
        simp at this
        omega
      simp at hy
      subst hy
      rw [hl]
      exact hx
/-- the cells of a list of rows of k cells each -/
theorem flatMap_get {α : Type} (enc : α → List Value) (k : Nat) (hk : ∀ x, (enc x).length = k) (l : List α) {i j : Nat} (hj : j < k) : (l.flatMap enc)[i * k + j]? = (l[i]?).bind fun x => (enc x)[j]? := by
  induction l generalizing i with
  | nil => simp
  | cons a l ih =>
    rw [List.flatMap_cons]
    rcases i with _ | i
    · rw [List.getElem?_append_left (by rw [hk]; omega)]
      simp
    · rw [List.getElem?_append_right (by rw [hk, Nat.add_mul]; omega), hk, show (i + 1) * k + j - k = i * k + j by rw [Nat.add_mul]; omega, ih]
      simp
theorem flatMap_length {α : Type} (enc : α → List Value) (k : Nat) (hk : ∀ x, (enc x).length = k) (l : List α) : (l.flatMap enc).length = l.length * k := by
  induction l with
  | nil => simp
  | cons a l ih => rw [List.flatMap_cons, List.length_append, ih, hk, List.length_cons, Nat.add_mul]; omega
/-- a slice of structs holds a list: from what each element's cells are -/
theorem at_rows {α : Type} (enc : α → List Value) (k : Nat) (hk : ∀ x, (enc x).length = k) (hpos : 0 < k) {W : World} {A : Option Addr} {n : Nat} (l : List α) (hl : l.length = n) (ad : Addr) (hA : 0 < n → A = some ad)
    (h : ∀ i x, l[i]? = some x → ∀ j u, (enc x)[j]? = some u → W.cell? (ad.add (i * k + j)) = some u) : At W W.heap.size A (l.flatMap enc) := by
  rcases Nat.eq_zero_or_pos n with h0 | h0
  · left
    have : l = [] := List.eq_nil_of_length_eq_zero (by omega)
    subst this
    rfl
  · refine .inr ⟨ad, hA h0, ?_, fun q u hq => ?_⟩
    · obtain ⟨x, l', rfl⟩ : ∃ x l', l = x :: l' := by
        cases l with
        | nil => simp at hl; omega
        | cons x l' => exact ⟨x, l', rfl⟩
      obtain ⟨u, us, hu⟩ : ∃ u us, enc x = u :: us := by
        have := hk x
        cases he : enc x with
        | nil => rw [he] at this; simp at this; omega
        | cons u us => exact ⟨u, us, rfl⟩
      have := block_lt_of_cell (h 0 x rfl 0 u (by rw [hu]; rfl))
      rwa [addr_block] at this
    · have hd := Nat.div_add_mod q k
      have e : q = q / k * k + q % k := by rw [Nat.mul_comm]; omega
      have hm : q % k < k := Nat.mod_lt _ hpos
      rw [e, flatMap_get enc k hk l hm] at hq
      obtain ⟨x, hx, hu⟩ := Option.bind_eq_some_iff.1 hq
      rw [e]
      exact h _ x hx _ u hu
end Go.Proofs.Ytdfaogagadoooaa
