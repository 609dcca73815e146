/- Package witness: how a search lies in memory; a map from numbers to numbers; is a number among these? -/
import Derived.Test.YtkijfbnibfbldaaProg
import Derived.Test.YtkijfbnibfbldaaWitHeap
import Derived.Test.YtkijfbnibfbldaaLawHeap
import Derived.Laws.EntriesVeiled
namespace Go.Proofs.Ytkijfbnibfbldaa
open Go.RowKit
set_option linter.unusedSimpArgs false
set_option linter.unusedVariables false
set_option maxRecDepth 100000

def u32V (v : Nat) : Value := .int .u32 (v : Int)
def u64V (d : Nat) : Value := .int .u64 (d : Int)
theorem findNow_int (kd : IntKind) (k : Nat) : ∀ (es : List MapEntry) (ks : List Nat) (i : Nat), es.map (·.key) = ks.map (fun s : Nat => Value.int kd (s : Int)) →
    Instr.findNow (.int kd) (.int kd (k : Int)) es i = some ((ks.findIdx? fun x => decide (x = k)).bind fun j => (es[j]?).map fun e => (i + j, e.val)) := by
  intro es
  induction es with
  | nil =>
    intro ks i h
    cases ks with
    | nil => simp [Instr.findNow]
    | cons => simp at h
  | cons e es ih =>
    intro ks i h
    cases ks with
    | nil => simp at h
    | cons s ks =>
      simp only [List.map_cons, List.cons.injEq] at h
      obtain ⟨h1, h2⟩ := h
      simp only [Instr.findNow, h1, Instr.sameNow, List.findIdx?_cons]
      by_cases hs : s = k
      · subst hs
        simp
      · have e1 : ((k : Int) == (s : Int)) = false := by
          simp only [beq_eq_false_iff_ne, ne_eq, Int.natCast_inj]
          exact fun e => hs e.symm
        simp only [e1, decide_eq_false hs, Bool.false_eq_true, if_false]
        rw [ih ks (i + 1) h2]
        congr 1
        cases hf : ks.findIdx? (fun x => decide (x = k)) with
        | none => simp
        | some j => simp [Nat.add_assoc, Nat.add_comm 1 j]
theorem waitT : MapV Try.prog 74 26 27 u32V u64V where
  m := Try.underlying74
  check em k w := MapKept.run_checkKey Try.underlying26 (by simp [MapKept.IsKey, u32V]) em 9999
  find w k es ks h := by
    simp only [Instr.findKey, Sem.run_bind, run_underlying Try.underlying26, Result.andThen_ok]
    have := findNow_int .u32 k es ks 0 h
    unfold u32V
    rw [this]
    simp
  bits k := MapKept.sameBits_self (d := .int .u32) (by simp [MapKept.IsKey, u32V]) 10000
  inv := ⟨fun v => match v with
    | .int _ s => s.toNat
    | _ => 0, fun k => by simp [u32V]⟩
  einv := ⟨fun v => match v with
    | .int _ s => s.toNat
    | _ => 0, fun k => by simp [u64V]⟩
theorem zero_u64 (w : World) : (zeroValue 27).run Try.prog w = .ok (.int .u64 0) w := by kernel_rfl
def celU (l : List Nat) : List Value := l.map u32V
theorem celU_len (l : List Nat) : (celU l).length = l.length := by simp [celU]
theorem celU_get (l : List Nat) {j : Nat} {v : Nat} (h : l[j]? = some v) : (celU l)[j]? = some (.int .u32 (v : Int)) := by simp [celU, h, u32V]
theorem celU_one (l : List Nat) : ∀ u ∈ celU l, u.oneCell' = true := by
  intro u hu
  obtain ⟨_, _, rfl⟩ := List.mem_map.1 hu
  rfl

set_option maxHeartbeats 4000000 in
theorem indexU_any (A : Option Addr) (n c : Nat) (l : List Nat) (v : Nat) (w : World) (hB : At w w.heap.size A (celU l)) (hn : n = l.length) (hm : n ≤ 1000) :
    Calls Try.prog 46 #[.slice A n c, .int .u32 (v : Int)] w fun e w' => ∃ x : Int, e = .returned (.int .i64 x) ∧ decide (0 ≤ x) = decide (v ∈ l) ∧ Keeps w w' := by
  have HN := Lib.hid hn
  have HM := Lib.hid hm
  have HB := Lib.hid hB
  clear hn hm hB
  go_enter Try.func46, Try.ntmps46
  go_wp2_with fail
  go_loopw [8] (fun i wr => ∃ k : Nat, k ≤ l.length ∧ i = .int .i64 (k : Int) ∧ v ∉ l.take k ∧ Keeps w wr) (fun i _ => l.length - (intOf i).toNat)
  case atStart => exact ⟨0, by omega, rfl, by simp, keeps_refl _⟩
  case round =>
    obtain ⟨k, hk, rfl, hnot, hks⟩ := hrel
    have KS := Lib.hid hks
    have HB2 := Lib.hid ((HB.out.keep hks).more hks.size)
    clear hks
    by_cases hkl : k < l.length
    · obtain ⟨ad, hA, -, hc⟩ := At.get HB2.out (k := k) (by rw [celU_len]; exact hkl)
      subst hA
      obtain ⟨y, hy⟩ : ∃ y, l[k]? = some y := ⟨_, List.getElem?_eq_getElem hkl⟩
      have hx := celU_get l hy
      rw [hx] at hc
      have hkn : (k : Int) < (n : Int) := by have := HN.out; omega
      have hk0 : (0 : Int) ≤ (k : Int) := by omega
      have hkm : (k : Int) < 1001 := by have := HM.out; omega
      have HK := Lib.hid hkl
      have HNOT := Lib.hid hnot
      have HG := Lib.hid hy
      clear hx hy
      by_cases hv : v = y
      · subst hv
        have HMEM := Lib.hid (show v ∈ l from List.mem_of_getElem? HG.out)
        clear hkl hk hnot hkm HM
        go_wp2_with fail
        go_ret
        exact ⟨(k : Int), rfl, by simp [HMEM.out], KS.out⟩
      · have HV := Lib.hid hv
        have h4 : ((v : Int) == (y : Int)) = false := by simp only [beq_eq_false_iff_ne, ne_eq, Int.natCast_inj]; exact hv
        clear hkl hk hnot hv
        go_wp2_with fail
        go_roundw
        case rel =>
          refine ⟨k + 1, by have := HK.out; omega, by go_num, ?_, KS.out⟩
          rw [List.take_add_one, HG.out]
          simp only [Option.toList_some, List.mem_append, List.mem_singleton, not_or]
          exact ⟨HNOT.out, HV.out⟩
        case measure => have := HK.out; simp [intOf]; omega
    · have hkn : ¬ ((k : Int) < (n : Int)) := by have := HN.out; omega
      have HK := Lib.hid (show k = l.length by omega)
      have HNOT := Lib.hid hnot
      clear hk hkl hnot
      go_wp2_with fail
      go_ret
      refine ⟨-1, rfl, ?_, KS.out⟩
      have h := HNOT.out
      rw [HK.out, List.take_length] at h
      simp [h]
set_option maxHeartbeats 1000000 in
theorem containsU_any (A : Option Addr) (n c : Nat) (l : List Nat) (v : Nat) (w : World) (hB : At w w.heap.size A (celU l)) (hn : n = l.length) (hm : n ≤ 1000) :
    Calls Try.prog 39 #[.slice A n c, .int .u32 (v : Int)] w fun e w' => e = .returned (.bool (decide (v ∈ l))) ∧ Keeps w w' := by
  have R := Lib.hid (indexU_any A n c l v w hB hn hm)
  clear hB hn hm
  go_enter Try.func39, Try.ntmps39
  go_wp2_with fail
  refine R.out.mono ?_
  rintro e w1 ⟨x, rfl, hx, k1⟩
  have HX := Lib.hid hx
  clear hx
  go_wp2_with fail
  go_ret
  exact ⟨by rw [← HX.out]; rfl, k1⟩

/-- the blocks of a search -/
def SF (b mb : Nat) (Fh : Nat → Prop) (sv : Value) : Nat → Prop := fun i => i = b ∨ i = mb ∨ Fh i ∨ sv.ownBlock = some i
/-- a search, as it lies -/
structure SrAt (K : HeapOk) (w : World) (b mb : Nat) (p : Addr) (Fh : Nat → Prop) (sv : Value) (hp : List It) (W : Wt) (S : List Nat) : Prop where
  box : Box w b 77 #[sv, .map (some mb), .pointer (some p)]
  own : Own w 0 26 1 sv S.length (celU S)
  map : MapW u32V u64V w mb W
  heap : K.H w p Fh hp
  nb : ¬ Fh b
  nm : ¬ Fh mb
  ns : ∀ g, sv.ownBlock = some g → ¬ Fh g
  fit : ∀ x ∈ hp, ItOk x
  fitW : ∀ v d, lookM W v = some d → v < 4294967296 ∧ d < 18446744073709551616
  len : hp.length ≤ 65536
  few : S.length ≤ 1000
section
variable {K : HeapOk} {w w' : World} {b mb : Nat} {p : Addr} {Fh : Nat → Prop} {sv : Value} {hp : List It} {W : Wt} {S : List Nat}
theorem SrAt.lt (h : SrAt K w b mb p Fh sv hp W S) : ∀ i, SF b mb Fh sv i → i < w.heap.size := by
  rintro i (rfl | rfl | e | e)
  · exact h.box.lt
  · exact h.map.lt
  · exact K.lt h.heap i e
  · exact (h.own.lt i e).2
theorem SrAt.same (h : SrAt K w b mb p Fh sv hp W S) (hk : ∀ i, SF b mb Fh sv i → w'.heap[i]? = w.heap[i]?) : SrAt K w' b mb p Fh sv hp W S :=
  ⟨(hk b (.inl rfl)).trans h.box, h.own.same fun g hg => hk g (.inr (.inr (.inr hg))), h.map.same (hk mb (.inr (.inl rfl))), K.same h.heap fun i hi => hk i (.inr (.inr (.inl hi))), h.nb, h.nm, h.ns, h.fit, h.fitW, h.len, h.few⟩
theorem SrAt.keep (h : SrAt K w b mb p Fh sv hp W S) (k : Keeps w w') : SrAt K w' b mb p Fh sv hp W S := h.same fun i hi => k.block i (h.lt i hi)
theorem SrAt.bm (h : SrAt K w b mb p Fh sv hp W S) : b ≠ mb := h.map.ne h.box
theorem SrAt.bs (h : SrAt K w b mb p Fh sv hp W S) : ∀ g, sv.ownBlock = some g → g ≠ b ∧ g ≠ mb := by
  intro g hg
  rcases h.own.2 with ⟨rfl, _⟩ | ⟨g', cap, cur, fz, rfl, _, hg', _⟩
  · cases hg
  · simp only [Value.ownBlock, Option.some.injEq] at hg
    subst hg
    refine ⟨fun e => ?_, h.map.ne hg'⟩
    have := h.box
    rw [← e] at this
    unfold Box at this
    rw [hg'] at this
    simp at this
/-- the heap has turned -/
theorem SrAt.turn {hp' : List It} {Fh' : Nat → Prop} (h : SrAt K w b mb p Fh sv hp W S) (hh : K.H w' p Fh' hp') (t : Turns w w' Fh Fh') (hf : ∀ x ∈ hp', ItOk x) (hl : hp'.length ≤ 65536) :
    SrAt K w' b mb p Fh' sv hp' W S ∧ Turns w w' (SF b mb Fh sv) (SF b mb Fh' sv) := by
  have hno : ∀ i, i < w.heap.size → ¬ Fh i → ¬ Fh' i := fun i hi hn e => by
    rcases t.next i e with e | e
    · exact hn e
    · omega
  refine ⟨⟨(t.only.block b h.box.lt h.nb).trans h.box, h.own.same fun g hg => t.only.block g (h.own.lt g hg).2 (h.ns g hg), h.map.same (t.only.block mb h.map.lt h.nm), hh, hno b h.box.lt h.nb, hno mb h.map.lt h.nm, fun g hg => hno g (h.own.lt g hg).2 (h.ns g hg), hf, h.fitW, hl, h.few⟩, ⟨t.only.os, t.only.tape, t.only.output, t.only.size, fun i hi hn => t.only.block i hi (fun e => hn (.inr (.inr (.inl e))))⟩, ?_⟩
  rintro i (rfl | rfl | e | e)
  · exact .inl (.inl rfl)
  · exact .inl (.inr (.inl rfl))
  · rcases t.next i e with e | e
    · exact .inl (.inr (.inr (.inl e)))
    · exact .inr e
  · exact .inl (.inr (.inr (.inr e)))
/-- the map has turned -/
theorem SrAt.put {W' : Wt} (h : SrAt K w b mb p Fh sv hp W S) (hm : MapW u32V u64V w' mb W') (o : Only w w' (fun c => c = mb)) (hf : ∀ v d, lookM W' v = some d → v < 4294967296 ∧ d < 18446744073709551616) :
    SrAt K w' b mb p Fh sv hp W' S ∧ Turns w w' (SF b mb Fh sv) (SF b mb Fh sv) :=
  ⟨⟨(o.block b h.box.lt h.bm).trans h.box, h.own.same fun g hg => o.block g (h.own.lt g hg).2 (h.bs g hg).2, hm, K.same h.heap fun i hi => o.block i (K.lt h.heap i hi) (fun e => h.nm (e ▸ hi)), h.nb, h.nm, h.ns, h.fit, hf, h.len, h.few⟩,
    ⟨o.os, o.tape, o.output, o.size, fun i hi hn => o.block i hi (fun e => hn (.inr (.inl e)))⟩, fun i hi => .inl hi⟩
end
end Go.Proofs.Ytkijfbnibfbldaa
