/- Rows of a call's own: cut, copied into, made longer by noughts; of no program. -/
import Derived.Test.YtpbkkbkpodcgnaaOnly
import Derived.Test.YtpbkkbkpodcgnaaSlices
import Derived.Deep.RegionLaw
namespace Go.Proofs.Ytpbkkbkpodcgnaa
open Go.RowKit
set_option linter.unusedSimpArgs false
set_option linter.unusedVariables false
set_option maxRecDepth 100000

section
variable {w : World} {base : Nat} {e : TypeId} {A : Option Addr} {n cap : Nat} {xs : List Value}
theorem Own.cut1 (h : Own w base e 1 (.slice A n cap) n xs) {m : Nat} (hm : m ≤ n) : Own w base e 1 (.slice A m cap) m (xs.take m) := by
  refine ⟨by rw [List.length_take, h.1]; omega, ?_⟩
  rcases h.2 with ⟨hv, h0⟩ | ⟨g', cap', cur, fz, hv, hb, hg, hz, h1, h2, h3, h4⟩
  · injection hv with hA hn hc
    obtain rfl : m = 0 := by omega
    exact .inl ⟨by rw [hA, hc], rfl⟩
  · injection hv with hA hn hc
    subst hc
    refine .inr ⟨g', cap, cur, fz, by rw [hA], hb, hg, hz, by omega, h2, h3, ?_⟩
    rw [← h4, List.take_take]
    congr 1
    omega
theorem Own.nil_len (h : Own w base e 1 (.slice none n cap) n xs) : n = 0 ∧ cap = 0 := by
  rcases h.2 with ⟨hv, h0⟩ | ⟨g', cap', cur, fz, hv, _⟩
  · injection hv with hA hn hc
    exact ⟨h0, hc⟩
  · injection hv with hA; cases hA
/-- the row's own block, where there is one -/
theorem Own.block (h : Own w base e 1 (.slice A n cap) n xs) : (Value.slice A n cap).ownBlock = A.map (·.block) := by
  rcases h.2 with ⟨hv, h0⟩ | ⟨g', cap', cur, fz, hv, _⟩
  · injection hv with hA hn hc; subst hA; rfl
  · injection hv with hA; subst hA; rfl
end
def spliceL (xs : List Value) (off : Nat) (ys : List Value) : List Value := xs.take off ++ ys ++ xs.drop (off + ys.length)
theorem setRow_grown (w : World) (g : Nat) (cs : Array Value) : w.grownBy (w.setRow g cs) (some g) := ⟨rfl, rfl, rfl, by simp, fun k _ hk => setRow_other w g k _ (fun e => hk (by simp [e]))⟩
section
variable {P : Program} (w : World)
theorem run_copyO (base : Nat) (t ty e : TypeId) (i : TypeInfo) (ht : P.underlying t = some (.slice e)) (hi : P.info? e = some i) (hsize : i.size = 1)
    (A : Option Addr) (n cap : Nat) (xs : List Value) (hown : Own w base e 1 (.slice A n cap) n xs) (off dn dc : Nat) (hoff : off + dn ≤ n)
    (B : Option Addr) (m c : Nat) (news : List Value) (hm : news.length = m) (hr : At w w.heap.size B news) (h1 : ∀ u ∈ news, u.oneCell' = true) :
    ∃ w', (Builtin.copy_ #[t, t] ty #[.slice (dropA A cap off) dn dc, .slice B m c]).run P w = .ok (.int .i64 ((min m dn : Nat) : Int)) w' ∧ Own w' base e 1 (.slice A n cap) n (spliceL xs off (news.take (min m dn))) ∧ w.grownBy w' (Value.slice A n cap).ownBlock := by
  have hlen : (news.take (min m dn)).length = min m dn := by rw [List.length_take, hm]; omega
  have hf : ∀ j v, (news.take (min m dn))[j]? = some v → ∀ ad, B = some ad → w.cell? (ad.add j) = some v := by
    intro j v hv ad hB
    rcases hr with hr | ⟨ad', e', _, hc⟩
    · rw [hr] at hv; simp at hv
    · rw [hB] at e'
      obtain rfl := Option.some.inj e'
      rw [List.getElem?_take] at hv
      split at hv
      · exact hc j v hv
      · cases hv
  have hfc : (Builtin.firstCells 1 (min m dn) (.slice B m c)).run P w = .ok (news.take (min m dn)).toArray w := by
    cases B with
    | none =>
      have : news = [] := by
        rcases hr with hr | ⟨ad', e', _⟩
        · exact hr
        · cases e'
      simp [Builtin.firstCells, this]
    | some ad => exact run_firstCells_some (P := P) w 1 (min m dn) ad m c _ (by rw [hlen]; omega) (fun j v hv => hf j v hv ad rfl)
  rcases hown.2 with ⟨hv, h0⟩ | ⟨g, cap', cur, fz, hv, hbg, hg, hfz, hnc, hcm, hcs, htake⟩
  · injection hv with hA hn hc
    subst hA
    subst hc
    subst hn
    obtain ⟨rfl, rfl⟩ : off = 0 ∧ dn = 0 := by omega
    have hx : xs = [] := List.eq_nil_of_length_eq_zero (by simpa using hown.1)
    subst hx
    have hd : dropA (none : Option Addr) 0 0 = none := rfl
    rw [hd]
    simp only [Nat.min_zero, List.take_zero] at hfc ⊢
    refine ⟨w, ?_, by simpa [spliceL] using hown, World.grownBy.refl w _⟩
    simp [Builtin.copy_, run_underlying ht, sizeOf, typeInfo, hi, hsize, Builtin.lenOf, hfc, goInt]
  · injection hv with hA hn hc
    subst hA
    subst hc
    have hlx := hown.1
    by_cases hz : dn = 0
    · subst hz
      simp only [Nat.min_zero, List.take_zero] at hfc ⊢
      have hst : ∀ d : Option Addr, (Builtin.copy_ #[t, t] ty #[.slice d 0 dc, .slice B m c]).run P w = .ok (.int .i64 ((0 : Nat) : Int)) w := by
        intro d
        have e0 : Nat.min m 0 = 0 := Nat.min_zero m
        cases d <;> simp [Builtin.copy_, run_underlying ht, sizeOf, typeInfo, hi, hsize, Builtin.lenOf, e0, hfc, goInt, storeCells]
      exact ⟨w, hst _, by simpa [spliceL] using hown, World.grownBy.refl w _⟩
    · have hd : dropA (some ⟨g, 0, none⟩) cap off = some ⟨g, off, none⟩ := by
        unfold dropA
        rw [if_neg (by omega)]
        simp [Addr.add_lit]
      rw [hd]
      have hst := storeCells_own P g off e fz (news.take (min m dn)) 0 cur w hg hfz (by rw [hlen, hcs]; omega) (fun u hu => h1 u (List.mem_of_mem_take hu))
      simp only [Nat.add_zero] at hst
      have e0 : Nat.min m dn = min m dn := rfl
      refine ⟨w.setRow g (cur.toList.take off ++ news.take (min m dn) ++ cur.toList.drop (off + (news.take (min m dn)).length)).toArray, ?_, ⟨?_, .inr ⟨g, cap, _, fz, rfl, hbg, setRow_heap w g cur _ e _ hg, ?_, hnc, hcm, ?_, ?_⟩⟩, setRow_grown w g _⟩
      · simp [Builtin.copy_, run_underlying ht, sizeOf, typeInfo, hi, hsize, Builtin.lenOf, e0, hfc, goInt, hst]
      · unfold spliceL
        rw [List.length_append, List.length_append, List.length_take, List.length_drop, hlen]
        omega
      · rcases hfz with h | h
        · exact .inl h
        · right
          simp only [List.size_toArray, List.length_append, List.length_take, List.length_drop, Array.length_toList]
          omega
      · simp only [List.size_toArray, List.length_append, List.length_take, List.length_drop, Array.length_toList]
        omega
      · rw [Nat.mul_one] at htake hcs hlx ⊢
        rw [← htake]
        unfold spliceL
        rw [hlen]
        have e1 : (cur.toList.take off).length = off := by rw [List.length_take, Array.length_toList]; omega
        have e2 : (cur.toList.take off ++ news.take (min m dn)).length = off + min m dn := by rw [List.length_append, e1, hlen]
        have e3 : (cur.toList.take n).take off = cur.toList.take off := by rw [List.take_take, Nat.min_eq_left (by omega)]
        rw [show (cur.toList.take off ++ news.take (min m dn) ++ cur.toList.drop (off + min m dn)).toArray.toList = cur.toList.take off ++ news.take (min m dn) ++ cur.toList.drop (off + min m dn) from rfl, List.take_append, e2, List.take_of_length_le (by rw [e2]; omega), e3, List.drop_take]
theorem wpList_copyO {ops : Array Oper} {rest : List Oper} {o : Oper} {a : Act} {Q : Exit → Act → World → Prop} (hgd : o.guard = none) (d s : Operand) (t : TypeId)
    (ho : o.op = .call { callee := .builtin .copy, args := #[d, s], argTypes := #[t, t] })
    (base : Nat) (e : TypeId) (i : TypeInfo) (ht : P.underlying t = some (.slice e)) (hi : P.info? e = some i) (hsize : i.size = 1)
    (A : Option Addr) (n cap : Nat) (xs : List Value) (hown : Own w base e 1 (.slice A n cap) n xs) (off dn dc : Nat) (hd : a.eval d = .slice (dropA A cap off) dn dc) (hoff : off + dn ≤ n)
    (B : Option Addr) (m c : Nat) (news : List Value) (hs : a.eval s = .slice B m c) (hm : news.length = m) (hr : At w w.heap.size B news) (h1 : ∀ u ∈ news, u.oneCell' = true)
    (h : ∀ w', Own w' base e 1 (.slice A n cap) n (spliceL xs off (news.take (min m dn))) → w.grownBy w' (Value.slice A n cap).ownBlock → wpList P ops Q rest (a.put o.dst (.int .i64 ((min m dn : Nat) : Int))) w') : wpList P ops Q (o :: rest) a w := by
  refine wpList_plain hgd fun K' hK => ?_
  obtain ⟨w', hrun, h2, h3⟩ := run_copyO (P := P) w base t o.type e i ht hi hsize A n cap xs hown off dn dc hoff B m c news hm hr h1
  unfold Oper.wp execOp
  simp only [ho, resolve, invoke, builtin, Sem.run_bind, Sem.run_pure, Result.andThen_ok, List.map_toArray, List.map_cons, List.map_nil, hd, hs, hrun]
  exact hK _ _ (h w' h2 h3)
theorem step_copyO {ops : Array Oper} {o : Oper} {a : Act} {K : Act → World → Prop} {Q : Exit → Act → World → Prop} {E : Prop} (hgd : o.guard = none) (d s : Operand) (t : TypeId)
    (ho : o.op = .call { callee := .builtin .copy, args := #[d, s], argTypes := #[t, t] })
    (base : Nat) (e : TypeId) (i : TypeInfo) (ht : P.underlying t = some (.slice e)) (hi : P.info? e = some i) (hsize : i.size = 1)
    (A : Option Addr) (n cap : Nat) (xs : List Value) (hown : Own w base e 1 (.slice A n cap) n xs) (off dn dc : Nat) (hd : a.eval d = .slice (dropA A cap off) dn dc) (hoff : off + dn ≤ n)
    (B : Option Addr) (m c : Nat) (news : List Value) (hs : a.eval s = .slice B m c) (hm : news.length = m) (hr : At w w.heap.size B news) (h1 : ∀ u ∈ news, u.oneCell' = true)
    (h : ∀ w', Own w' base e 1 (.slice A n cap) n (spliceL xs off (news.take (min m dn))) → w.grownBy w' (Value.slice A n cap).ownBlock → K (a.put o.dst (.int .i64 ((min m dn : Nat) : Int))) w') :
    if Region.wanted o (yielded ops a.tmps) = true then Oper.wp P o a w K Q else E := by
  have hw : Region.wanted o (yielded ops a.tmps) = true := by simp [Region.wanted, hgd]
  rw [if_pos hw]
  obtain ⟨w', hrun, h2, h3⟩ := run_copyO (P := P) w base t o.type e i ht hi hsize A n cap xs hown off dn dc hoff B m c news hm hr h1
  unfold Oper.wp execOp
  simp only [ho, resolve, invoke, builtin, Sem.run_bind, Sem.run_pure, Result.andThen_ok, List.map_toArray, List.map_cons, List.map_nil, hd, hs, hrun]
  exact h w' h2 h3
theorem step_appD {ops : Array Oper} {o : Oper} {a : Act} {K : Act → World → Prop} {Q : Exit → Act → World → Prop} {E : Prop} (hg : o.guard = none) (s x : Operand) (t : TypeId)
    (ho : o.op = .call { callee := .builtin .append, args := #[s, x], argTypes := #[t, t] })
    (base : Nat) (e : TypeId) (i : TypeInfo) (z : Value) (size bytes : Nat) (ht : P.underlying t = some (.slice e)) (hi : P.info? e = some i) (hz : i.zero = some z)
    (hsize : i.size = size) (hby : i.bytes = bytes) (hzs : z.cells.size = size) (hsz : 0 < size)
    (v : Value) (n : Nat) (xs : List Value) (hs : a.eval s = v) (hown : Own w base e size v n xs)
    (B : Nat) (A : Option Addr) (m c : Nat) (news : List Value) (hx : a.eval x = .slice A m c) (hm : news.length = m * size) (hr : At w B A news) (h1 : ∀ u ∈ news, u.oneCell' = true)
    (h63 : n + m ≤ maxLen) (hbytes : (n + m) * bytes ≤ 140737488355328) (hbase : base ≤ w.heap.size)
    (hK : ∀ v' w', Own w' base e size v' (n + m) (xs ++ news) → w.grownBy w' v.ownBlock → (v'.ownBlock = v.ownBlock ∨ v'.ownBlock = some w.heap.size) → K (a.put o.dst v') w') :
    if Region.wanted o (yielded ops a.tmps) = true then Oper.wp P o a w K Q else E := by
  have hw : Region.wanted o (yielded ops a.tmps) = true := by simp [Region.wanted, hg]
  rw [if_pos hw]
  exact wp_app w s x t ho base e i z size bytes ht hi hz hsize hby hzs hsz v n xs hs hown B A m c news hx hm hr h1 h63 hbytes hbase hK
theorem zeroCells_one (z : Value) (h : z.cells = #[z]) (m : Nat) : Builtin.zeroCells z.cells m = (List.replicate m z).toArray := by
  rw [h]
  apply Array.ext
  · simp [Builtin.zeroCells]
  · intro i h1 h2
    simp [Builtin.zeroCells, Nat.mod_one]
/-- append(s, make([]T, m)...) -/
theorem run_appZ (base : Nat) (t u ty e : TypeId) (i : TypeInfo) (z : Value) (bytes : Nat) (ht : P.underlying t = some (.slice e)) (hu : P.underlying u = some (.int .i64)) (hi : P.info? e = some i) (hz : i.zero = some z)
    (hsize : i.size = 1) (hby : i.bytes = bytes) (hzc : z.cells = #[z]) (hz1 : z.oneCell' = true)
    (v : Value) (n : Nat) (xs : List Value) (hown : Own w base e 1 v n xs) (m : Nat) (hpos : 0 < m)
    (h63 : n + m ≤ maxLen) (hbytes : (n + m) * bytes ≤ 140737488355328) (hbase : base ≤ w.heap.size) :
    ∃ v' w', (Builtin.append_ #[t, u] ty #[v, .int .i64 (m : Int)]).run P w = .ok v' w' ∧ Own w' base e 1 v' (n + m) (xs ++ List.replicate m z) ∧ w.grownBy w' v.ownBlock ∧
      (v'.ownBlock = v.ownBlock ∨ v'.ownBlock = some w.heap.size) := by
  subst hby
  have hwr : IntKind.i64.wrap (m : Int) = (m : Int) := by
    have : ((m : Int)) ≤ 9223372036854775807 := by unfold maxLen at h63; omega
    simp [IntKind.wrap, IntKind.bits, IntKind.signed]
    omega
  have hm0 : ¬ ((m : Int) < 0) := by omega
  have hmb : ¬ ((281474976710656 : Int) < (m : Int) * (i.bytes : Int)) := by
    have h1 : m * i.bytes ≤ (n + m) * i.bytes := Nat.mul_le_mul_right _ (by omega)
    have h2 : ((m * i.bytes : Nat) : Int) = (m : Int) * (i.bytes : Int) := by simp
    omega
  have hne : m ≠ 0 := by omega
  have hzs : z.cells.size = 1 := by rw [hzc]; rfl
  have h63' : ¬ (9223372036854775807 < ((n : Int) + (m : Int))) := by unfold maxLen at h63; omega
  have made : ∀ (old : Nat), ∀ (row : Option Nat),
      Own (w.drew.alloc (.cells (xs.toArray ++ Builtin.zeroCells z.cells m ++ Builtin.zeroCells z.cells (grownCap w (n + m) old e - (n + m))) e)) base e 1
        (.slice (some ⟨w.heap.size, 0, none⟩) (n + m) (grownCap w (n + m) old e)) (n + m) (xs ++ List.replicate m z) ∧
      w.grownBy (w.drew.alloc (.cells (xs.toArray ++ Builtin.zeroCells z.cells m ++ Builtin.zeroCells z.cells (grownCap w (n + m) old e - (n + m))) e)) row := by
    intro old row
    have hge := grownCap_ge w (n + m) old e
    have hcm : grownCap w (n + m) old e ≤ maxLen := grownCap_le_maxLen w (n + m) old e h63
    have hx := hown.1
    refine ⟨⟨by simp; omega, .inr ⟨w.heap.size, _, _, _, rfl, hbase, heap_alloc_new w.drew _, .inl rfl, hge, hcm, ?_, ?_⟩⟩, ⟨rfl, rfl, rfl, by simp, fun k hk _ => _root_.Go.heap_alloc_old w.drew _ hk⟩⟩
    · simp only [Array.size_append, List.size_toArray, size_zeroCells, hzs]
      omega
    · rw [zeroCells_one z hzc m]
      simp only [Array.toList_append, List.append_assoc]
      rw [← List.append_assoc, List.take_append_of_le_length (by simp; omega), List.take_of_length_le (by simp; omega)]
  rcases hown.2 with ⟨rfl, rfl⟩ | ⟨g, cap, cur, fz, rfl, hbg, hg, hfz, hnc, hcm, hcs, htake⟩
  · have hx : xs = [] := List.eq_nil_of_length_eq_zero (by simpa using hown.1)
    subst hx
    have h48 : ¬ (281474976710656 < Builtin.nextslicecap m 0 * i.bytes) := by rw [nextslicecap_zero hpos]; have hb := hbytes; simp only [Nat.zero_add] at hb; omega
    have hgr := made 0 (Value.ownBlock (.slice none 0 0))
    have hrun : (Builtin.append_ #[t, u] ty #[.slice none 0 0, .int .i64 (m : Int)]).run P w = .ok (.slice (some ⟨w.heap.size, 0, none⟩) m (grownCap w m 0 e)) (w.drew.alloc (.cells (#[] ++ Builtin.zeroCells z.cells m ++ Builtin.zeroCells z.cells (grownCap w m 0 e - m)) e)) := by
      have h63'' : ¬ (9223372036854775807 < (m : Int)) := by have := h63'; omega
      simp [Builtin.append_, run_underlying ht, run_underlying hu, sizeOf, typeInfo, zeroValue, hi, hz, hsize, hwr, hm0, hmb, hne, h63'', h48, Question.forced, newRow, grownCap, asInt, asIntOf, Builtin.firstCells]
    simp only [Nat.zero_add, List.nil_append] at hgr ⊢
    exact ⟨_, _, hrun, hgr.1, hgr.2, .inr rfl⟩
  · by_cases hroom : n + m ≤ cap
    · have hst := storeCells_own P g n e fz (List.replicate m z) 0 cur w hg hfz (by simp; omega) (fun y hy => by rw [List.eq_of_mem_replicate hy]; exact hz1)
      simp only [Nat.add_zero] at hst
      have hrun : (Builtin.append_ #[t, u] ty #[.slice (some ⟨g, 0, none⟩) n cap, .int .i64 (m : Int)]).run P w =
          .ok (.slice (some ⟨g, 0, none⟩) (n + m) cap) (w.setRow g (cur.toList.take n ++ List.replicate m z ++ cur.toList.drop (n + (List.replicate m z).length)).toArray) := by
        simp [Builtin.append_, run_underlying ht, run_underlying hu, sizeOf, typeInfo, zeroValue, hi, hz, hsize, hwr, hm0, hmb, hne, hroom, asInt, asIntOf, Addr.add_lit, zeroCells_one z hzc]
        rw [hst]
        simp
      refine ⟨_, _, hrun, ⟨by simp; have := hown.1; omega, .inr ⟨g, cap, _, fz, rfl, hbg, setRow_heap w g cur _ e _ hg, ?_, hroom, hcm, ?_, ?_⟩⟩, setRow_grown w g _, .inl rfl⟩
      · rcases hfz with h | h
        · exact .inl h
        · right
          simp only [List.size_toArray, List.length_append, List.length_take, List.length_drop, Array.length_toList, List.length_replicate]
          omega
      · simp only [List.size_toArray, List.length_append, List.length_take, List.length_drop, Array.length_toList, List.length_replicate]
        omega
      · rw [Nat.mul_one] at htake
        have hx := hown.1
        rw [htake, List.append_assoc]
        rw [show (xs ++ (List.replicate m z ++ cur.toList.drop (n + (List.replicate m z).length))).toArray.toList = xs ++ (List.replicate m z ++ cur.toList.drop (n + (List.replicate m z).length)) from rfl]
        rw [← List.append_assoc, List.take_append_of_le_length (by simp; omega), List.take_of_length_le (by simp; omega)]
    · have holds : ∀ j y, xs[j]? = some y → w.cell? ((⟨g, 0, none⟩ : Addr).add j) = some y := by
        intro j y hy
        rcases Own.at_ hown with hx | ⟨ad', e', _, hc⟩
        · subst hx; simp at hy
        · obtain rfl := Option.some.inj e'
          exact hc j y hy
      have hfo := run_firstCells_some (P := P) w.drew 1 n ⟨g, 0, none⟩ n cap xs hown.1 (by simpa using holds)
      have h48 : ¬ (281474976710656 < Builtin.nextslicecap (n + m) cap * i.bytes) := by have := growslice_fits (by omega : cap < n + m) hbytes; omega
      have hgr := made cap (Value.ownBlock (.slice (some ⟨g, 0, none⟩) n cap))
      have hrun : (Builtin.append_ #[t, u] ty #[.slice (some ⟨g, 0, none⟩) n cap, .int .i64 (m : Int)]).run P w =
          .ok (.slice (some ⟨w.heap.size, 0, none⟩) (n + m) (grownCap w (n + m) cap e)) (w.drew.alloc (.cells (xs.toArray ++ Builtin.zeroCells z.cells m ++ Builtin.zeroCells z.cells (grownCap w (n + m) cap e - (n + m))) e)) := by
        simp [Builtin.append_, run_underlying ht, run_underlying hu, sizeOf, typeInfo, zeroValue, hi, hz, hsize, hwr, hm0, hmb, hne, hroom, h63', h48, Question.forced, hfo, newRow, grownCap, asInt, asIntOf]
      exact ⟨_, _, hrun, hgr.1, hgr.2, .inr rfl⟩
theorem step_appZ {ops : Array Oper} {o : Oper} {a : Act} {K : Act → World → Prop} {Q : Exit → Act → World → Prop} {E : Prop} (hg : o.guard = none) (s x : Operand) (t u : TypeId)
    (ho : o.op = .call { callee := .builtin .append, args := #[s, x], argTypes := #[t, u] })
    (base : Nat) (e : TypeId) (i : TypeInfo) (z : Value) (bytes : Nat) (ht : P.underlying t = some (.slice e)) (hu : P.underlying u = some (.int .i64)) (hi : P.info? e = some i) (hz : i.zero = some z)
    (hsize : i.size = 1) (hby : i.bytes = bytes) (hzc : z.cells = #[z]) (hz1 : z.oneCell' = true)
    (v : Value) (n : Nat) (xs : List Value) (hs : a.eval s = v) (hown : Own w base e 1 v n xs) (m : Nat) (hx : a.eval x = .int .i64 (m : Int)) (hpos : 0 < m)
    (h63 : n + m ≤ maxLen) (hbytes : (n + m) * bytes ≤ 140737488355328) (hbase : base ≤ w.heap.size)
    (hK : ∀ v' w', Own w' base e 1 v' (n + m) (xs ++ List.replicate m z) → w.grownBy w' v.ownBlock → (v'.ownBlock = v.ownBlock ∨ v'.ownBlock = some w.heap.size) → K (a.put o.dst v') w') :
    if Region.wanted o (yielded ops a.tmps) = true then Oper.wp P o a w K Q else E := by
  have hw : Region.wanted o (yielded ops a.tmps) = true := by simp [Region.wanted, hg]
  rw [if_pos hw]
  obtain ⟨v', w', hrun, h2, h3, h4⟩ := run_appZ (P := P) w base t u o.type e i z bytes ht hu hi hz hsize hby hzc hz1 v n xs hown m hpos h63 hbytes hbase
  unfold Oper.wp execOp
  simp only [ho, resolve, invoke, builtin, Sem.run_bind, Sem.run_pure, Result.andThen_ok, List.map_toArray, List.map_cons, List.map_nil, hs, hx, hrun]
  exact hK v' w' h2 h3 h4
end
end Go.Proofs.Ytpbkkbkpodcgnaa
