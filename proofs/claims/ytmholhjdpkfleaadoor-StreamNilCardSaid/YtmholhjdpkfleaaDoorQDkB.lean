/- Rows of a call's own: cut, copied into, made longer by noughts; of no program. -/
import Derived.Test.YtmholhjdpkfleaaDoorQBase
import Derived.Deep.RegionLaw
import Derived.Test.YtmholhjdpkfleaaDoorQDkA
import Derived.Test.YtmholhjdpkfleaaDoorQCopyO
namespace Go.Proofs.YtmholhjdpkfleaaDoor
open Go.RowKit
set_option linter.unusedSimpArgs false
set_option linter.unusedVariables false
set_option maxRecDepth 100000

section
variable {w : World} {base : Nat} {e : TypeId} {A : Option Addr} {n cap : Nat} {xs : List Value}
theorem Own.cut1 (h : Own w base e 1 (.slice A n cap) n xs) {m : Nat} (hm : m ≤ n) : Own w base e 1 (.slice A m cap) m (xs.take m) := by
  refine ⟨by rw [List.length_take, h.1]; omega, ?_⟩
  rcases h.2 with ⟨hv, h0⟩ | ⟨g', cap', cur, fz, hv, hb, hg, hz, h1, h2, h3, h4⟩
  · injection hv with hA hn hc
    obtain rfl : m = 0 := by omega
    exact .inl ⟨by rw [hA, hc], rfl⟩
  · injection hv with hA hn hc
    subst hc
    refine .inr ⟨g', cap, cur, fz, by rw [hA], hb, hg, hz, by omega, h2, h3, ?_⟩
    rw [← h4, List.take_take]
    congr 1
    omega
theorem Own.nil_len (h : Own w base e 1 (.slice none n cap) n xs) : n = 0 ∧ cap = 0 := by
  rcases h.2 with ⟨hv, h0⟩ | ⟨g', cap', cur, fz, hv, _⟩
  · injection hv with hA hn hc
    exact ⟨h0, hc⟩
  · injection hv with hA; cases hA
/-- the row's own block, where there is one -/
theorem Own.block (h : Own w base e 1 (.slice A n cap) n xs) : (Value.slice A n cap).ownBlock = A.map (·.block) := by
  rcases h.2 with ⟨hv, h0⟩ | ⟨g', cap', cur, fz, hv, _⟩
  · injection hv with hA hn hc; subst hA; rfl
  · injection hv with hA; subst hA; rfl
end
section
variable {P : Program} (w : World)
theorem step_copyO {ops : Array Oper} {o : Oper} {a : Act} {K : Act → World → Prop} {Q : Exit → Act → World → Prop} {E : Prop} (hgd : o.guard = none) (d s : Operand) (t : TypeId)
    (ho : o.op = .call { callee := .builtin .copy, args := #[d, s], argTypes := #[t, t] })
    (base : Nat) (e : TypeId) (i : TypeInfo) (ht : P.underlying t = some (.slice e)) (hi : P.info? e = some i) (hsize : i.size = 1)
    (A : Option Addr) (n cap : Nat) (xs : List Value) (hown : Own w base e 1 (.slice A n cap) n xs) (off dn dc : Nat) (hd : a.eval d = .slice (dropA A cap off) dn dc) (hoff : off + dn ≤ n)
    (B : Option Addr) (m c : Nat) (news : List Value) (hs : a.eval s = .slice B m c) (hm : news.length = m) (hr : At w w.heap.size B news) (h1 : ∀ u ∈ news, u.oneCell' = true)
    (h : ∀ w', Own w' base e 1 (.slice A n cap) n (spliceL xs off (news.take (min m dn))) → w.grownBy w' (Value.slice A n cap).ownBlock → K (a.put o.dst (.int .i64 ((min m dn : Nat) : Int))) w') :
    if Region.wanted o (yielded ops a.tmps) = true then Oper.wp P o a w K Q else E := by
  have hw : Region.wanted o (yielded ops a.tmps) = true := by simp [Region.wanted, hgd]
  rw [if_pos hw]
  obtain ⟨w', hrun, h2, h3⟩ := run_copyO (P := P) w base t o.type e i ht hi hsize A n cap xs hown off dn dc hoff B m c news hm hr h1
  unfold Oper.wp execOp
  simp only [ho, resolve, invoke, builtin, Sem.run_bind, Sem.run_pure, Result.andThen_ok, List.map_toArray, List.map_cons, List.map_nil, hd, hs, hrun]
  exact h w' h2 h3
theorem step_appD {ops : Array Oper} {o : Oper} {a : Act} {K : Act → World → Prop} {Q : Exit → Act → World → Prop} {E : Prop} (hg : o.guard = none) (s x : Operand) (t : TypeId)
    (ho : o.op = .call { callee := .builtin .append, args := #[s, x], argTypes := #[t, t] })
    (base : Nat) (e : TypeId) (i : TypeInfo) (z : Value) (size bytes : Nat) (ht : P.underlying t = some (.slice e)) (hi : P.info? e = some i) (hz : i.zero = some z)
    (hsize : i.size = size) (hby : i.bytes = bytes) (hzs : z.cells.size = size) (hsz : 0 < size)
    (v : Value) (n : Nat) (xs : List Value) (hs : a.eval s = v) (hown : Own w base e size v n xs)
    (B : Nat) (A : Option Addr) (m c : Nat) (news : List Value) (hx : a.eval x = .slice A m c) (hm : news.length = m * size) (hr : At w B A news) (h1 : ∀ u ∈ news, u.oneCell' = true)
    (h63 : n + m ≤ maxLen) (hbytes : (n + m) * bytes ≤ 140737488355328) (hbase : base ≤ w.heap.size)
    (hK : ∀ v' w', Own w' base e size v' (n + m) (xs ++ news) → w.grownBy w' v.ownBlock → (v'.ownBlock = v.ownBlock ∨ v'.ownBlock = some w.heap.size) → K (a.put o.dst v') w') :
    if Region.wanted o (yielded ops a.tmps) = true then Oper.wp P o a w K Q else E := by
  have hw : Region.wanted o (yielded ops a.tmps) = true := by simp [Region.wanted, hg]
  rw [if_pos hw]
  exact wp_app w s x t ho base e i z size bytes ht hi hz hsize hby hzs hsz v n xs hs hown B A m c news hx hm hr h1 h63 hbytes hbase hK
theorem zeroCells_one (z : Value) (h : z.cells = #[z]) (m : Nat) : Builtin.zeroCells z.cells m = (List.replicate m z).toArray := by
  rw [h]
  apply Array.ext
  · simp [Builtin.zeroCells]
  · intro i h1 h2
    simp [Builtin.zeroCells, Nat.mod_one]
/-- append(s, make([]T, m)...) -/
theorem run_appZ (base : Nat) (t u ty e : TypeId) (i : TypeInfo) (z : Value) (bytes : Nat) (ht : P.underlying t = some (.slice e)) (hu : P.underlying u = some (.int .i64)) (hi : P.info? e = some i) (hz : i.zero = some z)
    (hsize : i.size = 1) (hby : i.bytes = bytes) (hzc : z.cells = #[z]) (hz1 : z.oneCell' = true)
    (v : Value) (n : Nat) (xs : List Value) (hown : Own w base e 1 v n xs) (m : Nat) (hpos : 0 < m)
    (h63 : n + m ≤ maxLen) (hbytes : (n + m) * bytes ≤ 140737488355328) (hbase : base ≤ w.heap.size) :
    ∃ v' w', (Builtin.append_ #[t, u] ty #[v, .int .i64 (m : Int)]).run P w = .ok v' w' ∧ Own w' base e 1 v' (n + m) (xs ++ List.replicate m z) ∧ w.grownBy w' v.ownBlock ∧
      (v'.ownBlock = v.ownBlock ∨ v'.ownBlock = some w.heap.size) := by
  subst hby
  have hwr : IntKind.i64.wrap (m : Int) = (m : Int) := by
    have : ((m : Int)) ≤ 9223372036854775807 := by unfold maxLen at h63; omega
    simp [IntKind.wrap, IntKind.bits, IntKind.signed]
    omega
  have hm0 : ¬ ((m : Int) < 0) := by omega
  have hmb : ¬ ((281474976710656 : Int) < (m : Int) * (i.bytes : Int)) := by
    have h1 : m * i.bytes ≤ (n + m) * i.bytes := Nat.mul_le_mul_right _ (by omega)
    have h2 : ((m * i.bytes : Nat) : Int) = (m : Int) * (i.bytes : Int) := by simp
    omega
  have hne : m ≠ 0 := by omega
  have hzs : z.cells.size = 1 := by rw [hzc]; rfl
  have h63' : ¬ (9223372036854775807 < ((n : Int) + (m : Int))) := by unfold maxLen at h63; omega
  have made : ∀ (old : Nat), ∀ (row : Option Nat),
      Own (w.drew.alloc (.cells (xs.toArray ++ Builtin.zeroCells z.cells m ++ Builtin.zeroCells z.cells (grownCap w (n + m) old e - (n + m))) e)) base e 1
        (.slice (some ⟨w.heap.size, 0, none⟩) (n + m) (grownCap w (n + m) old e)) (n + m) (xs ++ List.replicate m z) ∧
      w.grownBy (w.drew.alloc (.cells (xs.toArray ++ Builtin.zeroCells z.cells m ++ Builtin.zeroCells z.cells (grownCap w (n + m) old e - (n + m))) e)) row := by
    intro old row
    have hge := grownCap_ge w (n + m) old e
    have hcm : grownCap w (n + m) old e ≤ maxLen := grownCap_le_maxLen w (n + m) old e h63
    have hx := hown.1
    refine ⟨⟨by simp; omega, .inr ⟨w.heap.size, _, _, _, rfl, hbase, heap_alloc_new w.drew _, .inl rfl, hge, hcm, ?_, ?_⟩⟩, ⟨rfl, rfl, rfl, by simp, fun k hk _ => _root_.Go.heap_alloc_old w.drew _ hk⟩⟩
    · simp only [Array.size_append, List.size_toArray, size_zeroCells, hzs]
      omega
    · rw [zeroCells_one z hzc m]
      simp only [Array.toList_append, List.append_assoc]
      rw [← List.append_assoc, List.take_append_of_le_length (by simp; omega), List.take_of_length_le (by simp; omega)]
  rcases hown.2 with ⟨rfl, rfl⟩ | ⟨g, cap, cur, fz, rfl, hbg, hg, hfz, hnc, hcm, hcs, htake⟩
  · have hx : xs = [] := List.eq_nil_of_length_eq_zero (by simpa using hown.1)
    subst hx
    have h48 : ¬ (281474976710656 < Builtin.nextslicecap m 0 * i.bytes) := by rw [nextslicecap_zero hpos]; have hb := hbytes; simp only [Nat.zero_add] at hb; omega
    have hgr := made 0 (Value.ownBlock (.slice none 0 0))
    have hrun : (Builtin.append_ #[t, u] ty #[.slice none 0 0, .int .i64 (m : Int)]).run P w = .ok (.slice (some ⟨w.heap.size, 0, none⟩) m (grownCap w m 0 e)) (w.drew.alloc (.cells (#[] ++ Builtin.zeroCells z.cells m ++ Builtin.zeroCells z.cells (grownCap w m 0 e - m)) e)) := by
      have h63'' : ¬ (9223372036854775807 < (m : Int)) := by have := h63'; omega
      simp [Builtin.append_, run_underlying ht, run_underlying hu, sizeOf, typeInfo, zeroValue, hi, hz, hsize, hwr, hm0, hmb, hne, h63'', h48, Question.forced, newRow, grownCap, asInt, asIntOf, Builtin.firstCells]
    simp only [Nat.zero_add, List.nil_append] at hgr ⊢
    exact ⟨_, _, hrun, hgr.1, hgr.2, .inr rfl⟩
  · by_cases hroom : n + m ≤ cap
    · have hst := storeCells_own P g n e fz (List.replicate m z) 0 cur w hg hfz (by simp; omega) (fun y hy => by rw [List.eq_of_mem_replicate hy]; exact hz1)
      simp only [Nat.add_zero] at hst
      have hrun : (Builtin.append_ #[t, u] ty #[.slice (some ⟨g, 0, none⟩) n cap, .int .i64 (m : Int)]).run P w =
          .ok (.slice (some ⟨g, 0, none⟩) (n + m) cap) (w.setRow g (cur.toList.take n ++ List.replicate m z ++ cur.toList.drop (n + (List.replicate m z).length)).toArray) := by
        simp [Builtin.append_, run_underlying ht, run_underlying hu, sizeOf, typeInfo, zeroValue, hi, hz, hsize, hwr, hm0, hmb, hne, hroom, asInt, asIntOf, Addr.add_lit, zeroCells_one z hzc]
        rw [hst]
        simp
      refine ⟨_, _, hrun, ⟨by simp; have := hown.1; omega, .inr ⟨g, cap, _, fz, rfl, hbg, setRow_heap w g cur _ e _ hg, ?_, hroom, hcm, ?_, ?_⟩⟩, setRow_grown w g _, .inl rfl⟩
      · rcases hfz with h | h
        · exact .inl h
        · right
          simp only [List.size_toArray, List.length_append, List.length_take, List.length_drop, Array.length_toList, List.length_replicate]
          omega
      · simp only [List.size_toArray, List.length_append, List.length_take, List.length_drop, Array.length_toList, List.length_replicate]
        omega
      · rw [Nat.mul_one] at htake
        have hx := hown.1
        rw [htake, List.append_assoc]
        rw [show (xs ++ (List.replicate m z ++ cur.toList.drop (n + (List.replicate m z).length))).toArray.toList = xs ++ (List.replicate m z ++ cur.toList.drop (n + (List.replicate m z).length)) from rfl]
        rw [← List.append_assoc, List.take_append_of_le_length (by simp; omega), List.take_of_length_le (by simp; omega)]
    · have holds : ∀ j y, xs[j]? = some y → w.cell? ((⟨g, 0, none⟩ : Addr).add j) = some y := by
        intro j y hy
        rcases Own.at_ hown with hx | ⟨ad', e', _, hc⟩
        · subst hx; simp at hy
        · obtain rfl := Option.some.inj e'
          exact hc j y hy
      have hfo := run_firstCells_some (P := P) w.drew 1 n ⟨g, 0, none⟩ n cap xs hown.1 (by simpa using holds)
      have h48 : ¬ (281474976710656 < Builtin.nextslicecap (n + m) cap * i.bytes) := by have := growslice_fits (by omega : cap < n + m) hbytes; omega
      have hgr := made cap (Value.ownBlock (.slice (some ⟨g, 0, none⟩) n cap))
      have hrun : (Builtin.append_ #[t, u] ty #[.slice (some ⟨g, 0, none⟩) n cap, .int .i64 (m : Int)]).run P w =
          .ok (.slice (some ⟨w.heap.size, 0, none⟩) (n + m) (grownCap w (n + m) cap e)) (w.drew.alloc (.cells (xs.toArray ++ Builtin.zeroCells z.cells m ++ Builtin.zeroCells z.cells (grownCap w (n + m) cap e - (n + m))) e)) := by
        simp [Builtin.append_, run_underlying ht, run_underlying hu, sizeOf, typeInfo, zeroValue, hi, hz, hsize, hwr, hm0, hmb, hne, hroom, h63', h48, Question.forced, hfo, newRow, grownCap, asInt, asIntOf]
      exact ⟨_, _, hrun, hgr.1, hgr.2, .inr rfl⟩
theorem step_appZ {ops : Array Oper} {o : Oper} {a : Act} {K : Act → World → Prop} {Q : Exit → Act → World → Prop} {E : Prop} (hg : o.guard = none) (s x : Operand) (t u : TypeId)
    (ho : o.op = .call { callee := .builtin .append, args := #[s, x], argTypes := #[t, u] })
    (base : Nat) (e : TypeId) (i : TypeInfo) (z : Value) (bytes : Nat) (ht : P.underlying t = some (.slice e)) (hu : P.underlying u = some (.int .i64)) (hi : P.info? e = some i) (hz : i.zero = some z)
    (hsize : i.size = 1) (hby : i.bytes = bytes) (hzc : z.cells = #[z]) (hz1 : z.oneCell' = true)
    (v : Value) (n : Nat) (xs : List Value) (hs : a.eval s = v) (hown : Own w base e 1 v n xs) (m : Nat) (hx : a.eval x = .int .i64 (m : Int)) (hpos : 0 < m)
    (h63 : n + m ≤ maxLen) (hbytes : (n + m) * bytes ≤ 140737488355328) (hbase : base ≤ w.heap.size)
    (hK : ∀ v' w', Own w' base e 1 v' (n + m) (xs ++ List.replicate m z) → w.grownBy w' v.ownBlock → (v'.ownBlock = v.ownBlock ∨ v'.ownBlock = some w.heap.size) → K (a.put o.dst v') w') :
    if Region.wanted o (yielded ops a.tmps) = true then Oper.wp P o a w K Q else E := by
  have hw : Region.wanted o (yielded ops a.tmps) = true := by simp [Region.wanted, hg]
  rw [if_pos hw]
  obtain ⟨v', w', hrun, h2, h3, h4⟩ := run_appZ (P := P) w base t u o.type e i z bytes ht hu hi hz hsize hby hzc hz1 v n xs hown m hpos h63 hbytes hbase
  unfold Oper.wp execOp
  simp only [ho, resolve, invoke, builtin, Sem.run_bind, Sem.run_pure, Result.andThen_ok, List.map_toArray, List.map_cons, List.map_nil, hs, hx, hrun]
  exact hK v' w' h2 h3 h4
end
end Go.Proofs.YtmholhjdpkfleaaDoor
/- Package disk: what is done to one file. -/
namespace Go.Proofs.YtmholhjdpkfleaaDoor
open Go.RowKit
set_option linter.unusedSimpArgs false
set_option linter.unusedVariables false
set_option maxRecDepth 100000

theorem sizeU8k : (Tryd.prog.info? 5).map (·.size) = some 1 := by kernel_rfl
/-- a file in block k: what it holds now, what lasts; all of its blocks are among c -/
structure FileAt (w : World) (c : Nat → Prop) (k : Nat) (v1 v2 : Value) (now lasts : List UInt8) : Prop where
  box : Box w k 105 #[v1, v2]
  own1 : Own w 0 5 1 v1 now.length (cel now)
  own2 : Own w 0 5 1 v2 lasts.length (cel lasts)
  me : c k
  in1 : ∀ g, v1.ownBlock = some g → c g
  in2 : ∀ g, v2.ownBlock = some g → c g
  ne : v1.ownBlock = none ∨ v1.ownBlock ≠ v2.ownBlock
/-- what is its own behind a call -/
def more (w w' : World) (c : Nat → Prop) (g : Nat) : Prop := c g ∨ (w.heap.size ≤ g ∧ g < w'.heap.size)
theorem Keeps.grown_ {w w' : World} (k : Keeps w w') (row : Option Nat) : w.grownBy w' row := ⟨k.os, k.tape, k.output, k.size, fun i hi _ => k.block i hi⟩
section
variable {w w' : World} {c : Nat → Prop} {k : Nat} {v1 v2 : Value} {now lasts : List UInt8}
theorem FileAt.same (h : FileAt w c k v1 v2 now lasts) (hs : ∀ i, c i → w'.heap[i]? = w.heap[i]?) : FileAt w' c k v1 v2 now lasts :=
  ⟨(hs k h.me).trans h.box, h.own1.same fun g hg => hs g (h.in1 g hg), h.own2.same fun g hg => hs g (h.in2 g hg), h.me, h.in1, h.in2, h.ne⟩
theorem FileAt.lt (h : FileAt w c k v1 v2 now lasts) : k < w.heap.size := h.box.lt
theorem FileAt.keep (h : FileAt w c k v1 v2 now lasts) (q : Keeps w w') : FileAt w' c k v1 v2 now lasts :=
  ⟨h.box.keep q, h.own1.keep q, h.own2.keep q, h.me, h.in1, h.in2, h.ne⟩
theorem FileAt.wide {d : Nat → Prop} (h : FileAt w c k v1 v2 now lasts) (hd : ∀ i, c i → d i) : FileAt w d k v1 v2 now lasts :=
  ⟨h.box, h.own1, h.own2, hd k h.me, fun g hg => hd g (h.in1 g hg), fun g hg => hd g (h.in2 g hg), h.ne⟩
theorem row_ne {b g : Nat} {cs cur : Array Value} {t e : TypeId} {fz fz' : Nat × Nat} (h : w.heap[b]? = some (.cells cs t fz)) (h' : w.heap[g]? = some (.cells cur e fz')) (hne : t ≠ e) : b ≠ g := by
  intro e'
  rw [e', h'] at h
  injection h with h
  injection h with _ q _
  exact hne q.symm
theorem Own.not_box {base : Nat} {e t : TypeId} {v : Value} {n : Nat} {xs : List Value} {b : Nat} {cs : Array Value} (h : Own w base e 1 v n xs) (hb : Box w b t cs) (hne : t ≠ e) : v.ownBlock ≠ some b := by
  intro hv
  rcases h.2 with ⟨rfl, _⟩ | ⟨g, cap, cur, fz, rfl, _, hg, _⟩
  · simp [Value.ownBlock] at hv
  · simp only [Value.ownBlock, Option.some.injEq] at hv
    subst hv
    exact row_ne hb hg hne rfl
theorem file_ne : 105 ≠ 5 := by decide
/-- the first row is another one now -/
theorem FileAt.put1 (h : FileAt w c k v1 v2 now lasts) {w3 : World} (hg : w.grownBy w3 v1.ownBlock) {v' : Value} {now' : List UInt8} (ho : Own w3 0 5 1 v' now'.length (cel now')) (hb : v'.ownBlock = v1.ownBlock ∨ ∃ g, v'.ownBlock = some g ∧ w.heap.size ≤ g) :
    FileAt (w3.setCell ⟨k, 0, none⟩ v') (more w (w3.setCell ⟨k, 0, none⟩ v') c) k v' v2 now' lasts ∧ Only w (w3.setCell ⟨k, 0, none⟩ v') c := by
  have hb3 : Box w3 k 105 #[v1, v2] := (hg.block k h.box.lt (fun e => h.own1.not_box h.box file_ne e.symm)).trans h.box
  have hne2 : v2.ownBlock = none ∨ v2.ownBlock ≠ v1.ownBlock := by
    rcases h.ne with e | e
    · cases h2 : v2.ownBlock with
      | none => exact .inl rfl
      | some g => right; rw [e]; simp
    · exact .inr (fun q => e q.symm)
  have o2 : Own w3 0 5 1 v2 lasts.length (cel lasts) := h.own2.grown hg hne2
  have far : ∀ {v : Value} {n : Nat} {xs : List Value}, Own w3 0 5 1 v n xs → Own (w3.setCell ⟨k, 0, none⟩ v') 0 5 1 v n xs := fun o => o.same fun g hgg => Below.heap_setCell _ ⟨k, 0, none⟩ _ g (fun e => o.not_box hb3 file_ne (by rw [hgg, e]))
  have hsz : w.heap.size ≤ w3.heap.size := hg.size
  refine ⟨⟨by simpa using hb3.set 0 v', far ho, far o2, .inl h.me, fun g hgg => ?_, fun g hgg => .inl (h.in2 g hgg), ?_⟩, ⟨hg.os, hg.tape, hg.output, by simpa using hsz, fun i hi hn => ?_⟩⟩
  · rcases hb with e | ⟨g', e, hge⟩
    · exact .inl (h.in1 g (by rw [← e]; exact hgg))
    · rw [e] at hgg
      obtain rfl := Option.some.inj hgg
      exact .inr ⟨hge, by simpa using (ho.lt g' e).2⟩
  · rcases hb with e | ⟨g', e, hge⟩
    · rw [e]; exact h.ne
    · right
      rw [e]
      intro e2
      have := (h.own2.lt g' e2.symm).2
      omega
  · rw [Below.heap_setCell _ ⟨k, 0, none⟩ _ i (fun e => hn (by rw [e]; exact h.me))]
    exact hg.block i hi (fun e => hn (h.in1 i e.symm))
theorem FileAt.put2 (h : FileAt w c k v1 v2 now lasts) {w3 : World} (hg : w.grownBy w3 v2.ownBlock) {v' : Value} {lasts' : List UInt8} (ho : Own w3 0 5 1 v' lasts'.length (cel lasts')) (hb : v'.ownBlock = v2.ownBlock ∨ ∃ g, v'.ownBlock = some g ∧ w.heap.size ≤ g) :
    FileAt (w3.setCell ⟨k, 1, none⟩ v') (more w (w3.setCell ⟨k, 1, none⟩ v') c) k v1 v' now lasts' ∧ Only w (w3.setCell ⟨k, 1, none⟩ v') c := by
  have hb3 : Box w3 k 105 #[v1, v2] := (hg.block k h.box.lt (fun e => h.own2.not_box h.box file_ne e.symm)).trans h.box
  have o1 : Own w3 0 5 1 v1 now.length (cel now) := h.own1.grown hg h.ne
  have far : ∀ {v : Value} {n : Nat} {xs : List Value}, Own w3 0 5 1 v n xs → Own (w3.setCell ⟨k, 1, none⟩ v') 0 5 1 v n xs := fun o => o.same fun g hgg => Below.heap_setCell _ ⟨k, 1, none⟩ _ g (fun e => o.not_box hb3 file_ne (by rw [hgg, e]))
  have hsz : w.heap.size ≤ w3.heap.size := hg.size
  refine ⟨⟨by simpa using hb3.set 1 v', far o1, far ho, .inl h.me, fun g hgg => .inl (h.in1 g hgg), fun g hgg => ?_, ?_⟩, ⟨hg.os, hg.tape, hg.output, by simpa using hsz, fun i hi hn => ?_⟩⟩
  · rcases hb with e | ⟨g', e, hge⟩
    · exact .inl (h.in2 g (by rw [← e]; exact hgg))
    · rw [e] at hgg
      obtain rfl := Option.some.inj hgg
      exact .inr ⟨hge, by simpa using (ho.lt g' e).2⟩
  · rcases hb with e | ⟨g', e, hge⟩
    · rw [e]; exact h.ne
    · right
      rw [e]
      intro e2
      have := (h.own1.lt g' e2).2
      omega
  · rw [Below.heap_setCell _ ⟨k, 1, none⟩ _ i (fun e => hn (by rw [e]; exact h.me))]
    exact hg.block i hi (fun e => hn (h.in2 i e.symm))
end
theorem lay_parts (now b : List UInt8) (off : Nat) (h : off ≤ now.length) : spliceL (cel now) off ((cel b).take (min b.length (now.length - off))) ++ cel (b.drop (min b.length (now.length - off))) = cel (layB now off b) := by
  unfold spliceL layB
  rw [← cel_take, ← cel_take, cel_length, ← cel_drop, ← cel_append, ← cel_append, ← cel_append]
  congr 1
  by_cases hm : b.length ≤ now.length - off
  · rw [Nat.min_eq_left hm, List.take_length, List.drop_length, List.append_nil]
  · rw [Nat.min_eq_right (by omega), List.length_take, Nat.min_eq_left (by omega), List.drop_eq_nil_of_le (by omega), List.append_nil, List.append_assoc, List.take_append_drop, List.drop_eq_nil_of_le (by omega), List.append_nil]
set_option maxHeartbeats 8000000 in
theorem put_any {w : World} {c : Nat → Prop} {k : Nat} {v1 v2 : Value} {now lasts : List UInt8} (h : FileAt w c k v1 v2 now lasts) (off : Nat) (hoff : off ≤ now.length) (hn : now.length ≤ 16777216) (B : Option Addr) (m cc : Nat) (b : List UInt8) (hB : Bs w B b) (hm : m = b.length) (hc : m ≤ cc) (hmm : m ≤ 70000) (hBc : ∀ ad, B = some ad → ¬ c ad.block) :
    Calls Tryd.prog 85 #[.pointer (some ⟨k, 0, none⟩), .int .i64 (off : Int), .slice B m cc] w fun e w' => e = .returned (.tuple #[]) ∧ ∃ v', FileAt w' (more w w' c) k v' v2 (layB now off b) lasts ∧ Only w w' c := by
  obtain ⟨i0, hi, hz0, hz1, hz2⟩ := info_parts info_byte
  obtain ⟨A, cap, rfl, hcap, hcm, -⟩ := h.own1.form
  have c0 : w.cell? ⟨k, 0, none⟩ = some (.slice A now.length cap) := h.box.cell 0 rfl
  have hsl := run_from (P := Tryd.prog) 31 5 Tryd.underlying31 sizeU8k A now.length cap off hoff
  obtain ⟨ov, hov⟩ : ∃ ov, ov = min m (now.length - off) := ⟨_, rfl⟩
  have hsl2 := run_from (P := Tryd.prog) 31 5 Tryd.underlying31 sizeU8k B m cc ov (by omega)
  have LAY := Lib.hid (lay_parts now b off hoff)
  have H := Lib.hid h
  have HB := Lib.hid hB
  have HM := Lib.hid hm
  have HBC := Lib.hid hBc
  have HO := Lib.hid hoff
  have HN := Lib.hid hn
  have HC := Lib.hid hc
  have HOV := Lib.hid hov
  have HMM := Lib.hid hmm
  have hkl := h.lt
  rw [← hm, ← hov] at LAY
  have e1 : (cel b).length = m := by rw [cel_length, hm]
  have hd := hoff
  clear h hB hm hBc hoff hn hc hov hmm
  go_enter Tryd.func85, Tryd.ntmps85
  go_wp2_with (refine wpList_copyO _ rfl _ _ 31 rfl 0 5 i0 Tryd.underlying31 hi hz1 A now.length cap (cel now) H.out.own1 off (now.length - off) (cap - off) rfl (by have := HO.out; omega) B m cc (cel b) rfl e1 HB.out (cel_one b) ?_; intro w1 o1 g1)
  have hbx := H.out.own1.not_box H.out.box file_ne
  have b1 : Box w1 k 105 #[.slice A now.length cap, v2] := (g1.block k hkl (fun e => hbx e.symm)).trans H.out.box
  have c1 : w1.cell? ⟨k, 0, none⟩ = some (.slice A now.length cap) := b1.cell 0 rfl
  have f1 := b1.frozen 0
  have l1 := b1.lt
  have eov : min m (now.length - off) = ov := HOV.out.symm
  rw [eov] at o1 ⊢
  have HB1 : Bs w1 (dropA B cc ov) (b.drop ov) := by
    have hb1 : Bs w1 B b := by
      rcases HB.out with h0 | ⟨ad, e, hbl, hc⟩
      · exact .inl h0
      · refine .inr ⟨ad, e, Nat.lt_of_lt_of_le hbl g1.size, fun j u hu => ?_⟩
        have hc' := hc j u hu
        have e1 : w1.heap[(ad.add j).block]? = w.heap[(ad.add j).block]? := by
          rw [addr_block]
          exact g1.block _ hbl (fun e2 => HBC.out ad e (H.out.in1 _ e2.symm))
        unfold World.cell? at hc' ⊢
        rw [e1]
        exact hc'
    exact hb1.dropA HM.out HC.out
  have HB1' := Lib.hid HB1
  have O1 := Lib.hid o1
  have G1 := Lib.hid g1
  have B1 := Lib.hid b1
  have hld : (cel (b.drop ov)).length = m - ov := by rw [cel_length, List.length_drop, HM.out]
  clear HB1 o1 g1 b1 eov c0
  have hd1 : ((m - ov : Nat) : Int) ≤ 70000 := by have := HMM.out; omega
  generalize dropA B cc ov = D at *
  generalize m - ov = d1 at *
  generalize cc - ov = d2 at *
  go_region_law ((refine step_appD _ rfl (.tmp 19) (.tmp 22) 31 rfl 0 5 i0 (.int .u8 0) 1 1 Tryd.underlying31 hi hz0 hz1 hz2 rfl (by decide) (.slice A now.length cap) now.length _ (by simp [Act.eval, Act.put]) (O1.out.keep (keeps_drew _)) _ D d1 d2 (cel (b.drop ov)) (by simp [Act.eval, Act.put]) (by omega) (HB1'.out.keep (keeps_drew _)) (cel_one _) (by have := HN.out; unfold maxLen; omega) (by have := HN.out; omega) (Nat.zero_le _) ?_); intro v' w3 hown' hgrow hblk; obtain ⟨A', cap', rfl, -⟩ := hown'.form; have hb3 : Box w3 k 105 #[.slice A now.length cap, v2] := (hgrow.block k (by simp; omega) (fun e => hbx e.symm)).trans (B1.out.keep (keeps_drew _)); have z0 := hb3.cell 0 rfl; have z1 := hb3.frozen 0)
  all_goals
    rw [LAY.out] at hown'
    have hL : now.length + d1 = (layB now off b).length := by have := hown'.1; rw [cel_length] at this; omega
    rw [hL] at hown' hblk ⊢
    have FIN := Lib.hid (H.out.put1 (grownBy_step (grownBy_step G1.out ((keeps_drew _).grown_ _) (.inl rfl)) hgrow (.inl rfl)) hown' (by
      rcases hblk with e | e
      · exact .inl e
      · exact .inr ⟨_, e, G1.out.size⟩))
    clear hown' hgrow hblk hb3 z0 z1 c1 f1
    go_wp2_with fail
    go_returns
    exact ⟨rfl, _, FIN.out⟩
end Go.Proofs.YtmholhjdpkfleaaDoor
/- Package disk: a file is cut; a sector lasts. -/
namespace Go.Proofs.YtmholhjdpkfleaaDoor
open Go.RowKit
set_option linter.unusedSimpArgs false
set_option linter.unusedVariables false
set_option maxRecDepth 100000

theorem cel_take_len (l : List UInt8) (m : Nat) (h : m ≤ l.length) : (cel l).take m = cel (l.take m) := by rw [cel_take]
theorem Own.cutB {w : World} {A : Option Addr} {cap : Nat} {l : List UInt8} (h : Own w 0 5 1 (.slice A l.length cap) l.length (cel l)) {m : Nat} (hm : m ≤ l.length) : Own w 0 5 1 (.slice A m cap) (l.take m).length (cel (l.take m)) := by
  have := h.cut1 hm
  rw [← cel_take] at this
  rw [List.length_take, Nat.min_eq_left hm]
  exact this
theorem own_block_len {A : Option Addr} {n m cap : Nat} : (Value.slice A n cap).ownBlock = (Value.slice A m cap).ownBlock := by
  cases A <;> rfl
theorem more_eq {w w1 w2 : World} {c : Nat → Prop} (h : w1.heap.size = w2.heap.size) : more w w1 c = more w w2 c := by
  funext g
  unfold more
  rw [h]
/-! ### A sector lasts -/
/-- where a sector ends -/
def secE (now : List UInt8) (k : Nat) : Nat := min (64 * k + 64) now.length
/-- what lasts, no shorter than that -/
def padB (l : List UInt8) (e : Nat) : List UInt8 := l ++ List.replicate (e - l.length) 0
def keepB (lasts now : List UInt8) (k : Nat) : List UInt8 := (padB lasts (secE now k)).take (64 * k) ++ (now.take (secE now k)).drop (64 * k) ++ (padB lasts (secE now k)).drop (secE now k)
theorem FileAt.row2 {w w' : World} {c : Nat → Prop} {k : Nat} {v1 v2 : Value} {now lasts lasts' : List UInt8} (h : FileAt w c k v1 v2 now lasts) (hg : w.grownBy w' v2.ownBlock) (ho : Own w' 0 5 1 v2 lasts'.length (cel lasts')) :
    FileAt w' c k v1 v2 now lasts' ∧ Only w w' c :=
  ⟨⟨(hg.block k h.box.lt (fun e => h.own2.not_box h.box file_ne e.symm)).trans h.box, h.own1.grown hg h.ne, ho, h.me, h.in1, h.in2, h.ne⟩, ⟨hg.os, hg.tape, hg.output, hg.size, fun i hi hn => hg.block i hi (fun e => hn (h.in2 i e.symm))⟩⟩
theorem padB_length (l : List UInt8) (e : Nat) : (padB l e).length = max l.length e := by
  unfold padB
  rw [List.length_append, List.length_replicate]
  omega
theorem cel_zeros (m : Nat) : cel (List.replicate m 0) = List.replicate m (Value.int .u8 0) := by simp [cel]
theorem keep_splice (lasts now : List UInt8) (k : Nat) (h : 64 * k < now.length) (m : Nat) (hm : m = secE now k - 64 * k) :
    spliceL (cel (padB lasts (secE now k))) (64 * k) ((cel ((now.take (secE now k)).drop (64 * k))).take (min m m)) = cel (keepB lasts now k) := by
  have hl : ((now.take (secE now k)).drop (64 * k)).length = m := by
    rw [List.length_drop, List.length_take, hm]
    unfold secE
    omega
  have hs : 64 * k + m = secE now k := by unfold secE at hm ⊢; omega
  unfold spliceL keepB
  have e1 : (cel ((now.take (secE now k)).drop (64 * k))).take m = cel ((now.take (secE now k)).drop (64 * k)) := List.take_of_length_le (by rw [cel_length, hl]; exact Nat.le_refl _)
  rw [Nat.min_self, e1, cel_length, hl, hs, ← cel_take, ← cel_drop, ← cel_append, ← cel_append]
theorem keepB_length (lasts now : List UInt8) (k : Nat) (h : 64 * k < now.length) : (keepB lasts now k).length = max lasts.length (secE now k) := by
  unfold keepB
  rw [List.length_append, List.length_append, List.length_take, List.length_drop, List.length_drop, List.length_take, padB_length]
  unfold secE
  omega
/-- what a slice of the row, from one place to another, holds -/
theorem At.lohi {w : World} {A : Option Addr} {cap : Nat} {l : List UInt8} (h : Bs w A l) (hc : l.length ≤ cap) (i j : Nat) : Bs w (dropA A cap i) ((l.take j).drop i) := by
  rw [List.drop_take]
  exact (h.dropA rfl hc).take (j - i)
end Go.Proofs.YtmholhjdpkfleaaDoor
