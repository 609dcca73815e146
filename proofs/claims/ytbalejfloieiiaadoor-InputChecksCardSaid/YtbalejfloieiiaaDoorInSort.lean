/- Package input: the order of edges by their ends, as the library's sort asks for it. -/
import Derived.Test.YtbalejfloieiiaaDoorLaySort
import Derived.Test.YtbalejfloieiiaaDoorEdges
import Derived.Test.YtbalejfloieiiaaDoorReduceMath
import Derived.Test.YtbalejfloieiiaaDoorOnly
import Derived.Test.YtbalejfloieiiaaDoorRefInput3
import Derived.Deep.RegionHeld3
namespace Go.Proofs.YtbalejfloieiiaaDoor
open Go.RowKit Go.Sort
set_option linter.unusedSimpArgs false
set_option linter.unusedVariables false
set_option maxRecDepth 100000

/-- how two numbers lie -/
def cmpN (a b : Nat) : Int := if a < b then -1 else if b < a then 1 else 0
theorem isNaN32_any (x : Nat) (w : World) : Calls Tryd.prog 90 #[.int .u32 x] w fun e w' => e = .returned (.bool false) ∧ w = w' := by
  go_enter Tryd.func90, Tryd.ntmps90
  go_wp2_with fail
  go_ret
  exact ⟨by simp, rfl⟩
set_option maxHeartbeats 4000000 in
theorem compare32_any (a b : Nat) (w : World) : Calls Tryd.prog 69 #[.int .u32 a, .int .u32 b] w fun e w' => e = .returned (.int .i64 (cmpN a b)) ∧ w = w' := by
  have N := Lib.hid isNaN32_any
  by_cases h1 : a < b
  · have e : cmpN a b = -1 := by unfold cmpN; rw [if_pos h1]
    rw [e]
    have h1' : (a : Int) < (b : Int) := by omega
    clear e h1
    go_enter Tryd.func69, Tryd.ntmps69
    go_wp2_with (go_at_call 90; refine (N.out _ _).mono ?_; rintro e w' ⟨rfl, rfl⟩)
    go_ret
    exact ⟨rfl, rfl⟩
  · by_cases h2 : b < a
    · have e : cmpN a b = 1 := by unfold cmpN; rw [if_neg h1, if_pos h2]
      rw [e]
      have h1' : ¬ (a : Int) < (b : Int) := by omega
      have h2' : (b : Int) < (a : Int) := by omega
      clear e h1 h2
      go_enter Tryd.func69, Tryd.ntmps69
      go_wp2_with (go_at_call 90; refine (N.out _ _).mono ?_; rintro e w' ⟨rfl, rfl⟩)
      go_ret
      exact ⟨rfl, rfl⟩
    · have e : cmpN a b = 0 := by unfold cmpN; rw [if_neg h1, if_neg h2]
      rw [e]
      have h1' : ¬ (a : Int) < (b : Int) := by omega
      have h2' : ¬ (b : Int) < (a : Int) := by omega
      clear e h1 h2
      go_enter Tryd.func69, Tryd.ntmps69
      go_wp2_with (go_at_call 90; refine (N.out _ _).mono ?_; rintro e w' ⟨rfl, rfl⟩)
      go_ret
      exact ⟨rfl, rfl⟩
/-- the first one that is not 0 -/
def orI (x y : Int) : Int := if x = 0 then y else x
set_option maxHeartbeats 4000000 in
theorem or_any (x y : Int) (b : Nat) (w : World) (h0 : w.cell? ⟨b, 0, none⟩ = some (.int .i64 x)) (h1 : w.cell? ⟨b, 1, none⟩ = some (.int .i64 y)) : Calls Tryd.prog 68 #[.slice (some ⟨b, 0, none⟩) 2 2] w fun e w' => e = .returned (.int .i64 (orI x y)) ∧ w = w' := by
  by_cases hx : x = 0
  · by_cases hy : y = 0
    · have e : orI x y = 0 := by unfold orI; rw [if_pos hx, hy]
      rw [e]
      subst hx
      subst hy
      clear e
      go_enter Tryd.func68, Tryd.ntmps68
      go_wp2_with fail
      refine wp_loop_rounds 3 ?_
      rw [rounds_succ]
      go_wp2
      rw [rounds_succ]
      go_wp2
      rw [rounds_succ]
      go_wp2
      go_ret
      exact ⟨rfl, rfl⟩
    · have e : orI x y = y := by unfold orI; rw [if_pos hx]
      rw [e]
      subst hx
      have hy' : (y == 0) = false := by rw [beq_eq_false_iff_ne]; exact hy
      clear e
      go_enter Tryd.func68, Tryd.ntmps68
      go_wp2_with fail
      refine wp_loop_rounds 2 ?_
      rw [rounds_succ]
      go_wp2
      rw [rounds_succ]
      go_wp2
      go_ret
      exact ⟨rfl, rfl⟩
  · have e : orI x y = x := by unfold orI; rw [if_neg hx]
    rw [e]
    have hx' : (x == 0) = false := by rw [beq_eq_false_iff_ne]; exact hx
    clear e
    go_enter Tryd.func68, Tryd.ntmps68
    go_wp2_with fail
    refine wp_loop_rounds 1 ?_
    rw [rounds_succ]
    go_wp2
    go_ret
    exact ⟨rfl, rfl⟩

/-- how two edges lie by their ends -/
def cfE (a b : Ed) : Int := orI (cmpN a.t b.t) (cmpN a.h b.h)
set_option maxHeartbeats 8000000 in
theorem byEnds_any (a b : Ed) (w : World) : Calls Tryd.prog 49 #[.agg #[.int .u32 (a.t : Int), .int .u32 (a.h : Int), .int .u64 (a.x : Int), .int .u32 (a.m : Int)], .agg #[.int .u32 (b.t : Int), .int .u32 (b.h : Int), .int .u64 (b.x : Int), .int .u32 (b.m : Int)]] w fun e w' => e = .returned (.int .i64 (cfE a b)) ∧ ∃ q os', w' = grow (w.drewN q) os' := by
  have E1 := EdBox.new w 31 a
  have E2 := EdBox.new (w.alloc (.cells #[.int .u32 (a.t : Int), .int .u32 (a.h : Int), .int .u64 (a.x : Int), .int .u32 (a.m : Int)] 31)) 31 b
  have E3 := E1.keep (keeps_alloc _ (.cells #[.int .u32 (b.t : Int), .int .u32 (b.h : Int), .int .u64 (b.x : Int), .int .u32 (b.m : Int)] 31))
  simp only [World.size_alloc] at E2
  go_enter Tryd.func49, Tryd.ntmps49
  go_wp2_with fail
  have hW : (w.alloc (.cells #[.int .u32 (a.t : Int), .int .u32 (a.h : Int), .int .u64 (a.x : Int), .int .u32 (a.m : Int)] 31)).alloc (.cells #[.int .u32 (b.t : Int), .int .u32 (b.h : Int), .int .u64 (b.x : Int), .int .u32 (b.m : Int)] 31) = grow w #[(.cells #[.int .u32 (a.t : Int), .int .u32 (a.h : Int), .int .u64 (a.x : Int), .int .u32 (a.m : Int)] 31), (.cells #[.int .u32 (b.t : Int), .int .u32 (b.h : Int), .int .u64 (b.x : Int), .int .u32 (b.m : Int)] 31)] := by rw [alloc_eq_grow, alloc_eq_grow, grow_grow]; rfl
  generalize (w.alloc (.cells #[.int .u32 (a.t : Int), .int .u32 (a.h : Int), .int .u64 (a.x : Int), .int .u32 (a.m : Int)] 31)).alloc (.cells #[.int .u32 (b.t : Int), .int .u32 (b.h : Int), .int .u64 (b.x : Int), .int .u32 (b.m : Int)] 31) = W at *
  obtain ⟨a0, a1, -, -⟩ := E3.cells
  obtain ⟨b0, b1, -, -⟩ := E2.cells
  have SS := Lib.hid (fun (V : World) (k : Keeps W V) => show (V.cell? ⟨w.heap.size, 0, none⟩ = some (.int .u32 (a.t : Int)) ∧ V.cell? ⟨w.heap.size, 1, none⟩ = some (.int .u32 (a.h : Int))) ∧ (V.cell? ⟨w.heap.size + 1, 0, none⟩ = some (.int .u32 (b.t : Int)) ∧ V.cell? ⟨w.heap.size + 1, 1, none⟩ = some (.int .u32 (b.h : Int))) from ⟨⟨k.cellOf a0, k.cellOf a1⟩, k.cellOf b0, k.cellOf b1⟩)
  have CC := Lib.hid compare32_any
  have OO := Lib.hid or_any
  have HW := Lib.hid hW
  clear E1 E2 E3 hW
  go_region_held3 (fun V => (V.cell? ⟨w.heap.size, 0, none⟩ = some (.int .u32 (a.t : Int)) ∧ V.cell? ⟨w.heap.size, 1, none⟩ = some (.int .u32 (a.h : Int))) ∧ (V.cell? ⟨w.heap.size + 1, 0, none⟩ = some (.int .u32 (b.t : Int)) ∧ V.cell? ⟨w.heap.size + 1, 1, none⟩ = some (.int .u32 (b.h : Int)))) (exact SS.out _ (by first | assumption | exact keeps_drew _ | exact keeps_trans (keeps_drew _) (keeps_alloc _ _))) (first
    | (go_at_call 69; refine (CC.out _ _ _).mono ?_; rintro ee w1 ⟨rfl, rfl⟩)
    | (go_at_call 68; refine (OO.out _ _ _ _ ((Box.new W.drew 3 _).cell 0 rfl) ((Box.new W.drew 3 _).cell 1 rfl)).mono ?_; rintro ee w1 ⟨rfl, rfl⟩))
  go_wp2_with fail
  go_ret
  exact ⟨rfl, 1, _, by rw [HW.out, alloc_eq_grow, grow_grow]; rfl⟩

theorem orI_cmp (a b : Ed) : cfE a b < 0 ↔ ahd a b = true := by
  rw [ahd_true]
  unfold cfE orI cmpN
  by_cases h1 : a.t < b.t
  · simp [h1]
  · by_cases h2 : b.t < a.t
    · simp [h1, h2]; omega
    · by_cases h3 : a.h < b.h
      · simp [h1, h2, h3]; omega
      · by_cases h4 : b.h < a.h
        · simp [h1, h2, h3, h4]
        · simp [h1, h2, h3, h4]
theorem lt_cfE (a b : Ed) : ltOf cfE a b = ahd a b := by
  unfold ltOf
  rw [Bool.eq_iff_iff, decide_eq_true_iff]
  exact orI_cmp a b
theorem swoE : SWO (ltOf cfE) where
  irrefl x := by rw [lt_cfE]; exact ahd_irr x
  trans x y z h1 h2 := by rw [lt_cfE] at *; exact ahd_trans h1 h2
  ntrans x y z h1 h2 := by rw [lt_cfE, ahd_false] at *; omega
instance : Inhabited Ed := ⟨⟨0, 0, 0, 0⟩⟩
theorem flatK_edsC (l : List Ed) : (flatK edC 4 l.toArray).toList = edsC l := by
  apply List.ext_getElem
  · rw [Array.length_toList, size_flatK, edsC_length]; simp
  · intro t h1 h2
    have h3 : t < l.length * 4 := by rw [edsC_length] at h2; exact h2
    have hq : t / 4 < l.length := by omega
    have hm : t % 4 < 4 := Nat.mod_lt _ (by decide)
    have e1 := get_flatK edC 4 l.toArray t (by simpa using h3)
    have e2 : (flatK edC 4 l.toArray)[t]! = (flatK edC 4 l.toArray)[t]'(by simpa using h1) := getElem!_pos _ t (by simpa using h1)
    have e3 : l.toArray[t / 4]! = l[t / 4] := by rw [getElem!_pos l.toArray (t / 4) (by simpa using hq)]; simp
    have e4 : (edsC l)[t / 4 * 4 + t % 4]? = (edC l[t / 4])[t % 4]? := by
      unfold edsC
      rw [flatMap_get edC 4 edC_length l hm, List.getElem?_eq_getElem hq]
      rfl
    have e5 : t / 4 * 4 + t % 4 = t := by omega
    rw [e5, List.getElem?_eq_getElem h2, List.getElem?_eq_getElem (by rw [edC_length]; exact hm)] at e4
    have e6 : (edC l[t / 4])[t % 4]! = (edC l[t / 4])[t % 4]'(by rw [edC_length]; exact hm) := getElem!_pos _ _ (by rw [edC_length]; exact hm)
    rw [Array.getElem_toList, ← e2, e1, e3, e6]
    exact (Option.some.inj e4).symm
theorem cmpLaysE (blk off size : Nat) (w : World) : CmpLays Tryd.prog 49 #[] edC 4 cfE blk off size w :=
  fun _ _ _ _ x y => byEnds_any x y _
theorem isAggEd : ∀ w, (isAgg 31).run Tryd.prog w = .ok true w := Tryd.isAgg31
theorem sizeEd : ∀ w, (Go.sizeOf 31).run Tryd.prog w = .ok 4 w := Tryd.sizeOf31

theorem Own.holdsE {w : World} {base g cap : Nat} {e : TypeId} {l : List Ed} (h : Own w base e 4 (.slice (some ⟨g, 0, none⟩) l.length cap) l.length (edsC l)) : HoldsK edC 4 w g 0 l.toArray := by
  rcases h.2 with ⟨h0, _⟩ | ⟨g', cap', cur, fz, hv, hb, hg, hz, h1, h2, h3, h4⟩
  · cases h0
  · injection hv with hv1 hv2 hv3
    injection hv1 with hv1
    injection hv1 with hv1
    subst hv1
    subst hv3
    intro j hj
    rw [size_flatK] at hj
    have hj' : j < l.length * 4 := by simpa using hj
    refine ⟨?_, ?_⟩
    · rw [Nat.zero_add, cell_of_row w g j cur e fz hg]
      have e1 : (cur.toList.take (l.length * 4))[j]? = (edsC l)[j]? := by rw [h4]
      rw [List.getElem?_take_of_lt hj', ← flatK_edsC] at e1
      rw [← Array.getElem?_toList, e1, Array.getElem?_toList]
      have : (flatK edC 4 l.toArray)[j]? = some ((flatK edC 4 l.toArray)[j]'(by rw [size_flatK]; exact hj)) := Array.getElem?_eq_getElem _
      rw [this, getElem!_pos (flatK edC 4 l.toArray) j (by rw [size_flatK]; exact hj)]
      rfl
    · obtain ⟨lo, hi'⟩ := fz
      simp only [World.frozen?, hg, Bool.and_eq_false_iff, decide_eq_false_iff_not]
      rcases hz with hz | hz
      · right; simp only at hz; omega
      · left; simp only at hz; omega
theorem take_putCells (cur xs : Array Value) (h : xs.size ≤ cur.size) : (putCells id 0 xs cur).toList.take xs.size = xs.toList := by
  apply List.ext_getElem?
  intro j
  by_cases hj : j < xs.size
  · rw [List.getElem?_take_of_lt hj, Array.getElem?_toList]
    simp [putCells, hj, show j < cur.size by omega]
  · rw [List.getElem?_take_eq_none (by omega), List.getElem?_eq_none (by simp; omega)]
theorem heap_putK {w : World} {g n : Nat} {os : Array Obj} {cur : Array Value} {e : TypeId} {fr : Nat × Nat} (d : Array Ed) (hb : w.heap[g]? = some (.cells cur e fr)) :
    (sortWorldK edC 4 w g 0 n d os).heap[g]? = some (.cells (putCells id 0 (flatK edC 4 d) cur) e fr) := by
  have hg : g < w.heap.size := (Array.getElem?_eq_some_iff.1 hb).1
  unfold sortWorldK putRowK
  rw [heap_grow_old _ _ (by simpa using hg)]
  simp [putRow, mapBlock, Sort.ahead, Array.getElem?_modify, hb, onCells]
theorem only_putK {w : World} {g n : Nat} {os : Array Obj} (d : Array Ed) : Only w (sortWorldK edC 4 w g 0 n d os) (fun c => c = g) := by
  refine ⟨rfl, rfl, rfl, by simp [sortWorldK, putRowK], fun k hk hne => ?_⟩
  unfold sortWorldK putRowK
  rw [heap_grow_old _ _ (by simpa using hk)]
  simp [putRow, mapBlock, Sort.ahead, Array.getElem?_modify, Ne.symm hne]
theorem Own.sorted {w : World} {base g cap n : Nat} {e : TypeId} {os : Array Obj} {l l' : List Ed} (h : Own w base e 4 (.slice (some ⟨g, 0, none⟩) l.length cap) l.length (edsC l)) (hl : l'.length = l.length) :
    Own (sortWorldK edC 4 w g 0 n l'.toArray os) base e 4 (.slice (some ⟨g, 0, none⟩) l.length cap) l.length (edsC l') := by
  refine ⟨by rw [edsC_length, hl], ?_⟩
  rcases h.2 with ⟨h0, _⟩ | ⟨g', cap', cur, fz, hv, hb, hg, hz, h1, h2, h3, h4⟩
  · cases h0
  · injection hv with hv1 hv2 hv3
    injection hv1 with hv1
    injection hv1 with hv1
    subst hv1
    subst hv3
    have hs : (flatK edC 4 l'.toArray).size = l.length * 4 := by rw [size_flatK]; simp [hl]
    have hle : l.length * 4 ≤ cap * 4 := Nat.mul_le_mul_right 4 h1
    refine .inr ⟨g, cap, _, fz, rfl, hb, heap_putK _ hg, ?_, h1, h2, by simp [putCells, h3], ?_⟩
    · rcases hz with hz | hz
      · exact .inl hz
      · right; simpa [putCells] using hz
    · rw [← hs, take_putCells cur _ (by rw [hs, h3]; exact hle), flatK_edsC]
/-- no pair is there twice -/
def Once (l : List Ed) : Prop := l.Pairwise fun x y => ¬ Pair x y
theorem rise_of {l : List Ed} (ho : Once l) (hs : SortedIn (ltOf cfE) 0 l.toArray.size l.toArray) : Rise l := by
  unfold Rise
  unfold Once at ho
  rw [List.pairwise_iff_getElem] at ho ⊢
  intro i j hi hj hij
  have h1 := hs i j (Nat.zero_le _) hij (by simpa using hj)
  rw [lt_cfE] at h1
  have e1 : l.toArray[i]! = l[i] := by rw [getElem!_pos l.toArray i (by simpa using hi)]; simp
  have e2 : l.toArray[j]! = l[j] := by rw [getElem!_pos l.toArray j (by simpa using hj)]; simp
  rw [e1, e2] at h1
  cases h2 : ahd l[i] l[j] with
  | true => rfl
  | false => exact absurd (pair_of h2 h1) (ho i j hi hj hij)
theorem Once.perm {l m : List Ed} (h : Once l) (hp : l.Perm m) : Once m := (hp.pairwise_iff (fun {a b} hab hba => hab ⟨hba.1.symm, hba.2.symm⟩)).1 h
set_option maxHeartbeats 4000000 in
theorem sort_any (g cap base : Nat) (l : List Ed) (w : World) (ho : Once l) (hown : Own w base 31 4 (.slice (some ⟨g, 0, none⟩) l.length cap) l.length (edsC l)) (hl : l.length < 4611686018427387904) :
    Calls Tryd.prog 48 #[.slice (some ⟨g, 0, none⟩) l.length cap, .func (.func 49) #[] #[]] w fun e w' => e = .returned (.tuple #[]) ∧ ∃ l' : List Ed, l.Perm l' ∧ Rise l' ∧ Own w' base 31 4 (.slice (some ⟨g, 0, none⟩) l.length cap) l.length (edsC l') ∧ Only w w' (fun c => c = g) := by
  have eg : ∀ args w, (callFunc 49 args).run Tryd.prog w = .ok (.enter 49 args) w := enters_of Tryd.func49 (by kernel_rfl) rfl
  have hg := (hown.lt g rfl).2
  have hcon := AnyQ.slices_SortFunc sortEd 4 isAggEd sizeEd edC edC_length (fun x v hv => edsC_one [x] v (by simpa [edsC] using hv)) cfE swoE 49 #[] g 0 cap l.toArray w eg (cmpLaysE g 0 l.toArray.size w) hown.holdsE hg (by simpa using hl)
  have e1 : l.toArray.size = l.length := by simp
  rw [e1] at hcon
  refine Calls.mono hcon ?_
  rintro e w' ⟨rfl, d', n, os, hp, hs, rfl⟩
  obtain ⟨p1, -, p3⟩ := hp
  have hsz : d'.size = l.length := by rw [p1, e1]
  have p4 : d'.toList.Perm l := by
    have x1 : (d'.extract 0 l.length).toList = d'.toList := by rw [← hsz]; simp
    have x2 : (l.toArray.extract 0 l.length).toList = l := by simp
    rw [x1, x2] at p3
    exact p3
  have hd : d' = d'.toList.toArray := by simp
  refine ⟨rfl, d'.toList, p4.symm, rise_of (ho.perm p4.symm) (by rw [← hd, hsz]; exact hs), ?_, only_putK _⟩
  have := hown.sorted (n := n) (os := os) (l' := d'.toList) (by simpa using hsz)
  rw [← hd] at this
  exact this
end Go.Proofs.YtbalejfloieiiaaDoor
