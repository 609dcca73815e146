/- Layer 14's statements, WitnessWays: how far each vertex is, by edges that are tried again and again. -/
import Derived.Test.YtkijfbnibfbldaaLawWitA
import Derived.Deep.OwnRows
namespace Go.Proofs.Ytkijfbnibfbldaa
open Go.RowKit
set_option linter.unusedSimpArgs false
set_option linter.unusedVariables false
set_option maxRecDepth 100000

theorem u64s_lenW (l : List Nat) : (u64s l).length = l.length := by simp [u64s]
theorem u64s_set (l : List Nat) (j x : Nat) : (u64s l).set j (.int .u64 (x : Int)) = u64s (l.set j x) := by simp [u64s, List.map_set]
/-- a row of numbers takes one -/
theorem Own.num {w : World} {B g n c : Nat} {l : List Nat} (h : Own w B 27 1 (.slice (some ⟨g, 0, none⟩) n c) n (u64s l)) {j : Nat} (hj : j < l.length) (x : Nat) : Own (w.setCell ⟨g, j, none⟩ (.int .u64 (x : Int))) B 27 1 (.slice (some ⟨g, 0, none⟩) n c) n (u64s (l.set j x)) := by
  rw [← u64s_set]
  exact h.store (by rw [u64s_lenW]; exact hj) _
theorem Own.numAt {w : World} {B g n c : Nat} {l : List Nat} (h : Own w B 27 1 (.slice (some ⟨g, 0, none⟩) n c) n (u64s l)) {j y : Nat} (hy : l[j]? = some y) : w.cell? ⟨g, j, none⟩ = some (.int .u64 (y : Int)) ∧ w.frozen? ⟨g, j, none⟩ = false := by
  have hj := (List.getElem?_eq_some_iff.1 hy).1
  obtain ⟨g', hg, h1, h2, -⟩ := h.cell (j := j) (by rw [u64s_lenW]; exact hj)
  cases hg
  refine ⟨?_, h2⟩
  rw [h1]
  simp [u64s, hy]
theorem keeps_num {w wr : World} (k : Keeps w wr) {g j : Nat} (hg : w.heap.size ≤ g) (u : Value) : Keeps w (wr.setCell ⟨g, j, none⟩ u) := k.setCell (p := ⟨g, j, none⟩) hg u
theorem made_list (z : Value) (n : Nat) : (madeCells #[z] n).toList = List.replicate n z := by
  unfold madeCells
  apply List.ext_getElem <;> simp [Nat.mod_one]
theorem own_made (w : World) (n : Nat) (hn : n ≤ 1000) : Own (w.alloc (.cells (madeCells #[.int .u64 0] n) 27)) w.heap.size 27 1 (.slice (some ⟨w.heap.size, 0, none⟩) n n) n (List.replicate n (.int .u64 0)) :=
  ⟨by simp, .inr ⟨w.heap.size, n, _, (0, 0), rfl, Nat.le_refl _, heap_alloc_new w _, .inl rfl, Nat.le_refl _, by unfold maxLen; omega, by rw [size_madeCells]; omega, by rw [made_list, Nat.mul_one, List.take_of_length_le (by simp)]⟩⟩
theorem info_u64w : (Try.prog.info? 27).map (fun i => (i.zero, i.size, i.bytes)) = some (some (.int .u64 0), 1, 8) := by kernel_rfl
/-- as far as place k -/
def bfS (all : List Nat) (fr k : Nat) : List Nat := all.mapIdx fun i v => if i < k then (if v = fr then 0 else far) else 0
theorem bfS_len (all : List Nat) (fr k : Nat) : (bfS all fr k).length = all.length := by simp [bfS]
theorem bfS_next {all : List Nat} {fr k y : Nat} (hy : all[k]? = some y) : bfS all fr (k + 1) = (bfS all fr k).set k (if y = fr then 0 else far) := by
  apply List.ext_getElem?
  intro i
  have hl := (List.getElem?_eq_some_iff.1 hy).1
  by_cases e : i = k
  · subst e
    rw [List.getElem?_set_self (by rw [bfS_len]; exact hl)]
    simp [bfS, hy]
  · rw [List.getElem?_set_ne (fun h => e h.symm)]
    simp only [bfS, List.getElem?_mapIdx]
    cases all[i]? with
    | none => rfl
    | some v =>
      by_cases h : i < k
      · simp [h, Nat.lt_succ_of_lt h]
      · simp [h, show ¬ i < k + 1 by omega]
theorem bfS_at {all : List Nat} {fr k : Nat} (hk : k < all.length) : (bfS all fr k)[k]? = some 0 := by simp [bfS, hk]
theorem bfS_zero (all : List Nat) (fr : Nat) : u64s (bfS all fr 0) = List.replicate all.length (.int .u64 0) := by
  simp only [u64s, bfS]
  apply List.ext_getElem <;> simp
theorem bfS_all (all : List Nat) (av : Nat → Bool) (E : List Ed) (fr : Nat) : bfS all fr all.length = bfN all av E fr 0 := by
  apply List.ext_getElem?
  intro i
  simp only [bfS, bfN, List.getElem?_mapIdx, List.getElem?_map]
  by_cases h : i < all.length
  · rw [List.getElem?_eq_getElem h]; simp [h]
  · rw [List.getElem?_eq_none (by omega)]; rfl
def Bd (dl : List Nat) : Prop := ∀ x ∈ dl, x ≤ far
theorem Bd.relax {all : List Nat} {av : Nat → Bool} {e : Ed} {dl : List Nat} (h : Bd dl) : Bd (relaxL all av dl e) := by
  unfold relaxL
  split
  · rename_i hc
    intro x hx
    rcases List.mem_or_eq_of_mem_set hx with h1 | h1
    · exact h x h1
    · subst h1
      unfold relB at hc
      simp only [Bool.and_eq_true] at hc
      have := hc.1.1
      unfold addB at this
      simp only [decide_eq_true_eq] at this
      omega
  · exact h
theorem Bd.fold {all : List Nat} {av : Nat → Bool} : ∀ (l : List Ed) {dl : List Nat}, Bd dl → Bd (l.foldl (relaxL all av) dl) := by
  intro l
  induction l with
  | nil => intro dl h; exact h
  | cons e l ih => intro dl h; exact ih h.relax
theorem bd_bf (all : List Nat) (av : Nat → Bool) (E : List Ed) (fr : Nat) : ∀ k, Bd (bfN all av E fr k) := by
  intro k
  induction k with
  | zero =>
    intro x hx
    unfold bfN at hx
    obtain ⟨v, -, rfl⟩ := List.mem_map.1 hx
    split
    · exact Nat.zero_le _
    · exact Nat.le_refl _
  | succ k ih => exact Bd.fold E ih
theorem fold_len {all : List Nat} {av : Nat → Bool} (l : List Ed) {dl : List Nat} : (l.foldl (relaxL all av) dl).length = dl.length := bfR_len (E := l)
theorem dAt_get {all dl : List Nat} (hl : dl.length = all.length) {v : Nat} (hv : v ∈ all) : dl[all.idxOf v]? = some (dAt all dl v) := by
  have h1 : all.idxOf v < dl.length := by rw [hl]; exact List.idxOf_lt_length_iff.2 hv
  unfold dAt
  rw [List.getD_eq_getElem?_getD, List.getElem?_eq_getElem h1]
  rfl

set_option maxHeartbeats 16000000 in
theorem far_any {w : World} {g : Nat} {x : WNet} (hb : Box w g 25 x.cells) (hx : WNetOk w x) (hE : x.E.length ≤ 100) (hZ : x.Z.length ≤ 50) (A : Option Addr) (n c : Nat) (all : List Nat) (fr : Nat) (hA : At w w.heap.size A (celU all)) (hn : n = all.length) (hm : n ≤ 201) (hends : ∀ e ∈ x.E, e.t ∈ all ∧ e.h ∈ all) :
    Calls Try.prog 19 #[.pointer (some ⟨g, 0, none⟩), .slice A n c, .int .u32 (fr : Int)] w fun e w' => e = .returned (.slice (some ⟨w.heap.size, 0, none⟩) n n) ∧ Own w' w.heap.size 27 1 (.slice (some ⟨w.heap.size, 0, none⟩) n n) n (u64s (bfN all (avN x) x.E fr all.length)) ∧ Keeps w w' := by
  have C0 := Lib.hid (fun (W : World) (k : Keeps w W) => show W.cell? ⟨g, 0, none⟩ = some (.slice x.Ae x.E.length x.ce) from (hb.keep k).cell 0 rfl)
  have AV := Lib.hid (fun (W : World) (k : Keeps w W) (v : Nat) => netAvoid_any (hb.keep k) (hx.keep k) hZ v)
  have HE := Lib.hid hx.e
  have HEOK := Lib.hid hx.ok
  have PL := Lib.hid (fun (W : World) (k : Keeps w W) (v : Nat) (hv : v ∈ all) => show Calls Try.prog 20 #[.slice A n c, .int .u32 (v : Int)] W fun e w' => e = .returned (.int .i64 (all.idxOf v : Int)) ∧ Keeps W w' from by
    have := place_any A n c all v W ((hA.keep k).more k.size) hn (by omega)
    rw [if_pos hv] at this
    exact this)
  obtain ⟨av, hav⟩ : ∃ y, avN x = y := ⟨_, rfl⟩
  obtain ⟨Ae, hAe⟩ : ∃ y, x.Ae = y := ⟨_, rfl⟩
  obtain ⟨ce, hce⟩ : ∃ y, x.ce = y := ⟨_, rfl⟩
  obtain ⟨E, hEE⟩ : ∃ y, x.E = y := ⟨_, rfl⟩
  rw [hav] at AV
  rw [hAe, hce, hEE] at C0
  rw [hAe, hEE] at HE
  rw [hEE] at HEOK hE hends
  rw [hav, hEE]
  have HA := Lib.hid hA
  have HN := Lib.hid hn
  have HM := Lib.hid hm
  have HENDS := Lib.hid hends
  obtain ⟨m, hmm⟩ : ∃ m, E.length = m := ⟨_, rfl⟩
  rw [hmm] at C0 hE
  have HME := Lib.hid hmm
  have n1 : (n : Int) ≤ 201 := by omega
  have m1 : (m : Int) ≤ 100 := by omega
  have O0 := Lib.hid (own_made w n (by omega))
  have K0 := Lib.hid (keeps_alloc w (.cells (madeCells #[.int .u64 0] n) 27))
  have hmk := run_make_row' (P := Try.prog) 45 27 (.int .u64 0) 8 Try.underlying45 info_u64w rfl .i64 .i64 n (by omega) (by omega)
  clear hb hx hA hn hm hE hZ hends hav hAe hce hEE hmm
  go_enter Try.func19, Try.ntmps19
  go_wp2_with fail
  clear hmk
  obtain ⟨s, hs⟩ : ∃ s, w.heap.size = s := ⟨_, rfl⟩
  have HS := Lib.hid hs
  rw [hs]
  rw [hs] at O0
  clear hs
  go_loopw [8] (fun t wr => ∃ k : Nat, k ≤ n ∧ t = .int .i64 (k : Int) ∧ Own wr s 27 1 (.slice (some ⟨s, 0, none⟩) n n) n (u64s (bfS all fr k)) ∧ Keeps w wr) (fun t _ => n - (intOf t).toNat)
  case atStart => exact ⟨0, Nat.zero_le _, rfl, by rw [bfS_zero, ← HN.out]; exact O0.out, K0.out⟩
  case round =>
    obtain ⟨k, hk, rfl, hO, hks⟩ := hrel
    have HO := Lib.hid hO
    have KS := Lib.hid hks
    clear hO hks
    by_cases hlt : k < n
    · have hkl : k < all.length := by have := HN.out; omega
      obtain ⟨y, hy⟩ : ∃ y, all[k]? = some y := ⟨_, List.getElem?_eq_getElem hkl⟩
      obtain ⟨d0, d1⟩ := HO.out.numAt (bfS_at hkl)
      have KF := keeps_num KS.out (g := s) (j := k) (by rw [HS.out]; exact Nat.le_refl _) (.int .u64 9223372036854775808)
      have OF := HO.out.num (j := k) (by rw [bfS_len]; exact hkl) 9223372036854775808
      obtain ⟨ad, hAd, -, hc⟩ := At.get (HA.out.keep KF) (k := k) (by rw [celU_len]; exact hkl)
      subst hAd
      rw [celU_get all hy] at hc
      have NX := Lib.hid (bfS_next (fr := fr) hy)
      have k1 : (k : Int) < (n : Int) := by omega
      have HLT := Lib.hid hlt
      have HKF := Lib.hid KF
      have HOF := Lib.hid OF
      by_cases hv : y = fr
      · subst hv
        rw [if_pos rfl] at NX
        obtain ⟨d2, d3⟩ := HOF.out.numAt (j := k) (y := 9223372036854775808) (by rw [List.getElem?_set_self (by rw [bfS_len]; exact hkl)])
        have OG := Lib.hid (HOF.out.num (j := k) (by rw [List.length_set, bfS_len]; exact hkl) 0)
        rw [List.set_set] at OG
        have KG := Lib.hid (keeps_num HKF.out (g := s) (j := k) (by rw [HS.out]; exact Nat.le_refl _) (.int .u64 0))
        clear hk hlt hkl hy KF OF
        go_wp2_with fail
        go_roundw
        case rel => exact ⟨k + 1, by have := HLT.out; omega, by go_num, by rw [NX.out]; exact OG.out, KG.out⟩
        case measure => have := HLT.out; simp [intOf]; omega
      · rw [if_neg hv] at NX
        have h4 : ((y : Int) == (fr : Int)) = false := by simp only [beq_eq_false_iff_ne, ne_eq, Int.natCast_inj]; exact hv
        clear hk hlt hkl hy hv KF OF
        go_wp2_with fail
        go_roundw
        case rel => exact ⟨k + 1, by have := HLT.out; omega, by go_num, by rw [NX.out]; exact HOF.out, HKF.out⟩
        case measure => have := HLT.out; simp [intOf]; omega
    · obtain rfl : k = n := by omega
      have HO2 := Lib.hid (show Own wr s 27 1 (.slice (some ⟨s, 0, none⟩) k k) k (u64s (bfN all av E fr 0)) by rw [← bfS_all all av E fr, ← HN.out]; exact HO.out)
      clear hk hlt HO O0 K0
      go_wp2_with fail
      go_loopw [9] (fun t wq => ∃ r : Nat, r ≤ k ∧ t = .int .i64 (r : Int) ∧ Own wq s 27 1 (.slice (some ⟨s, 0, none⟩) k k) k (u64s (bfN all av E fr r)) ∧ Keeps w wq) (fun t _ => k - (intOf t).toNat)
      case atStart => exact ⟨0, Nat.zero_le _, rfl, HO2.out, KS.out⟩
      case round =>
        obtain ⟨r, hr, rfl, hO, hks⟩ := hrel
        have HO := Lib.hid hO
        have KQ := Lib.hid hks
        clear hO hks
        by_cases hlt : r < k
        · have r1 : (r : Int) < (k : Int) := by omega
          have HLT := Lib.hid hlt
          clear hr hlt
          go_wp2_with fail
          go_loopw [10] (fun t wx => ∃ j : Nat, j ≤ m ∧ t = .int .i64 (j : Int) ∧ Own wx s 27 1 (.slice (some ⟨s, 0, none⟩) k k) k (u64s ((E.take j).foldl (relaxL all av) (bfN all av E fr r))) ∧ Keeps w wx) (fun t _ => m - (intOf t).toNat)
          case atStart => exact ⟨0, Nat.zero_le _, rfl, HO.out, KQ.out⟩
          case round =>
            obtain ⟨j, hj, rfl, hO, hks⟩ := hrel
            have c0 := C0.out _ hks
            by_cases hjm : j < m
            · obtain ⟨e, he⟩ : ∃ e, E[j]? = some e := ⟨_, List.getElem?_eq_getElem (by have := HME.out; omega)⟩
              have NX : (E.take (j + 1)).foldl (relaxL all av) (bfN all av E fr r) = relaxL all av ((E.take j).foldl (relaxL all av) (bfN all av E fr r)) e := by
                rw [List.take_add_one, he, Option.toList_some, List.foldl_append]
                rfl
              have LN : ((E.take j).foldl (relaxL all av) (bfN all av E fr r)).length = all.length := by rw [fold_len, bfN_len]
              have BD : Bd ((E.take j).foldl (relaxL all av) (bfN all av E fr r)) := Bd.fold _ (bd_bf _ _ _ _ _)
              obtain ⟨dl, hdl⟩ : ∃ dl, (E.take j).foldl (relaxL all av) (bfN all av E fr r) = dl := ⟨_, rfl⟩
              rw [hdl] at NX LN BD hO
              clear hdl
              have eE := List.mem_of_getElem? he
              obtain ⟨ht, hh⟩ := HENDS.out e eE
              have okx := HEOK.out e eE
              have gt := dAt_get LN ht
              have gh := dAt_get LN hh
              have pt : all.idxOf e.t < all.length := List.idxOf_lt_length_iff.2 ht
              have ph : all.idxOf e.h < all.length := List.idxOf_lt_length_iff.2 hh
              have bt : dAt all dl e.t ≤ far := BD _ (List.mem_of_getElem? gt)
              have bh : dAt all dl e.h ≤ far := BD _ (List.mem_of_getElem? gh)
              have PT := Lib.hid (fun (W : World) (q : Keeps w W) => PL.out W q e.t ht)
              have PH := Lib.hid (fun (W : World) (q : Keeps w W) => PL.out W q e.h hh)
              have AVH := Lib.hid (fun (W : World) (q : Keeps w W) => AV.out W q e.h)
              have AD := Lib.hid (fun (W : World) => refAdd_any (dAt all dl e.t) e.x (by unfold far at bt; omega) okx.x W)
              have RL : relaxL all av dl e = if relB all av dl e then dl.set (all.idxOf e.h) (dAt all dl e.t + e.x) else dl := rfl
              have RB : relB all av dl e = (addB (dAt all dl e.t) e.x && !av e.h && decide (dAt all dl e.t + e.x < dAt all dl e.h)) := rfl
              rw [RB] at RL
              rw [RL] at NX
              clear RL RB BD
              have LN2 := Lib.hid LN
              rw [← HN.out] at pt ph
              obtain ⟨a, ha⟩ : ∃ y, dAt all dl e.t = y := ⟨_, rfl⟩
              obtain ⟨b, hbb⟩ : ∃ y, dAt all dl e.h = y := ⟨_, rfl⟩
              obtain ⟨p, hp⟩ : ∃ y, all.idxOf e.t = y := ⟨_, rfl⟩
              obtain ⟨q, hq⟩ : ∃ y, all.idxOf e.h = y := ⟨_, rfl⟩
              rw [ha] at gt bt AD NX
              rw [hbb] at gh bh NX
              rw [hp] at gt pt PT
              rw [hq] at gh ph PH NX
              have p1 : (p : Int) < (k : Int) := by omega
              have q1 : (q : Int) < (k : Int) := by omega
              have j1 : (j : Int) < (m : Int) := by omega
              have HX := Lib.hid (And.intro gt gh)
              have HQ := Lib.hid ph
              have HNX := Lib.hid NX
              have HO3 := Lib.hid hO
              have KX := Lib.hid hks
              have HJ := Lib.hid hjm
              obtain ⟨ad, hAd, -, hEd⟩ := eds_at HE.out he
              rw [hAd] at c0
              obtain ⟨a0, a1, a2, a3⟩ := hEd.keep hks
              obtain ⟨z0, z1, z2, z3⟩ := (EdBox.new wr 67 e).cells
              obtain ⟨zb, hzb⟩ : ∃ y, wr.heap.size = y := ⟨_, rfl⟩
              have EB := Lib.hid (EdBox.new wr 67 e)
              have KA := Lib.hid (keeps_trans KX.out (keeps_alloc wr (.cells #[.int .u32 (e.t : Int), .int .u32 (e.h : Int), .int .u64 (e.x : Int), .int .u32 (e.m : Int)] 67)))
              have KW := Lib.hid (keeps_alloc wr (.cells #[.int .u32 (e.t : Int), .int .u32 (e.h : Int), .int .u64 (e.x : Int), .int .u32 (e.m : Int)] 67))
              have SD := Lib.hid (fun (V : World) (kv : Keeps (wr.alloc (.cells #[.int .u32 (e.t : Int), .int .u32 (e.h : Int), .int .u64 (e.x : Int), .int .u32 (e.m : Int)] 67)) V) =>
                show (V.cell? ⟨wr.heap.size, 0, none⟩ = some (.int .u32 (e.t : Int)) ∧ V.cell? ⟨wr.heap.size, 2, none⟩ = some (.int .u64 (e.x : Int))) ∧ V.cell? ⟨s, p, none⟩ = some (.int .u64 (a : Int)) from
                ⟨⟨(EB.out.box.keep kv).cell 0 rfl, (EB.out.box.keep kv).cell 2 rfl⟩, (((HO3.out.keep KW.out).keep kv).numAt HX.out.1).1⟩)
              clear hAd hEd okx he eE ht hh gt gh pt ph hks hO hjm hj bt bh ha hbb hp hq NX LN hzb zb
              by_cases h1 : addB a e.x = true
              · rw [h1, addV_true h1] at AD
                obtain ⟨sm, hsm⟩ : ∃ y, a + e.x = y := ⟨_, rfl⟩
                rw [hsm] at AD
                by_cases h2 : av e.h = true
                · have N2 := Lib.hid (show (E.take (j + 1)).foldl (relaxL all av) (bfN all av E fr r) = dl from by rw [HNX.out]; simp [h1, h2])
                  rw [h2] at AVH
                  clear h1 h2 hsm
                  go_wp2_with fail
                  go_region_held3 (fun V => (V.cell? ⟨wr.heap.size, 0, none⟩ = some (.int .u32 (e.t : Int)) ∧ V.cell? ⟨wr.heap.size, 2, none⟩ = some (.int .u64 (e.x : Int))) ∧ V.cell? ⟨s, p, none⟩ = some (.int .u64 (a : Int))) (exact SD.out _ (by first | assumption | exact keeps_drew _)) (first
                    | (go_at_call 28; refine (AD.out _).mono ?_; rintro ee w9 ⟨rfl, rfl⟩)
                    | (go_at_call 20; refine (PT.out _ (keeps_trans KA.out (keeps_drew _))).mono ?_; rintro ee w8 ⟨rfl, k8⟩; have K8 := keeps_trans (keeps_drew _) k8))
                  have y1 : w8.cell? ⟨wr.heap.size, 1, none⟩ = some (.int .u32 (e.h : Int)) := (EB.out.box.keep K8).cell 1 rfl
                  go_wp2_with (go_at_call 20; refine (PH.out _ (keeps_trans KA.out K8)).mono ?_; rintro ee w10 ⟨rfl, k10⟩; have K10 := Lib.hid (keeps_trans K8 k10); have y2 : w10.cell? ⟨wr.heap.size, 1, none⟩ = some (.int .u32 (e.h : Int)) := (EB.out.box.keep K10.out).cell 1 rfl)
                  go_wp2_with fail
                  refine (AVH.out _ (keeps_trans KA.out K10.out)).mono ?_
                  rintro ee w11 ⟨rfl, k11⟩
                  have K11 := Lib.hid (keeps_trans KW.out (keeps_trans K10.out k11))
                  obtain ⟨d0, d1⟩ := (HO3.out.keep K11.out).numAt HX.out.2
                  go_wp2_with fail
                  go_roundw
                  case rel => exact ⟨j + 1, by have := HJ.out; omega, by go_num, by rw [N2.out]; exact HO3.out.keep K11.out, keeps_trans KX.out K11.out⟩
                  case measure => have := HJ.out; simp [intOf]; omega
                · rw [Bool.not_eq_true] at h2
                  by_cases h3 : sm < b
                  · have N2 := Lib.hid (show (E.take (j + 1)).foldl (relaxL all av) (bfN all av E fr r) = dl.set q sm from by rw [HNX.out]; simp [h1, h2, h3, hsm])
                    have l3 : (sm : Int) < (b : Int) := by omega
                    rw [h2] at AVH
                    clear h1 h2 h3 hsm
                    go_wp2_with fail
                    go_region_held3 (fun V => (V.cell? ⟨wr.heap.size, 0, none⟩ = some (.int .u32 (e.t : Int)) ∧ V.cell? ⟨wr.heap.size, 2, none⟩ = some (.int .u64 (e.x : Int))) ∧ V.cell? ⟨s, p, none⟩ = some (.int .u64 (a : Int))) (exact SD.out _ (by first | assumption | exact keeps_drew _)) (first
                      | (go_at_call 28; refine (AD.out _).mono ?_; rintro ee w9 ⟨rfl, rfl⟩)
                      | (go_at_call 20; refine (PT.out _ (keeps_trans KA.out (keeps_drew _))).mono ?_; rintro ee w8 ⟨rfl, k8⟩; have K8 := keeps_trans (keeps_drew _) k8))
                    have y1 : w8.cell? ⟨wr.heap.size, 1, none⟩ = some (.int .u32 (e.h : Int)) := (EB.out.box.keep K8).cell 1 rfl
                    go_wp2_with (go_at_call 20; refine (PH.out _ (keeps_trans KA.out K8)).mono ?_; rintro ee w10 ⟨rfl, k10⟩; have K10 := Lib.hid (keeps_trans K8 k10); have y2 : w10.cell? ⟨wr.heap.size, 1, none⟩ = some (.int .u32 (e.h : Int)) := (EB.out.box.keep K10.out).cell 1 rfl)
                    go_wp2_with fail
                    refine (AVH.out _ (keeps_trans KA.out K10.out)).mono ?_
                    rintro ee w11 ⟨rfl, k11⟩
                    have K11 := Lib.hid (keeps_trans KW.out (keeps_trans K10.out k11))
                    obtain ⟨d0, d1⟩ := (HO3.out.keep K11.out).numAt HX.out.2
                    have HN3 := Lib.hid ((HO3.out.keep K11.out).num (List.getElem?_eq_some_iff.1 HX.out.2).1 sm)
                    have K12 := Lib.hid (keeps_num (keeps_trans KX.out K11.out) (g := s) (j := q) (by rw [HS.out]; exact Nat.le_refl _) (.int .u64 (sm : Int)))
                    go_wp2_with fail
                    go_roundw
                    case rel => exact ⟨j + 1, by have := HJ.out; omega, by go_num, by rw [N2.out]; exact HN3.out, K12.out⟩
                    case measure => have := HJ.out; simp [intOf]; omega
                  · have N2 := Lib.hid (show (E.take (j + 1)).foldl (relaxL all av) (bfN all av E fr r) = dl from by rw [HNX.out]; simp [h1, h2, h3, hsm])
                    have l3 : ¬ (sm : Int) < (b : Int) := by omega
                    rw [h2] at AVH
                    clear h1 h2 h3 hsm
                    go_wp2_with fail
                    go_region_held3 (fun V => (V.cell? ⟨wr.heap.size, 0, none⟩ = some (.int .u32 (e.t : Int)) ∧ V.cell? ⟨wr.heap.size, 2, none⟩ = some (.int .u64 (e.x : Int))) ∧ V.cell? ⟨s, p, none⟩ = some (.int .u64 (a : Int))) (exact SD.out _ (by first | assumption | exact keeps_drew _)) (first
                      | (go_at_call 28; refine (AD.out _).mono ?_; rintro ee w9 ⟨rfl, rfl⟩)
                      | (go_at_call 20; refine (PT.out _ (keeps_trans KA.out (keeps_drew _))).mono ?_; rintro ee w8 ⟨rfl, k8⟩; have K8 := keeps_trans (keeps_drew _) k8))
                    have y1 : w8.cell? ⟨wr.heap.size, 1, none⟩ = some (.int .u32 (e.h : Int)) := (EB.out.box.keep K8).cell 1 rfl
                    go_wp2_with (go_at_call 20; refine (PH.out _ (keeps_trans KA.out K8)).mono ?_; rintro ee w10 ⟨rfl, k10⟩; have K10 := Lib.hid (keeps_trans K8 k10); have y2 : w10.cell? ⟨wr.heap.size, 1, none⟩ = some (.int .u32 (e.h : Int)) := (EB.out.box.keep K10.out).cell 1 rfl)
                    go_wp2_with fail
                    refine (AVH.out _ (keeps_trans KA.out K10.out)).mono ?_
                    rintro ee w11 ⟨rfl, k11⟩
                    have K11 := Lib.hid (keeps_trans KW.out (keeps_trans K10.out k11))
                    obtain ⟨d0, d1⟩ := (HO3.out.keep K11.out).numAt HX.out.2
                    go_wp2_with fail
                    go_roundw
                    case rel => exact ⟨j + 1, by have := HJ.out; omega, by go_num, by rw [N2.out]; exact HO3.out.keep K11.out, keeps_trans KX.out K11.out⟩
                    case measure => have := HJ.out; simp [intOf]; omega
              · rw [Bool.not_eq_true] at h1
                have N2 := Lib.hid (show (E.take (j + 1)).foldl (relaxL all av) (bfN all av E fr r) = dl from by rw [HNX.out]; simp [h1])
                rw [h1, addV_false h1] at AD
                clear h1
                go_wp2_with fail
                go_region_held3 (fun V => (V.cell? ⟨wr.heap.size, 0, none⟩ = some (.int .u32 (e.t : Int)) ∧ V.cell? ⟨wr.heap.size, 2, none⟩ = some (.int .u64 (e.x : Int))) ∧ V.cell? ⟨s, p, none⟩ = some (.int .u64 (a : Int))) (exact SD.out _ (by first | assumption | exact keeps_drew _)) (first
                  | (go_at_call 28; refine (AD.out _).mono ?_; rintro ee w9 ⟨rfl, rfl⟩)
                  | (go_at_call 20; refine (PT.out _ (keeps_trans KA.out (keeps_drew _))).mono ?_; rintro ee w8 ⟨rfl, k8⟩; have K8 := keeps_trans (keeps_drew _) k8))
                have y1 : w8.cell? ⟨wr.heap.size, 1, none⟩ = some (.int .u32 (e.h : Int)) := (EB.out.box.keep K8).cell 1 rfl
                go_wp2_with (go_at_call 20; refine (PH.out _ (keeps_trans KA.out K8)).mono ?_; rintro ee w10 ⟨rfl, k10⟩; have K10 := Lib.hid (keeps_trans K8 k10); have y2 : w10.cell? ⟨wr.heap.size, 1, none⟩ = some (.int .u32 (e.h : Int)) := (EB.out.box.keep K10.out).cell 1 rfl)
                have K11 := Lib.hid (keeps_trans KW.out K10.out)
                go_wp2_with fail
                go_roundw
                case rel => exact ⟨j + 1, by have := HJ.out; omega, by go_num, by rw [N2.out]; exact HO3.out.keep K11.out, keeps_trans KX.out K11.out⟩
                case measure => have := HJ.out; simp [intOf]; omega
            · obtain rfl : j = m := by omega
              have HO3 := Lib.hid (show Own wr s 27 1 (.slice (some ⟨s, 0, none⟩) k k) k (u64s (bfN all av E fr (r + 1))) by
                have := HME.out
                rw [← this, List.take_length] at hO
                exact hO)
              have KX := Lib.hid hks
              clear hks hO hj hjm
              go_wp2_with fail
              go_roundw
              case rel => exact ⟨r + 1, by have := HLT.out; omega, by go_num, HO3.out, KX.out⟩
              case measure => have := HLT.out; simp [intOf]; omega
        · obtain rfl : r = k := by omega
          clear hr hlt
          go_wp2_with fail
          go_ret
          rw [HS.out]
          exact ⟨rfl, by rw [← HN.out]; exact HO.out, KQ.out⟩
end Go.Proofs.Ytkijfbnibfbldaa
