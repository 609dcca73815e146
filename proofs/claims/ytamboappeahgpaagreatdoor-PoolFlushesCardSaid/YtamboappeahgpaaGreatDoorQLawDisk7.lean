/- A file's bytes among files. -/
import Derived.Test.YtamboappeahgpaaGreatDoorQLawDisk
import Derived.Test.YtamboappeahgpaaGreatDoorQLawDisk6
import Derived.Test.YtamboappeahgpaaGreatDoorQDiskApart
namespace Go.Proofs.YtamboappeahgpaaGreatDoor
open Go.RowKit
set_option linter.unusedSimpArgs false
set_option linter.unusedVariables false
set_option maxRecDepth 100000

def lookF (l : List (List UInt8 × List UInt8)) (nm : List UInt8) : Option (List UInt8) := (l.find? fun p => decide (p.1 = nm)).map Prod.snd
theorem FilesAt.keep {w w' : World} {base : Nat} {v : Value} {l : List (List UInt8 × List UInt8)} (h : FilesAt w base v l) (k : Keeps w w') : FilesAt w' base v l := by
  obtain ⟨vs, h1, h2, h3⟩ := h
  exact ⟨vs, h1, h2.keep k, fun i b x hi hx => (h3 i b x hi hx).keep k⟩
theorem files_cells (l : List (List UInt8 × List UInt8)) (vs : List Value) (h : vs.length = l.length) (i : Nat) (p : List UInt8 × List UInt8) (hp : l[i]? = some p) :
    ∃ x, vs[i]? = some x ∧ ((l.zip vs).flatMap fun p => [strV p.1.1, p.2])[i * 2]? = some (strV p.1) ∧ ((l.zip vs).flatMap fun p => [strV p.1.1, p.2])[i * 2 + 1]? = some x := by
  have hi : i < l.length := (List.getElem?_eq_some_iff.1 hp).1
  have hx : i < vs.length := by omega
  refine ⟨vs[i], List.getElem?_eq_getElem hx, ?_, ?_⟩
  · have := flatMap_get (fun p : (List UInt8 × List UInt8) × Value => [strV p.1.1, p.2]) 2 (fun _ => rfl) (l.zip vs) (i := i) (j := 0) (by decide)
    rw [Nat.add_zero] at this
    rw [this, show (l.zip vs)[i]? = some (p, vs[i]) from List.getElem?_zip_eq_some.2 ⟨hp, List.getElem?_eq_getElem hx⟩]
    rfl
  · have := flatMap_get (fun p : (List UInt8 × List UInt8) × Value => [strV p.1.1, p.2]) 2 (fun _ => rfl) (l.zip vs) (i := i) (j := 1) (by decide)
    rw [this, show (l.zip vs)[i]? = some (p, vs[i]) from List.getElem?_zip_eq_some.2 ⟨hp, List.getElem?_eq_getElem hx⟩]
    rfl
theorem lookF_at {l : List (List UInt8 × List UInt8)} {nm : List UInt8} {i : Nat} {p : List UInt8 × List UInt8} (hp : l[i]? = some p) (hn : p.1 = nm) (hb : ∀ (j : Nat) (q : List UInt8 × List UInt8), j < i → l[j]? = some q → q.1 ≠ nm) : lookF l nm = some p.2 := by
  induction l generalizing i with
  | nil => simp at hp
  | cons a l ih =>
    unfold lookF
    rw [List.find?_cons]
    rcases i with _ | i
    · simp only [List.getElem?_cons_zero, Option.some.injEq] at hp
      subst hp
      simp [hn]
    · have h0 := hb 0 a (by omega) rfl
      simp only [h0, decide_false]
      exact ih (by simpa using hp) (fun j q hj hq => hb (j + 1) q (by omega) (by simpa using hq))
theorem lookF_none {l : List (List UInt8 × List UInt8)} {nm : List UInt8} (hb : ∀ (j : Nat) (q : List UInt8 × List UInt8), l[j]? = some q → q.1 ≠ nm) : lookF l nm = none := by
  unfold lookF
  rw [List.find?_eq_none.2]
  · rfl
  · intro p hp
    obtain ⟨j, hj⟩ := List.getElem?_of_mem hp
    simpa using hb j p hj
/-- what fileOf tells -/
def LookV (w : World) (base : Nat) (r : Option (List UInt8)) (e : Ending) (w' : World) : Prop :=
  Keeps w w' ∧ match r with
  | some b => ∃ A c, e = .returned (.tuple #[.slice A b.length c, .bool true]) ∧ Own w' base 5 1 (.slice A b.length c) b.length (cel b)
  | none => e = .returned (.tuple #[.slice none 0 0, .bool false])
theorem str_eq (a b : List UInt8) : ((str a).toList == (str b).toList) = decide (a = b) := by
  rw [str_toList, str_toList]
  by_cases h : a = b <;> simp [h]
end Go.Proofs.YtamboappeahgpaaGreatDoor
/- The loose sectors of a file counted; files compared. -/
namespace Go.Proofs.YtamboappeahgpaaGreatDoor
open Go.RowKit
set_option linter.unusedSimpArgs false
set_option linter.unusedVariables false
set_option maxRecDepth 100000

def cntN (l : List (List UInt8 × Nat)) (nm : List UInt8) : Nat := (l.filter fun p => decide (p.1 = nm)).length
theorem cntN_take (l : List (List UInt8 × Nat)) (nm : List UInt8) (j : Nat) (p : List UInt8 × Nat) (hp : l[j]? = some p) : cntN (l.take (j + 1)) nm = cntN (l.take j) nm + if p.1 = nm then 1 else 0 := by
  unfold cntN
  rw [List.take_add_one, hp, List.filter_append, List.length_append]
  by_cases h : p.1 = nm <;> simp [h]
theorem cntN_le (l : List (List UInt8 × Nat)) (nm : List UInt8) : cntN l nm ≤ l.length := List.length_filter_le _ _
theorem name_cell (l : List (List UInt8 × Nat)) (i : Nat) (p : List UInt8 × Nat) (hp : l[i]? = some p) : (l.flatMap placeC)[i * 2]? = some (strV p.1) := by
  have := flatMap_get placeC 2 (fun _ => rfl) l (i := i) (j := 0) (by decide)
  rw [Nat.add_zero] at this
  rw [this, hp]
  rfl
theorem places_len (l : List (List UInt8 × Nat)) : (l.flatMap placeC).length = l.length * 2 := flatMap_length placeC 2 (fun _ => rfl) l
theorem bne_str (a b : List UInt8) : ((str a).toList != (str b).toList) = !decide (a = b) := by
  unfold bne
  rw [str_eq]
set_option maxHeartbeats 8000000 in
theorem samefiles_any (base base2 : Nat) (v v2 : Value) (l l2 : List (List UInt8 × List UInt8)) (w : World) (h : FilesAt w base v l) (h2 : FilesAt w base2 v2 l2) (hl : l.length ≤ 9223372036854775807) (hl2 : l2.length ≤ 9223372036854775807) (hb : ∀ p ∈ l, p.2.length ≤ 16777216) :
    Calls Tryz.prog 16 #[v, v2] w fun e w' => e = .returned (.bool (decide (l = l2))) ∧ Keeps w w' := by
  obtain ⟨vs, g1, g2, g3⟩ := h
  obtain ⟨vs2, k1, k2, k3⟩ := h2
  obtain ⟨A, c, rfl, hc, -⟩ := g2.form
  obtain ⟨A2, c2, rfl, hc2, -⟩ := k2.form
  obtain ⟨RR, hRR⟩ : ∃ RR, decide (l = l2) = RR := ⟨_, rfl⟩
  rw [hRR]
  have HRR := Lib.hid hRR
  have G1 := Lib.hid g1
  have G2 := Lib.hid g2
  have G3 := Lib.hid g3
  have L1 := Lib.hid k1
  have L2 := Lib.hid k2
  have L3 := Lib.hid k3
  have HB := Lib.hid hb
  by_cases hll : l.length = l2.length
  · have HL := Lib.hid hll
    rw [← hll]
    obtain ⟨n, hn⟩ : ∃ n, l.length = n := ⟨_, rfl⟩
    rw [hn] at hl ⊢
    have HN := Lib.hid hn
    clear g1 g2 g3 k1 k2 k3 hRR hb hll hc hc2 hl2 hn
    go_enter Tryz.func16, Tryz.ntmps16
    go_wp2_with fail
    go_loopw [5] (fun i wr => ∃ j : Nat, j ≤ n ∧ i = .int .i64 j ∧ l.take j = l2.take j ∧ Keeps w wr) (fun i _ => n - (intOf i).toNat)
    case atStart => exact ⟨0, Nat.zero_le _, rfl, rfl, keeps_refl _⟩
    case round =>
      obtain ⟨j, hj, rfl, hpre, kr⟩ := hrel
      have HP := Lib.hid hpre
      have KR := Lib.hid kr
      clear hpre kr
      by_cases hlt : j < n
      · obtain ⟨p, hp⟩ : ∃ p, l[j]? = some p := ⟨_, List.getElem?_eq_getElem (by have := HN.out; omega)⟩
        obtain ⟨p2, hp2⟩ : ∃ p, l2[j]? = some p := ⟨_, List.getElem?_eq_getElem (by have := HN.out; have := HL.out; omega)⟩
        obtain ⟨x, hx, c0, c1⟩ := files_cells l vs G1.out j p hp
        obtain ⟨x2, hx2, d0, d1⟩ := files_cells l2 vs2 L1.out j p2 hp2
        have OX := Lib.hid (G3.out j p.2 x (by rw [hp]; rfl) hx)
        have OX2 := Lib.hid (L3.out j p2.2 x2 (by rw [hp2]; rfl) hx2)
        obtain ⟨Ax, cx, rfl, -⟩ := OX.out.form
        obtain ⟨Ax2, cx2, rfl, -⟩ := OX2.out.form
        obtain ⟨g, rfl, q0, -⟩ := (G2.out.keep KR.out).cell (j := j * 2) (by rw [G2.out.1]; have := HN.out; omega)
        obtain ⟨g', hg', q1, -⟩ := (G2.out.keep KR.out).cell (j := j * 2 + 1) (by rw [G2.out.1]; have := HN.out; omega)
        obtain rfl : g = g' := by injection hg' with hg'; injection hg'
        obtain ⟨m, rfl, r0, -⟩ := (L2.out.keep KR.out).cell (j := j * 2) (by rw [L2.out.1]; have := HL.out; have := HN.out; omega)
        obtain ⟨m', hm', r1, -⟩ := (L2.out.keep KR.out).cell (j := j * 2 + 1) (by rw [L2.out.1]; have := HL.out; have := HN.out; omega)
        obtain rfl : m = m' := by injection hm' with hm'; injection hm'
        rw [c0] at q0
        rw [c1] at q1
        rw [d0] at r0
        rw [d1] at r1
        unfold strV at q0 r0
        have hjn : (j : Int) < (n : Int) := by omega
        have hpb := HB.out p (List.mem_of_getElem? hp)
        have SM := Lib.hid (fun (V : World) (q : Keeps wr V) => same6_any Ax p.2.length cx p.2 Ax2 p2.2.length cx2 p2.2 V (OX.out.keep (keeps_trans KR.out q)).at_ rfl (OX2.out.keep (keeps_trans KR.out q)).at_ rfl (by omega))
        have TK := Lib.hid (show l.take (j + 1) = l2.take (j + 1) ↔ p = p2 by
          rw [List.take_add_one, List.take_add_one, hp, hp2, HP.out]
          simp)
        have NE := Lib.hid (show p ≠ p2 → RR = false from fun e => by rw [← HRR.out]; exact decide_eq_false fun e2 => e (by rw [e2, hp2] at hp; exact (Option.some.inj hp).symm))
        have hse := bne_str p.1 p2.1
        have hsq := str_eq p.1 p2.1
        clear hp hp2 hx hx2 c0 c1 d0 d1 hg' hm' hpb
        by_cases hn : p.1 = p2.1
        · rw [decide_eq_true hn] at hse hsq
          by_cases hb : p.2 = p2.2
          · have YES := Lib.hid (TK.out.2 (Prod.ext hn hb))
            rw [decide_eq_true hb] at SM
            clear hn hb NE TK
            generalize (str p.1) = s1 at *
            generalize (str p2.1) = s2 at *
            simp only [Bool.not_true] at hse
            have SS := Lib.hid (fun (V : World) (q : Keeps wr V) => show V.cell? ⟨g, j * 2, none⟩ = some (.string s1) ∧ V.cell? ⟨m, j * 2, none⟩ = some (.string s2) ∧ V.cell? ⟨g, j * 2 + 1, none⟩ = some (.slice Ax p.2.length cx) ∧ V.cell? ⟨m, j * 2 + 1, none⟩ = some (.slice Ax2 p2.2.length cx2) from ⟨q.cellOf q0, q.cellOf r0, q.cellOf q1, q.cellOf r1⟩)
            go_wp2_with fail
            go_region_held3 (fun V => V.cell? ⟨g, j * 2, none⟩ = some (.string s1) ∧ V.cell? ⟨m, j * 2, none⟩ = some (.string s2) ∧ V.cell? ⟨g, j * 2 + 1, none⟩ = some (.slice Ax p.2.length cx) ∧ V.cell? ⟨m, j * 2 + 1, none⟩ = some (.slice Ax2 p2.2.length cx2)) (exact SS.out _ (by first | exact keeps_drew _ | exact keeps_drewN _ _ | assumption)) (first
              | (go_at_call 62; refine (SM.out _ (by first | exact keeps_drew _ | exact keeps_drewN _ _)).mono ?_; rintro e w10 ⟨rfl, k10⟩; have kk10 := keeps_trans (keeps_drew wr) k10))
            have K10 := Lib.hid (keeps_trans KR.out kk10)
            go_wp2_with fail
            first
              | exact ⟨⟨j + 1, by omega, by go_num, YES.out, K10.out⟩, by simp [intOf]; omega⟩
              | (refine ⟨?_, ?measure⟩
                 (repeat apply Exists.intro)
                 refine ⟨?rel, rfl⟩
                 case rel => exact ⟨j + 1, by omega, by go_num, YES.out, K10.out⟩
                 case measure => simp [intOf]; omega)
          · have NO := Lib.hid (NE.out (fun e => hb (by rw [e])))
            rw [decide_eq_false hb] at SM
            clear hn hb NE TK
            generalize (str p.1) = s1 at *
            generalize (str p2.1) = s2 at *
            simp only [Bool.not_true] at hse
            have SS := Lib.hid (fun (V : World) (q : Keeps wr V) => show V.cell? ⟨g, j * 2, none⟩ = some (.string s1) ∧ V.cell? ⟨m, j * 2, none⟩ = some (.string s2) ∧ V.cell? ⟨g, j * 2 + 1, none⟩ = some (.slice Ax p.2.length cx) ∧ V.cell? ⟨m, j * 2 + 1, none⟩ = some (.slice Ax2 p2.2.length cx2) from ⟨q.cellOf q0, q.cellOf r0, q.cellOf q1, q.cellOf r1⟩)
            go_wp2_with fail
            go_region_held3 (fun V => V.cell? ⟨g, j * 2, none⟩ = some (.string s1) ∧ V.cell? ⟨m, j * 2, none⟩ = some (.string s2) ∧ V.cell? ⟨g, j * 2 + 1, none⟩ = some (.slice Ax p.2.length cx) ∧ V.cell? ⟨m, j * 2 + 1, none⟩ = some (.slice Ax2 p2.2.length cx2)) (exact SS.out _ (by first | exact keeps_drew _ | exact keeps_drewN _ _ | assumption)) (first
              | (go_at_call 62; refine (SM.out _ (by first | exact keeps_drew _ | exact keeps_drewN _ _)).mono ?_; rintro e w10 ⟨rfl, k10⟩; have kk10 := keeps_trans (keeps_drew wr) k10))
            have K10 := Lib.hid (keeps_trans KR.out kk10)
            go_wp2_with fail
            go_ret
            exact ⟨by rw [NO.out]; rfl, K10.out⟩
        · have NO := Lib.hid (NE.out (fun e => hn (by rw [e])))
          rw [decide_eq_false hn] at hse hsq
          clear hn NE TK SM
          generalize (str p.1) = s1 at *
          generalize (str p2.1) = s2 at *
          simp only [Bool.not_false] at hse
          go_wp2_with fail
          go_quiet (fail)
          have K10 := Lib.hid (keeps_trans KR.out (keeps_drewN wr nq))
          go_wp2_with fail
          go_ret
          exact ⟨by rw [NO.out]; rfl, K10.out⟩
      · obtain rfl : j = n := by omega
        have YES := Lib.hid (show RR = true by
          rw [← HRR.out]
          refine decide_eq_true ?_
          have h1 := HP.out
          have h2 : l.take j = l := by rw [← HN.out, List.take_length]
          have h3 : l2.take j = l2 := by rw [← HN.out, HL.out, List.take_length]
          rwa [h2, h3] at h1)
        clear hlt hj
        go_wp2_with fail
        go_ret
        exact ⟨by rw [YES.out]; rfl, KR.out⟩
  · have NO := Lib.hid (show RR = false by rw [← hRR]; exact decide_eq_false (fun e => hll (by rw [e])))
    have hne : ((l.length : Int) != (l2.length : Int)) = true := by rw [bne_iff_ne]; omega
    generalize l.length = n1 at *
    generalize l2.length = n2 at *
    clear g1 g2 g3 k1 k2 k3 hRR hb hll hc hc2 hl hl2
    go_enter Tryz.func16, Tryz.ntmps16
    go_wp2_with fail
    go_ret
    exact ⟨by rw [NO.out]; rfl, keeps_refl _⟩
end Go.Proofs.YtamboappeahgpaaGreatDoor
