/- The contracts of milepostref05's Eq and Copy. -/
import Derived.Test.YtbalejfloieiiaaDoorProg
import Derived.Test.YtbalejfloieiiaaDoorEdges
import Derived.Deep.QuietTactic
import Derived.BigQuiet
import Derived.Outline
namespace Go.Proofs.YtbalejfloieiiaaDoor
open Go.RowKit
set_option linter.unusedSimpArgs false
set_option linter.unusedVariables false
set_option maxRecDepth 100000

theorem info_edge : (Tryd.prog.info? 31).map (fun i => (i.zero, i.size, i.bytes)) = some (some (.agg #[.int .u32 0, .int .u32 0, .int .u64 0, .int .u32 0]), 4, 24) := by kernel_rfl
theorem edsC_one (l : List Ed) : ∀ u ∈ edsC l, u.oneCell' = true := by
  intro u hu
  obtain ⟨e, _, he⟩ := List.mem_flatMap.1 hu
  simp only [edC, List.mem_cons, List.not_mem_nil, or_false] at he
  rcases he with rfl | rfl | rfl | rfl <;> rfl
/-- New memory with these edges. -/
def NewE (w : World) (l : List Ed) (e : Ending) (w' : World) : Prop := ∃ v, e = .returned v ∧ Own w' w.heap.size 31 4 v l.length (edsC l) ∧ Keeps w w'

set_option maxHeartbeats 1000000 in
theorem refCopy_any (A : Option Addr) (n c : Nat) (l : List Ed) (w : World) (hB : At w w.heap.size A (edsC l)) (hn : n = l.length) (hlen : n ≤ 1000000000) :
    Calls Tryd.prog 24 #[.slice A n c] w (NewE w l) := by
  obtain ⟨i0, hi, hz0, hz1, hz2⟩ := info_parts info_edge
  have HB := Lib.hid hB
  subst hn
  clear hB
  go_enter Tryd.func24, Tryd.ntmps24
  go_wp2_with (at_builtin; refine wpList_app _ rfl _ _ 36 rfl w.heap.size 31 i0 (.agg #[.int .u32 0, .int .u32 0, .int .u64 0, .int .u32 0]) 4 24 Tryd.underlying36 hi hz0 hz1 hz2 rfl (by decide) (.slice none 0 0) 0 [] rfl (Own.nil _ _ _ _) w.heap.size A l.length c (edsC l) rfl (edsC_length l) HB.out (edsC_one l) (by unfold maxLen; omega) (by omega) (Nat.le_refl _) ?_)
  intro v' w3 hown hgrow hblk
  have hkp : Keeps w w3 := keeps_grown hgrow w.heap.size (Nat.le_refl _) (fun k hk => by cases hk)
  clear hgrow hblk
  go_wp2_with fail
  go_ret
  exact ⟨_, rfl, hown, hkp⟩

set_option maxHeartbeats 4000000 in
theorem refEq_any (A : Option Addr) (n c : Nat) (l : List Ed) (A' : Option Addr) (n' c' : Nat) (l' : List Ed) (w : World) (hB : At w w.heap.size A (edsC l)) (hn : n = l.length) (hB' : At w w.heap.size A' (edsC l')) (hn' : n' = l'.length) (hlen : n ≤ 1000000000) (hlen' : n' ≤ 1000000000) :
    Calls Tryd.prog 23 #[.slice A n c, .slice A' n' c'] w fun e w' => (e = .returned (.bool true) ∧ l = l' ∨ e = .returned (.bool false) ∧ l ≠ l') ∧ Keeps w w' := by
  have HB := Lib.hid hB
  have HB' := Lib.hid hB'
  have HN := Lib.hid hn
  have HN' := Lib.hid hn'
  clear hB hB' hn hn'
  by_cases h : n = n'
  · subst h
    go_enter Tryd.func23, Tryd.ntmps23
    go_wp2_with fail
    go_loopw [5] (fun i wr => ∃ k : Nat, k ≤ n ∧ i = .int .i64 k ∧ (∀ j, j < k → l[j]? = l'[j]?) ∧ Keeps w wr) (fun i _ => n - (intOf i).toNat)
    case atStart => exact ⟨0, Nat.zero_le _, rfl, fun j hj => by omega, keeps_refl _⟩
    case round =>
      obtain ⟨k, hk, rfl, hup, hkp⟩ := hrel
      have HU := Lib.hid hup
      clear hup
      by_cases hlt : k < n
      · obtain ⟨e, he⟩ : ∃ e, l[k]? = some e := ⟨_, List.getElem?_eq_getElem (by have := HN.out; omega)⟩
        obtain ⟨f, hf⟩ : ∃ f, l'[k]? = some f := ⟨_, List.getElem?_eq_getElem (by have := HN'.out; omega)⟩
        obtain ⟨ad, rfl, _, hE⟩ := eds_at HB.out he
        obtain ⟨ad', rfl, _, hF⟩ := eds_at HB'.out hf
        obtain ⟨a0, a1, a2, a3⟩ := hE.keep hkp
        obtain ⟨b0, b1, b2, b3⟩ := hF.keep hkp
        have HE := Lib.hid he
        have HF := Lib.hid hf
        have k0 : (0 : Int) ≤ (k : Int) := by omega
        have kn : (k : Int) < (n : Int) := by omega
        clear he hf
        by_cases heq : e = f
        · subst heq
          go_wp2_with fail
          go_quiet (fail)
          go_wp2_with fail
          go_roundw
          case rel => exact ⟨k + 1, by omega, by go_num, fun j hj => by
            by_cases hjk : j = k
            · subst hjk; rw [HE.out, HF.out]
            · exact HU.out j (by omega), keeps_trans hkp (keeps_drewN _ _)⟩
          case measure => simp [intOf]; omega
        · have hne : l ≠ l' := fun h => heq (by have := HE.out; rw [h, HF.out] at this; exact (Option.some.inj this).symm)
          have HNE := Lib.hid hne
          have hd : e.t ≠ f.t ∨ (e.t = f.t ∧ e.h ≠ f.h) ∨ (e.t = f.t ∧ e.h = f.h ∧ e.x ≠ f.x) ∨ (e.t = f.t ∧ e.h = f.h ∧ e.x = f.x ∧ e.m ≠ f.m) := by
            by_cases h1 : e.t = f.t
            · by_cases h2 : e.h = f.h
              · by_cases h3 : e.x = f.x
                · by_cases h4 : e.m = f.m
                  · exact absurd (by cases e; cases f; simp_all) heq
                  · exact .inr (.inr (.inr ⟨h1, h2, h3, h4⟩))
                · exact .inr (.inr (.inl ⟨h1, h2, h3⟩))
              · exact .inr (.inl ⟨h1, h2⟩)
            · exact .inl h1
          have ways : ((e.t : Int) == (f.t : Int)) = false ∨ (((e.t : Int) == (f.t : Int)) = true ∧ ((e.h : Int) == (f.h : Int)) = false) ∨ (((e.t : Int) == (f.t : Int)) = true ∧ ((e.h : Int) == (f.h : Int)) = true ∧ ((e.x : Int) == (f.x : Int)) = false) ∨ (((e.t : Int) == (f.t : Int)) = true ∧ ((e.h : Int) == (f.h : Int)) = true ∧ ((e.x : Int) == (f.x : Int)) = true ∧ ((e.m : Int) == (f.m : Int)) = false) := by
            simp only [beq_eq_false_iff_ne, beq_iff_eq, ne_eq, Int.natCast_inj]
            exact hd
          clear heq hne hd
          rcases ways with w1 | ⟨w1, w2⟩ | ⟨w1, w2, w3⟩ | ⟨w1, w2, w3, w4⟩
          all_goals
            go_wp2_with fail
            go_quiet (fail)
            go_wp2_with fail
            go_ret
            exact ⟨.inr ⟨rfl, HNE.out⟩, keeps_trans hkp (keeps_drewN _ _)⟩
      · obtain rfl : k = n := by omega
        have hl : l = l' := List.ext_getElem? fun j => by
          by_cases hj : j < k
          · exact HU.out j hj
          · rw [List.getElem?_eq_none (by have := HN.out; omega), List.getElem?_eq_none (by have := HN'.out; omega)]
        have HLL := Lib.hid hl
        clear hl hlt hk
        go_wp2_with fail
        go_ret
        exact ⟨.inl ⟨rfl, HLL.out⟩, hkp⟩
  · have hne : l ≠ l' := fun e => h (by rw [HN.out, HN'.out, e])
    have HNE := Lib.hid hne
    have h' : ((n : Int) == (n' : Int)) = false := by rw [beq_eq_false_iff_ne]; omega
    clear hne h
    go_enter Tryd.func23, Tryd.ntmps23
    go_wp2_with fail
    go_ret
    exact ⟨.inr ⟨rfl, HNE.out⟩, keeps_refl _⟩
end Go.Proofs.YtbalejfloieiiaaDoor
