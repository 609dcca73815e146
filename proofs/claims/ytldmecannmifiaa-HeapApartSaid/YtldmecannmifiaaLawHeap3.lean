/- The walk of HeapApart; two heaps of the call's own. -/
import Derived.Test.YtldmecannmifiaaLawHeap2
import Derived.Deep.LoopGhost
import Derived.Deep.Light
namespace Go.Proofs.Ytldmecannmifiaa
open Go.RowKit
set_option linter.unusedSimpArgs false
set_option linter.unusedVariables false
set_option maxRecDepth 100000

/-- Two heaps of the call's own that share no block. -/
structure Two (K : HeapOk) (B : Nat) (w : World) (p : Addr) (F : Nat → Prop) (l : List It) (q : Addr) (G : Nat → Prop) (m : List It) : Prop where
  a : Mine K B w p F l
  b : Mine K B w q G m
  dis : ∀ i, F i → ¬ G i
theorem Two.keep {K : HeapOk} {B : Nat} {w w' : World} {p q : Addr} {F G : Nat → Prop} {l m : List It} (t : Two K B w p F l q G m) (k : Keeps w w') : Two K B w' p F l q G m := ⟨t.a.keep k, t.b.keep k, t.dis⟩
theorem Two.next1 {K : HeapOk} {B : Nat} {w w' : World} {p q : Addr} {F F' G : Nat → Prop} {l l' m : List It} (t : Two K B w p F l q G m) (h : K.H w' p F' l') (u : Turns w w' F F') (hB : B ≤ w.heap.size) : Two K B w' p F' l' q G m :=
  ⟨t.a.next h u hB, ⟨K.same t.b.h (u.only.same fun b hb => ⟨K.lt t.b.h b hb, fun e => t.dis b e hb⟩), t.b.b⟩, fun i hi hg => by
    rcases u.next i hi with e | e
    · exact t.dis i e hg
    · have := K.lt t.b.h i hg; omega⟩
theorem Two.next2 {K : HeapOk} {B : Nat} {w w' : World} {p q : Addr} {F G G' : Nat → Prop} {l m m' : List It} (t : Two K B w p F l q G m) (h : K.H w' q G' m') (u : Turns w w' G G') (hB : B ≤ w.heap.size) : Two K B w' p F l q G' m' :=
  ⟨⟨K.same t.a.h (u.only.same fun b hb => ⟨K.lt t.a.h b hb, fun e => t.dis b hb e⟩), t.a.b⟩, t.b.next h u hB, fun i hi hg => by
    rcases u.next i hg with e | e
    · exact t.dis i hi e
    · have := K.lt t.a.h i hi; omega⟩
/-- two new heaps -/
theorem Two.new {K : HeapOk} {B : Nat} {w1 w2 : World} {p q : Addr} {F G : Nat → Prop} (m : Mine K B w1 p F []) (h : K.H w2 q G []) (hG : ∀ b, G b → w1.heap.size ≤ b) (k : Keeps w1 w2) (hB : B ≤ w1.heap.size) : Two K B w2 p F [] q G [] :=
  ⟨m.keep k, ⟨h, fun b hb => by have := hG b hb; omega⟩, fun i hi hg => by have := K.lt m.h i hi; have := hG i hg; omega⟩
theorem take_one (l : List It) {k : Nat} {e : It} (h : l[k]? = some e) : l.take (k + 1) = l.take k ++ [e] := by
  have hk := (List.getElem?_eq_some_iff.1 h).1
  rw [List.take_succ_eq_append_getElem hk]
  rw [List.getElem?_eq_getElem hk] at h
  rw [Option.some.inj h]
theorem take_perm (l : List It) {k : Nat} {e : It} (h : l[k]? = some e) : (e :: l.take k).Perm (l.take (k + 1)) := by
  rw [take_one l h]
  exact (List.perm_append_singleton e (l.take k)).symm

set_option maxHeartbeats 8000000 in
theorem apartH_walk (K : HeapOk) (A : Option Addr) (n c : Nat) (l : List It) (A' : Option Addr) (n' c' : Nat) (l' : List It) (w : World)
    (hB : At w w.heap.size A (l.flatMap itC)) (hx : ∀ e ∈ l, ItOk e) (hn : n = l.length) (hlen : n ≤ maxLen) (hB' : At w w.heap.size A' (l'.flatMap itC)) (hx' : ∀ e ∈ l', ItOk e) (hn' : n' = l'.length) (hlen' : n' ≤ maxLen) :
    Calls Try.prog 5 #[.slice A n c, .slice A' n' c'] w (Yes w) := by
  unfold maxLen at hlen hlen'
  have WW := Lib.hid (fun W => works_heap K W)
  by_cases h : (600 : Int) < n ∨ (600 : Int) < n'
  · clear hn hB hn' hB'
    by_cases h1 : (600 : Int) < n
    · clear h
      go_enter Try.func5, Try.ntmps5
      go_wp2_with fail
      refine (WW.out _).mono ?_
      rintro e w1 ⟨rfl, k1⟩
      go_wp2_with fail
      go_ret
      exact ⟨rfl, k1⟩
    · have h2 : (600 : Int) < n' := by omega
      clear h
      go_enter Try.func5, Try.ntmps5
      go_wp2_with fail
      refine (WW.out _).mono ?_
      rintro e w1 ⟨rfl, k1⟩
      go_wp2_with fail
      go_ret
      exact ⟨rfl, k1⟩
  · have h1 : (n : Int) ≤ 600 := by omega
    have h2 : (n' : Int) ≤ 600 := by omega
    have HN := Lib.hid hn
    have HN' := Lib.hid hn'
    have HX := Lib.hid hx
    have HX' := Lib.hid hx'
    have HB := Lib.hid hB
    have HB' := Lib.hid hB'
    have LL := Lib.hid (show l.length ≤ 600 by omega)
    have LL' := Lib.hid (show l'.length ≤ 600 by omega)
    clear hn hn' hx hx' hB hB' h
    go_enter Try.func5, Try.ntmps5
    go_wp2_with fail
    refine (K.new w).mono ?_
    rintro e w1 ⟨p, F, rfl, h1, hF, k1⟩
    have M1 : Mine K w.heap.size w1 p F [] := ⟨h1, hF⟩
    clear h1 hF
    go_wp2_with fail
    refine (K.new w1).mono ?_
    rintro e w2 ⟨q, G, rfl, h2, hG, k2⟩
    have T2 := Two.new M1 h2 hG k2 k1.size
    have kk2 := keeps_trans k1 k2
    clear M1 h2 hG k1 k2
    go_wp2_with fail
    go_loopw [7] (fun i wr => ∃ (k : Nat) (F : Nat → Prop), k ≤ n ∧ i = .int .i64 k ∧ Two K w.heap.size wr p F (l.take k) q G [] ∧ Keeps w wr) (fun i _ => n - (intOf i).toNat)
    case atStart => exact ⟨0, F, Nat.zero_le _, rfl, T2, kk2⟩
    case round =>
      obtain ⟨k, F3, hk, rfl, hM, hkp⟩ := hrel
      clear T2 kk2
      by_cases hlt : k < n
      · obtain ⟨x, hx⟩ : ∃ x, l[k]? = some x := ⟨_, List.getElem?_eq_getElem (by have := HN.out; omega)⟩
        obtain ⟨ad, rfl, hbl, hI⟩ := its_at HB.out hx
        obtain ⟨c0, c1⟩ := hI.keep hkp
        have P := Lib.hid (K.push x hM.a.h (HX.out _ (List.mem_of_getElem? hx)) (by have := LL.out; rw [List.length_take]; omega))
        have HXK := Lib.hid hx
        clear hx
        go_wp2_with fail
        refine P.out.mono ?_
        rintro e w3 ⟨F4, rfl, h3, t3⟩
        go_wp2_with fail
        go_roundw
        case rel => exact ⟨k + 1, F4, by omega, by go_num, hM.next1 (K.perm h3 (take_perm l HXK.out)) t3 hkp.size, t3.keeps hkp hM.a.b⟩
        case measure => simp [intOf]; omega
      · obtain rfl : k = n := by omega
        have e1 : l.take k = l := by rw [HN.out, List.take_length]
        rw [e1] at hM
        clear hlt hk e1
        obtain ⟨wo, rfl⟩ : ∃ wo : World, wo = wr := ⟨_, rfl⟩
        go_wp2_with fail
        go_loopw [8] (fun i wr => ∃ (j : Nat) (G : Nat → Prop), j ≤ n' ∧ i = .int .i64 j ∧ Two K w.heap.size wr p F3 l q G (l'.take j) ∧ Keeps w wr) (fun i _ => n' - (intOf i).toNat)
        case atStart => exact ⟨0, G, Nat.zero_le _, rfl, hM, hkp⟩
        case round =>
          clear hM hkp
          obtain ⟨j, G3, hj, rfl, hM, hkp⟩ := hrel
          by_cases hlt : j < n'
          · obtain ⟨x, hx⟩ : ∃ x, l'[j]? = some x := ⟨_, List.getElem?_eq_getElem (by have := HN'.out; omega)⟩
            obtain ⟨ad, rfl, hbl, hI⟩ := its_at HB'.out hx
            obtain ⟨c0, c1⟩ := hI.keep hkp
            have P := Lib.hid (K.push x hM.b.h (HX'.out _ (List.mem_of_getElem? hx)) (by have := LL'.out; rw [List.length_take]; omega))
            have HXK := Lib.hid hx
            clear hx
            go_wp2_with fail
            refine P.out.mono ?_
            rintro e w3 ⟨G4, rfl, h3, t3⟩
            go_wp2_with fail
            go_roundw
            case rel => exact ⟨j + 1, G4, by omega, by go_num, hM.next2 (K.perm h3 (take_perm l' HXK.out)) t3 hkp.size, t3.keeps hkp hM.b.b⟩
            case measure => simp [intOf]; omega
          · obtain rfl : j = n' := by omega
            have e1 : l'.take j = l' := by rw [HN'.out, List.take_length]
            rw [e1] at hM
            clear hlt hj e1
            obtain ⟨wp, rfl⟩ : ∃ wp : World, wp = wr := ⟨_, rfl⟩
            go_wp2_with fail
            go_loopg [9] l'.length (fun g _ wr => ∃ (G : Nat → Prop) (m : List It), g = m.length ∧ m.length ≤ 600 ∧ (∀ e ∈ m, ItOk e) ∧ Two K w.heap.size wr p F3 l q G m ∧ Keeps w wr)
            case atStart => exact ⟨G3, l', rfl, LL'.out, HX'.out, hM, hkp⟩
            case round =>
              clear hM hkp
              obtain ⟨G5, m, rfl, hml, hmx, hM, hkp⟩ := hrel
              have HM := Lib.hid hmx
              have HML := Lib.hid hml
              have HMM := Lib.hid hM
              have P0 := Lib.hid (K.len hM.b.h (by omega))
              clear hmx hM
              by_cases hz : m = []
              · subst hz
                go_wp2_with fail
                refine P0.out.mono ?_
                rintro e w4 ⟨rfl, k4⟩
                have hM4 := HMM.out.keep k4
                have hk4 := keeps_trans hkp k4
                clear k4
                have P1 := Lib.hid (K.len hM4.a.h (by have := LL.out; omega))
                rw [← HN.out] at P1
                go_wp2_with fail
                refine P1.out.mono ?_
                rintro e w5 ⟨rfl, k5⟩
                go_wp2_with fail
                refine (WW.out _).mono ?_
                rintro e w6 ⟨rfl, k6⟩
                go_wp2_with fail
                go_ret
                exact ⟨rfl, keeps_trans hk4 (keeps_trans k5 k6)⟩
              · have hpos : 0 < m.length := List.length_pos_iff.2 hz
                obtain ⟨x, hx⟩ := least_of hz
                have hle : (m.erase x).length = m.length - 1 := List.length_erase_of_mem hx.mem
                have hi : (0 : Int) < (m.length : Int) := by omega
                obtain ⟨b, hb⟩ : ∃ b, (m.erase x).length = b := ⟨_, rfl⟩
                have hi1 : (m.length : Int) - 1 = (b : Int) := by omega
                have HB5 := Lib.hid hb
                have hi2 : (m.length : Int) ≤ 600 := by omega
                have hm5 : ∀ e ∈ m.erase x, ItOk e := fun e he => HM.out e (List.mem_of_mem_erase he)
                have HX5 := Lib.hid (And.intro hx (And.intro hm5 (And.intro hle hpos)))
                clear hx hm5 hle hz hpos hml hb
                go_wp2_with fail
                refine P0.out.mono ?_
                rintro e w4 ⟨rfl, k4⟩
                have hM4 := HMM.out.keep k4
                have hk4 := keeps_trans hkp k4
                clear k4
                go_wp2_with fail
                refine (K.len hM4.b.h (by have := HML.out; omega)).mono ?_
                rintro e w5 ⟨rfl, k5⟩
                have hM5 := hM4.keep k5
                have hk5 := keeps_trans hk4 k5
                clear k5 hM4 hk4
                go_wp2_with fail
                refine (K.pop x hM5.b.h HX5.out.1 HM.out (by have := HML.out; omega)).mono ?_
                rintro e w6 ⟨G6, rfl, h6, t6⟩
                have hM6 := hM5.next2 h6 t6 hk5.size
                have hk6 := t6.keeps hk5 hM5.b.b
                clear h6 t6 hM5 hk5
                go_wp2_with fail
                refine (K.len hM6.b.h (by have := HML.out; have := HX5.out.2.2; omega)).mono ?_
                rintro e w7 ⟨rfl, k7⟩
                rw [HB5.out]
                go_wp2_with fail
                go_roundg (m.erase x).length
                case measure => go_light; have := HX5.out.2.2; omega
                case rel => go_light; exact ⟨G6, m.erase x, rfl, by have := HML.out; have := HX5.out.2.2; omega, HX5.out.2.1, hM6.keep k7, keeps_trans hk6 k7⟩
end Go.Proofs.Ytldmecannmifiaa
