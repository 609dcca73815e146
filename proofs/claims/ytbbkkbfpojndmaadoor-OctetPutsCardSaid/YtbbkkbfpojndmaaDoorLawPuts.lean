/- The walk of OctetPuts. -/
import Derived.Test.YtbbkkbfpojndmaaDoorLawGets
import Derived.Test.YtbbkkbfpojndmaaDoorRefOct
import Derived.Test.YtbbkkbfpojndmaaDoorWorksA
import Derived.Test.YtbbkkbfpojndmaaDoorApart
import Derived.Deep.RegionHeld3
namespace Go.Proofs.YtbbkkbfpojndmaaDoor
open Go.RowKit
set_option linter.unusedSimpArgs false
set_option linter.unusedVariables false

theorem Own.front {w : World} {base : Nat} {e : TypeId} {ad : Addr} {n m cap : Nat} {xs ys : List Value} (h : Own w base e 1 (.slice (some ad) n cap) n (xs ++ ys)) (hm : m = xs.length) : Own w base e 1 (.slice (some ad) m cap) m xs := by
  subst hm
  have hl := h.1
  rw [List.length_append, Nat.mul_one] at hl
  refine ⟨by rw [Nat.mul_one], ?_⟩
  rcases h.2 with ⟨hv, _⟩ | ⟨g, cap', cur, fz, hv, hb, hg, hz, h1, h2, h3, h4⟩
  · cases hv
  · injection hv with hA hn hc
    injection hA with hA
    subst hA; subst hc
    refine .inr ⟨g, cap, cur, fz, rfl, hb, hg, hz, by omega, h2, h3, ?_⟩
    have e1 := congrArg (List.take xs.length) h4
    rw [List.take_take, Nat.mul_one, Nat.min_eq_left (by omega), List.take_left] at e1
    rw [Nat.mul_one]
    exact e1

theorem eqBytes_one (A : Option Addr) (n c : Nat) (l : List UInt8) (B : Option Addr) (m d : Nat) (w : World) (hA : Bs w A l) (hn : n = l.length) (hB : Bs w B l) (hm : m = l.length) :
    Calls Tryd.prog 17 #[.slice A n c, .slice B m d] w fun e w' => e = .returned (.bool true) ∧ w = w' := by
  have h := eqBytes_any A n c l B m d l w hA hn hB hm
  rw [decide_eq_true rfl] at h
  exact h

/-- What Roomy leaves, and that the list is the call's own. -/
def RoomedOwn (w : World) (l : List UInt8) (e : Ending) (w' : World) : Prop := ∃ ad cap, e = .returned (.slice (some ad) l.length cap) ∧ Room w w' l ad cap ∧ Own w' w.heap.size 5 1 (.slice (some ad) l.length cap) l.length (cel l)

set_option maxHeartbeats 400000 in
theorem roomy_own (A : Option Addr) (n c : Nat) (l : List UInt8) (w : World) (hB : Bs w A l) (hn : n = l.length) (hlen : n ≤ 140737488354000) :
    Calls Tryd.prog 12 #[.slice A n c] w (RoomedOwn w l) := by
  subst hn
  have hB1 : Bs w.drew A l := hB.keep (keeps_drew _)
  have k1 := convTo w.drew A l l.length c rfl hB1
  have k2 := convFrom w.drew (str l ++ str gd)
  have hgl : gd.length = 7 := rfl
  have hcat : ¬ (9223372036854775807 < (str l).size + (str gd).size) := by rw [str_size, str_size, hgl]; omega
  have hcap : (l.length : Int) ≤ (grownCap w.drew ((str l).size + (str gd).size) 0 5 : Nat) := by
    have := grownCap_ge w.drew ((str l).size + (str gd).size) 0 5
    have e := str_size l
    omega
  have fin : RoomedOwn w l (.returned (.slice (some ⟨w.heap.size, 0, none⟩) l.length (grownCap w.drew ((str l).size + (str gd).size) 0 5))) (Lib.bytesWorld w.drew 5 (str l ++ str gd)) := by
    have hs : (str l).size + (str gd).size = (l ++ gd).length := by rw [str_size, str_size, List.length_append]
    have ho := bytesWorld_own w.drew 5 (l ++ gd) (by rw [List.length_append, hgl]; unfold maxLen; omega)
    rw [hs, str_append]
    refine ⟨_, _, rfl, ⟨(Own.at_ ho), ?_, ?_, Nat.le_refl _, keeps_trans (keeps_drew w) (bytesWorld_keeps _ _ _)⟩, ?_⟩
    · have := grownCap_ge w.drew (l ++ gd).length 0 5
      have e : (l ++ gd).length = l.length + 7 := by rw [List.length_append, hgl]
      exact Nat.le_trans (Nat.le_of_eq e.symm) this
    · exact grownCap_le_maxLen _ _ _ _ (by rw [List.length_append, hgl]; unfold maxLen; omega)
    · rw [cel_append] at ho
      exact Own.front ho (cel_length l).symm
  have F := Lib.hid fin
  clear hB hB1 fin hgl
  go_enter Tryd.func12, Tryd.ntmps12
  go_wp2
  refine wp_region_still_tail 4 (by kernel_rfl) (by kernel_rfl) ?_
  change wpStill _ _ w.drew _ _ _
  simp only [List.take_succ_cons, List.take_zero, List.drop_succ_cons, List.drop_zero]
  still_step
  still_step
  still_call ((guard_any _).mono fun _ _ h => ⟨h.1, h.2.symm⟩)
  still_step
  refine wpStill_nil ?_
  change wpList _ _ _ _ _ w.drew
  go_wp2
  go_ret
  exact F.out

theorem ne_ranges {v v' : Value} {a b c d : Nat} (h : ∀ g, v.ownBlock = some g → a ≤ g ∧ g < b) (h' : ∀ g, v'.ownBlock = some g → c ≤ g ∧ g < d) (hd : b ≤ c ∨ d ≤ a) : v.ownBlock = none ∨ v.ownBlock ≠ v'.ownBlock := by
  cases hv : v.ownBlock with
  | none => exact .inl rfl
  | some g =>
    right
    intro e
    have h1 := h g hv
    have h2 := h' g e.symm
    omega

/-- three rows that lie in three ranges, and the list of them in new memory -/
theorem ahead3 {w : World} {base a1 b1 a2 b2 a3 b3 : Nat} {v1 v2 v3 : Value} {l1 l2 l3 : List UInt8}
    (o1 : Own w base 5 1 v1 l1.length (cel l1)) (o2 : Own w base 5 1 v2 l2.length (cel l2)) (o3 : Own w base 5 1 v3 l3.length (cel l3)) (hb : base ≤ w.heap.size)
    (h1 : ∀ g, v1.ownBlock = some g → a1 ≤ g ∧ g < b1) (h2 : ∀ g, v2.ownBlock = some g → a2 ≤ g ∧ g < b2) (h3 : ∀ g, v3.ownBlock = some g → a3 ≤ g ∧ g < b3)
    (h12 : b1 ≤ a2 ∨ b2 ≤ a1) (h13 : b1 ≤ a3 ∨ b3 ≤ a1) (h23 : b2 ≤ a3 ∨ b3 ≤ a2)
    (s1 : l1.length ≤ 1073741824) (s2 : l2.length ≤ 1073741824) (s3 : l3.length ≤ 1073741824) :
    Ahead (w.alloc (.cells #[v1, v2, v3] 22)) base [(v1, l1), (v2, l2), (v3, l3)] (.slice (some ⟨w.heap.size, 0, none⟩) 3 3) := by
  have k := keeps_alloc w (.cells #[v1, v2, v3] 22)
  have three : ∀ {Q : Nat → Value × List UInt8 → Prop}, Q 0 (v1, l1) → Q 1 (v2, l2) → Q 2 (v3, l3) → ∀ (j : Nat) (p : Value × List UInt8), [(v1, l1), (v2, l2), (v3, l3)][j]? = some p → Q j p := by
    intro Q q0 q1 q2 j p hp
    rcases j with _ | _ | _ | j
    · cases hp; exact q0
    · cases hp; exact q1
    · cases hp; exact q2
    · cases hp
  refine ⟨three (Q := fun _ p => Own _ base 5 1 p.1 p.2.length (cel p.2)) (o1.keep k) (o2.keep k) (o3.keep k), ?_, ?_, Nat.le_trans hb k.size, by simp, three (Q := fun _ p => p.2.length ≤ 1073741824) s1 s2 s3⟩
  · intro i j p q hij hp hq
    have P : ∀ (j : Nat) (q : Value × List UInt8), [(v1, l1), (v2, l2), (v3, l3)][j]? = some q → ∀ (i : Nat) (p : Value × List UInt8), [(v1, l1), (v2, l2), (v3, l3)][i]? = some p → i ≠ j → p.1.ownBlock = none ∨ p.1.ownBlock ≠ q.1.ownBlock := by
      refine three (Q := fun j q => ∀ (i : Nat) (p : Value × List UInt8), [(v1, l1), (v2, l2), (v3, l3)][i]? = some p → i ≠ j → p.1.ownBlock = none ∨ p.1.ownBlock ≠ q.1.ownBlock) ?_ ?_ ?_
      · exact three (Q := fun i p => i ≠ 0 → p.1.ownBlock = none ∨ p.1.ownBlock ≠ v1.ownBlock) (fun e => absurd rfl e) (fun _ => ne_ranges h2 h1 (by omega)) (fun _ => ne_ranges h3 h1 (by omega))
      · exact three (Q := fun i p => i ≠ 1 → p.1.ownBlock = none ∨ p.1.ownBlock ≠ v2.ownBlock) (fun _ => ne_ranges h1 h2 (by omega)) (fun e => absurd rfl e) (fun _ => ne_ranges h3 h2 (by omega))
      · exact three (Q := fun i p => i ≠ 2 → p.1.ownBlock = none ∨ p.1.ownBlock ≠ v3.ownBlock) (fun _ => ne_ranges h1 h3 (by omega)) (fun _ => ne_ranges h2 h3 (by omega)) (fun e => absurd rfl e)
    exact P j q hq i p hp hij
  · exact ⟨rfl, .inr ⟨w.heap.size, 3, #[v1, v2, v3], (0, 0), rfl, hb, heap_alloc_new w _, .inl rfl, Nat.le_refl _, by simp [maxLen], rfl, rfl⟩⟩

set_option maxHeartbeats 2000000 in
theorem puts_walk (A : Option Addr) (n c : Nat) (l : List UInt8) (x : Nat) (hx : x < 18446744073709551616) (s : Int) (w : World) (hS : Sizes w) (hB : Bs w A l) (hn : n = l.length) (hc : n ≤ c) (hlen : n ≤ maxLen) :
    Calls Tryd.prog 4 #[.slice A n c, .int .u64 x, .int .i64 s] w (Yes w) := by
  unfold maxLen at hlen
  by_cases h : (131072 : Int) < n
  · have W := Lib.hid (works_any w hS)
    have HN := Lib.hid hn
    clear hn hB
    go_enter Tryd.func4, Tryd.ntmps4
    go_wp2_with (go_at_call 11; refine W.out.mono ?_; rintro e w1 ⟨rfl, k1⟩)
    go_ret
    exact ⟨rfl, k1⟩
  · have hm : n ≤ 131072 := by omega
    have R := Lib.hid (roomy_own A n c l w hB hn (by omega))
    have HN := Lib.hid hn
    clear hn
    go_enter Tryd.func4, Tryd.ntmps4
    go_wp2_with fail
    refine R.out.mono ?_
    rintro e w1 ⟨ad, cap, rfl, r, o⟩
    have k1 := r.kept
    have hin : Bs w1 (some ad) l := by have := r.bytes.take l.length; rwa [List.take_left] at this
    have hcap : n + 7 ≤ cap := by rw [HN.out]; exact r.fits
    have hcap' : n ≤ cap := by omega
    have RB := Lib.hid r.bytes
    have O := Lib.hid o
    rw [← HN.out]
    clear r o
    go_wp2_with fail
    refine (put_any (some ad) n cap l x s w1 (hS.keep k1) hin HN.out hx (by omega)).mono ?_
    have hLl : (l ++ if isSz s = true then nb s.toNat x else []).length ≤ n + 8 := by
      rw [HN.out, List.length_append]
      split
      · rename_i hs
        have := isSz_true hs
        rw [nb_length]
        omega
      · simp
    rintro e w2 ⟨va, rfl, oa, q2⟩
    have P2 := Lib.hid (fun W (k : Keeps w1 W) => put_any (some ad) n cap l x s W (hS.keep (keeps_trans k1 k)) (hin.keep k) HN.out hx (by omega))
    have PR := Lib.hid (fun W (k : Keeps w W) => refPut_any A n c l x s W (hB.keep k) HN.out hx (by omega))
    generalize (l ++ if isSz s = true then nb s.toNat x else []) = L at *
    obtain ⟨A2, c2, rfl, hc2, hm2, -, -⟩ := oa.form
    have OA := Lib.hid oa
    clear oa
    go_wp2_with fail
    refine (PR.out w2 (keeps_trans k1 q2)).mono ?_
    rintro e w3 ⟨v3, rfl, o3, q3⟩
    obtain ⟨A3, c3, rfl, hc3, -, -, -⟩ := o3.form
    have B3 : Bs w3 A3 L := Own.at_ o3
    have B2 : Bs w3 A2 L := Own.at_ (OA.out.keep q3)
    have q13 := keeps_trans q2 q3
    clear o3
    go_wp2_with fail
    refine (eqBytes_one A2 L.length c2 L A3 L.length c3 w3 B2 rfl B3 rfl).mono ?_
    rintro e w' ⟨rfl, rfl⟩
    go_wp2_with fail
    refine (kept_any ad n cap l A n c w3 (RB.out.keep q13) HN.out hcap (by omega) (hB.keep (keeps_trans k1 q13)) HN.out).mono ?_
    rintro e w4 ⟨rfl, q4⟩
    have q14 := keeps_trans q13 q4
    clear B2 B3
    go_wp2_with fail
    refine (P2.out w4 q14).mono ?_
    rintro e w5 ⟨v5, rfl, oc, q5⟩
    obtain ⟨A5, c5, rfl, hc5, hm5, -, -⟩ := oc.form
    have OC := Lib.hid oc
    clear oc
    have q15 := keeps_trans q14 q5
    go_wp2_with fail
    have q25 := keeps_trans q3 (keeps_trans q4 q5)
    have AH := Lib.hid (ahead3 (base := w.heap.size) ((OA.out.keep q25).base_le k1.size) (OC.out.base_le (keeps_trans k1 q14).size) ((show Own w1 w.heap.size 5 1 (.slice (some ad) n cap) l.length (cel l) by have := O.out; rwa [← HN.out] at this ⊢).keep q15) (keeps_trans k1 q15).size
      OA.out.lt OC.out.lt (show ∀ g, (Value.slice (some ad) n cap).ownBlock = some g → w.heap.size ≤ g ∧ g < w1.heap.size from fun g hg => O.out.lt g hg) (.inl (keeps_trans q3 q4).size) (.inr (Nat.le_refl _)) (.inr q14.size)
      (by omega) (by omega) (by rw [← HN.out]; omega))
    refine (apart_any (some ⟨w5.heap.size, 0, none⟩) 3 3 _ w.heap.size _ AH.out rfl (Nat.le_refl _)).mono ?_
    rintro e w7 ⟨rfl, only⟩
    have k7 : Keeps w w7 := Below.trans (keeps_trans (keeps_trans k1 q15) (keeps_alloc _ _)) (only.below (fun k ⟨j, p, hp, hk⟩ => ((AH.out.rows j p hp).lt k hk).1) AH.out.base)
    clear only AH
    go_wp2_with fail
    refine (works_any w7 (hS.keep k7)).mono ?_
    rintro e w8 ⟨rfl, q8⟩
    go_wp2_with fail
    go_ret
    exact ⟨rfl, keeps_trans k7 q8⟩
end Go.Proofs.YtbbkkbfpojndmaaDoor
