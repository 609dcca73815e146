/- The walk of HeapTurned. -/
import Derived.Test.YtldmecannmifiaaLawHeap3
namespace Go.Proofs.Ytldmecannmifiaa
open Go.RowKit
set_option linter.unusedSimpArgs false
set_option linter.unusedVariables false
set_option maxRecDepth 100000

/-- the list from its place s on, then its beginning; and all of that backwards -/
def rotL (l : List It) (s : Nat) : List It := l.drop s ++ l.take s
def turnL (l : List It) (by' : Nat) : List It := (rotL l (by' % l.length)).reverse
theorem turnL_perm (l : List It) (b : Nat) : (turnL l b).Perm l := by
  refine (List.reverse_perm _).trans ?_
  unfold rotL
  refine List.perm_append_comm.trans ?_
  rw [List.take_append_drop]
theorem turnL_length (l : List It) (b : Nat) : (turnL l b).length = l.length := (turnL_perm l b).length_eq
theorem rotL_get (l : List It) (b j : Nat) (hj : j < l.length) : (rotL l (b % l.length))[j]? = l[(j + b) % l.length]? := by
  have hs : b % l.length < l.length := Nat.mod_lt _ (by omega)
  rw [← Nat.add_mod_mod j b]
  generalize b % l.length = s at *
  unfold rotL
  by_cases h : j < l.length - s
  · rw [List.getElem?_append_left (by rw [List.length_drop]; omega), List.getElem?_drop, Nat.mod_eq_of_lt (by omega)]
    congr 1
    omega
  · rw [List.getElem?_append_right (by rw [List.length_drop]; omega), List.length_drop, List.getElem?_take]
    have e : (j + s) % l.length = j + s - l.length := by rw [Nat.mod_eq_sub_mod (by omega), Nat.mod_eq_of_lt (by omega)]
    rw [e, if_pos (by omega)]
    congr 1
    omega
theorem turnL_get (l : List It) (b k : Nat) (hk : k < l.length) : (turnL l b)[k]? = l[(l.length - 1 - k + b) % l.length]? := by
  have hl : (rotL l (b % l.length)).length = l.length := by have := turnL_length l b; unfold turnL at this; rwa [List.length_reverse] at this
  unfold turnL
  rw [List.getElem?_reverse (by rw [hl]; exact hk), hl, rotL_get l b _ (by omega)]

set_option maxHeartbeats 8000000 in
theorem turnedH_walk (K : HeapOk) (A : Option Addr) (n c : Nat) (l : List It) (b : Nat) (hb : b < 256) (w : World)
    (hB : At w w.heap.size A (l.flatMap itC)) (hx : ∀ e ∈ l, ItOk e) (hn : n = l.length) (hlen : n ≤ maxLen) :
    Calls Try.prog 8 #[.slice A n c, .int .u8 b] w (Yes w) := by
  unfold maxLen at hlen
  have WW := Lib.hid (fun W => works_heap K W)
  by_cases h : (600 : Int) < n
  · clear hn hB
    go_enter Try.func8, Try.ntmps8
    go_wp2_with fail
    refine (WW.out _).mono ?_
    rintro e w1 ⟨rfl, k1⟩
    go_wp2_with fail
    go_ret
    exact ⟨rfl, k1⟩
  · have h1 : (n : Int) ≤ 600 := by omega
    have HN := Lib.hid hn
    have HX := Lib.hid hx
    have HB := Lib.hid hB
    have LL := Lib.hid (show l.length ≤ 600 by omega)
    clear hn hx hB h
    go_enter Try.func8, Try.ntmps8
    go_wp2_with fail
    refine (K.new w).mono ?_
    rintro e w1 ⟨p, F, rfl, h1, hF, k1⟩
    have M1 : Mine K w.heap.size w1 p F [] := ⟨h1, hF⟩
    clear h1 hF
    go_wp2_with fail
    refine (K.new w1).mono ?_
    rintro e w2 ⟨q, G, rfl, h2, hG, k2⟩
    have T2 := Two.new M1 h2 hG k2 k1.size
    have kk2 := keeps_trans k1 k2
    clear M1 h2 hG k1 k2
    go_wp2_with fail
    go_loopw [7] (fun i wr => ∃ (k : Nat) (F G : Nat → Prop), k ≤ n ∧ i = .int .i64 k ∧ Two K w.heap.size wr p F (l.take k) q G ((turnL l b).take k) ∧ Keeps w wr) (fun i _ => n - (intOf i).toNat)
    case atStart => exact ⟨0, F, G, Nat.zero_le _, rfl, T2, kk2⟩
    case round =>
      obtain ⟨k, F3, G3, hk, rfl, hM, hkp⟩ := hrel
      clear T2 kk2
      by_cases hlt : k < n
      · obtain ⟨x, hx⟩ : ∃ x, l[k]? = some x := ⟨_, List.getElem?_eq_getElem (by have := HN.out; omega)⟩
        obtain ⟨s, hs⟩ : ∃ s, s = (n - 1 - k + b) % n := ⟨_, rfl⟩
        have hsn : s < n := by rw [hs]; exact Nat.mod_lt _ (by omega)
        obtain ⟨y, hy⟩ : ∃ y, l[s]? = some y := ⟨_, List.getElem?_eq_getElem (by have := HN.out; omega)⟩
        have hty : (turnL l b)[k]? = some y := by rw [turnL_get l b k (by have := HN.out; omega), ← HN.out, ← hs]; exact hy
        obtain ⟨ad, rfl, hbl, hI⟩ := its_at HB.out hx
        obtain ⟨ad', e', hbl', hJ⟩ := its_at HB.out hy
        obtain rfl := Option.some.inj e'
        obtain ⟨c0, c1⟩ := hI.keep hkp
        have hmod : ((n : Int) - 1 - (k : Int) + (b : Int)) % (n : Int) = (s : Int) := by
          rw [hs]
          have e : ((n : Int) - 1 - (k : Int) + (b : Int)) = ((n - 1 - k + b : Nat) : Int) := by omega
          rw [e]
          exact (Int.natCast_emod _ _).symm
        have hsn' : (s : Int) < (n : Int) := by omega
        have hn0 : (0 : Int) < (n : Int) := by omega
        have hnz : ¬ (n : Int) = 0 := by omega
        have P := Lib.hid (K.push x hM.a.h (HX.out _ (List.mem_of_getElem? hx)) (by have := LL.out; rw [List.length_take]; omega))
        have HXK := Lib.hid hx
        have HYK := Lib.hid hty
        have HYO := Lib.hid (HX.out _ (List.mem_of_getElem? hy))
        clear hx hy hty hs e' hsn
        go_wp2_with fail
        refine P.out.mono ?_
        rintro e w3 ⟨F4, rfl, h3, t3⟩
        have hM3 := hM.next1 (K.perm h3 (take_perm l HXK.out)) t3 hkp.size
        have hk3 := t3.keeps hkp hM.a.b
        clear h3 t3 hM c0 c1
        obtain ⟨c0, c1⟩ := hJ.keep hk3
        have P2 := Lib.hid (K.push y hM3.b.h HYO.out (by have := LL.out; have := turnL_length l b; rw [List.length_take]; omega))
        go_wp2_with fail
        refine P2.out.mono ?_
        rintro e w4 ⟨G4, rfl, h4, t4⟩
        go_wp2_with fail
        go_roundw
        case rel => exact ⟨k + 1, F4, G4, by omega, by go_num, hM3.next2 (K.perm h4 (take_perm _ HYK.out)) t4 hk3.size, t4.keeps hk3 hM3.b.b⟩
        case measure => simp [intOf]; omega
      · obtain rfl : k = n := by omega
        have e1 : l.take k = l := by rw [HN.out, List.take_length]
        have e2 : (turnL l b).take k = turnL l b := by rw [HN.out, ← turnL_length l b, List.take_length]
        rw [e1, e2] at hM
        have hM' : Two K w.heap.size wr p F3 l q G3 l := ⟨hM.a, ⟨K.perm hM.b.h (turnL_perm l b), hM.b.b⟩, hM.dis⟩
        clear hlt hk e1 e2 hM
        obtain ⟨wo, rfl⟩ : ∃ wo : World, wo = wr := ⟨_, rfl⟩
        go_wp2_with fail
        go_loopw [8] (fun i wr => ∃ (j : Nat) (F G : Nat → Prop) (m : List It), j ≤ k + 1 ∧ i = .int .i64 j ∧ m.length = k - j ∧ (∀ e ∈ m, ItOk e) ∧ Two K w.heap.size wr p F m q G m ∧ Keeps w wr) (fun i _ => k + 1 - (intOf i).toNat)
        case atStart => exact ⟨0, F3, G3, l, Nat.zero_le _, rfl, HN.out.symm, HX.out, hM', hkp⟩
        case round =>
          clear hM' hkp
          obtain ⟨j, F5, G5, m, hj, rfl, hml, hmx, hM, hkp⟩ := hrel
          have HML := Lib.hid hml
          have HMX := Lib.hid hmx
          clear hmx hml
          by_cases hlt : j < k
          · have hz : m ≠ [] := by intro e; have := HML.out; rw [e] at this; simp at this; omega
            obtain ⟨x, hx⟩ := least_of hz
            have hle : (m.erase x).length = m.length - 1 := List.length_erase_of_mem hx.mem
            have hm5 : ∀ e ∈ m.erase x, ItOk e := fun e he => HMX.out e (List.mem_of_mem_erase he)
            have HX5 := Lib.hid (And.intro hx (And.intro hm5 hle))
            have hlek : (j : Int) ≤ (k : Int) := by omega
            clear hz hx hle hm5
            have hml6 : m.length ≤ 65536 := by have := HML.out; omega
            have P := Lib.hid (K.pop x hM.a.h HX5.out.1 HMX.out hml6)
            go_wp2_with fail
            refine P.out.mono ?_
            rintro e w3 ⟨F6, rfl, h3, t3⟩
            have hM3 := hM.next1 h3 t3 hkp.size
            have hk3 := t3.keeps hkp hM.a.b
            have kz := keeps_alloc w3 (.cells #[.int .u64 (x.k : Int), .int .u32 (x.i : Int)] 32)
            have hM4 := hM3.keep kz
            have hk4 := keeps_trans hk3 kz
            have BX := Box.new w3 32 #[.int .u64 (x.k : Int), .int .u32 (x.i : Int)]
            have nz : ¬ G5 w3.heap.size := fun e => Nat.lt_irrefl _ (K.lt hM3.b.h _ e)
            clear h3 t3 hM kz hM3
            have P2 := Lib.hid (K.pop x hM4.b.h HX5.out.1 HMX.out hml6)
            go_wp2_with fail
            generalize w3.alloc (.cells #[.int .u64 (x.k : Int), .int .u32 (x.i : Int)] 32) = W4 at *
            refine P2.out.mono ?_
            rintro e w5 ⟨G6, rfl, h5, t5⟩
            have hM5 := hM4.next2 h5 t5 hk4.size
            have hk5 := t5.keeps hk4 hM4.b.b
            have BX5 := Box.turn BX t5 nz
            have kz := keeps_alloc w5 (.cells #[.int .u64 (x.k : Int), .int .u32 (x.i : Int)] 32)
            have hM6 := hM5.keep kz
            have hk6 := keeps_trans hk5 kz
            obtain ⟨a0, a1⟩ := ItBox.cells BX5
            have la := BX5.lt
            clear h5 t5 hM4 hk4 BX kz hM5 P P2
            go_wp2_with fail
            go_roundw
            case rel => exact ⟨j + 1, F6, G6, m.erase x, by omega, by go_num, by have := HX5.out.2.2; have := HML.out; omega, HX5.out.2.1, hM6, hk6⟩
            case measure => simp [intOf]; omega
          · by_cases heq : j = k
            · subst heq
              have hz : m = [] := List.eq_nil_of_length_eq_zero (by have := HML.out; omega)
              subst hz
              have P := Lib.hid (K.empty hM.a.h)
              clear hlt hj
              go_wp2_with fail
              refine P.out.mono ?_
              rintro e w3 ⟨F6, rfl, h3, t3⟩
              have hM3 := hM.next1 h3 t3 hkp.size
              have hk3 := t3.keeps hkp hM.a.b
              have kz := keeps_alloc w3 (.cells #[.int .u64 0, .int .u32 0] 32)
              have hM4 := hM3.keep kz
              have hk4 := keeps_trans hk3 kz
              have BX := Box.new w3 32 #[.int .u64 0, .int .u32 0]
              have nz : ¬ G5 w3.heap.size := fun e => Nat.lt_irrefl _ (K.lt hM3.b.h _ e)
              clear h3 t3 hM kz hM3
              have P2 := Lib.hid (K.empty hM4.b.h)
              go_wp2_with fail
              generalize w3.alloc (.cells #[.int .u64 0, .int .u32 0] 32) = W4 at *
              refine P2.out.mono ?_
              rintro e w5 ⟨G6, rfl, h5, t5⟩
              have hM5 := hM4.next2 h5 t5 hk4.size
              have hk5 := t5.keeps hk4 hM4.b.b
              have BX5 := Box.turn BX t5 nz
              have kz := keeps_alloc w5 (.cells #[.int .u64 0, .int .u32 0] 32)
              have hM6 := hM5.keep kz
              have hk6 := keeps_trans hk5 kz
              have a0 := BX5.cell 0 rfl
              have a1 := BX5.cell 1 rfl
              have la := BX5.lt
              clear h5 t5 hM4 hk4 BX kz hM5 P P2
              go_wp2_with fail
              go_roundw
              case rel => exact ⟨j + 1, F6, G6, [], by omega, by go_num, by simp, HMX.out, hM6, hk6⟩
              case measure => simp [intOf]
            · have hj1 : (k : Int) < (j : Int) := by omega
              have hj2 : decide ((j : Int) ≤ (k : Int)) = false := decide_eq_false (by omega)
              clear hlt heq hj
              go_wp2_with fail
              refine (WW.out _).mono ?_
              rintro e w6 ⟨rfl, k6⟩
              go_wp2_with fail
              go_ret
              exact ⟨rfl, keeps_trans hkp k6⟩
end Go.Proofs.Ytldmecannmifiaa
