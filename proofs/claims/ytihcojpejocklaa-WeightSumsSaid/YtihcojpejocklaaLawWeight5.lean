/- The walk of WeightSums. -/
import Derived.Test.YtihcojpejocklaaLawWeight
import Derived.Test.YtihcojpejocklaaNums
namespace Go.Proofs.Ytihcojpejocklaa
open Go.RowKit
set_option linter.unusedSimpArgs false
set_option linter.unusedVariables false
set_option maxRecDepth 100000

/-- the greatest one -/
def mostN (l : List Nat) : Nat := l.foldl max 0
theorem mostN_snoc (l : List Nat) (x : Nat) : mostN (l ++ [x]) = max (mostN l) x := by simp [mostN]
theorem foldl_max_le (l : List Nat) : ∀ (a : Nat), a ≤ l.foldl max a ∧ ∀ x ∈ l, x ≤ l.foldl max a := by
  induction l with
  | nil => intro a; simp
  | cons y l ih =>
    intro a
    obtain ⟨h1, h2⟩ := ih (max a y)
    refine ⟨by simp only [List.foldl_cons]; omega, fun x hx => ?_⟩
    simp only [List.foldl_cons]
    rcases List.mem_cons.1 hx with rfl | hx
    · omega
    · exact h2 x hx
theorem mostN_ge {l : List Nat} {x : Nat} (h : x ∈ l) : x ≤ mostN l := (foldl_max_le l 0).2 x h
theorem mostN_lt {l : List Nat} (h : ∀ x ∈ l, x < 18446744073709551616) : mostN l < 18446744073709551616 := by
  have : ∀ (l : List Nat) (a : Nat), a < 18446744073709551616 → (∀ x ∈ l, x < 18446744073709551616) → l.foldl max a < 18446744073709551616 := by
    intro l
    induction l with
    | nil => intro a ha _; exact ha
    | cons y l ih =>
      intro a ha h
      exact ih _ (by have := h y (by simp); omega) (fun x hx => h x (by simp [hx]))
  exact this l 0 (by decide) h
theorem sum_le {l : List Nat} {b : Nat} (h : ∀ x ∈ l, x ≤ b) : l.sum ≤ l.length * b := by
  induction l with
  | nil => simp
  | cons y l ih =>
    have h1 := h y (by simp)
    have h2 := ih (fun x hx => h x (by simp [hx]))
    rw [List.sum_cons, List.length_cons, Nat.add_mul]
    omega
theorem getD_mem {l : List Nat} {k : Nat} (h : k < l.length) : l.getD k 0 ∈ l := by
  simp [List.getD, h]
theorem take_snoc' (l : List Nat) {k : Nat} (h : k < l.length) : l.take (k + 1) = l.take k ++ [l.getD k 0] := by
  rw [List.take_succ_eq_append_getElem h]; simp [List.getD, h]

set_option maxHeartbeats 4000000 in
theorem sums3_walk (K : WeightOk) (m : Nat) (hm : m < 4294967296) (A : Option Addr) (n c : Nat) (l : List Nat) (w : World) (hB : At w w.heap.size A (u64s l)) (hx : ∀ x ∈ l, x < 18446744073709551616) (hn : n = l.length) (hlen : n ≤ maxLen) :
    Calls Try.prog 6 #[.int .u32 m, .slice A n c] w (Yes w) := by
  unfold maxLen at hlen
  have WW := Lib.hid (fun W => works_weight K W)
  by_cases h : (4096 : Int) < n
  · clear hn hB
    go_enter Try.func6, Try.ntmps6
    go_wp2_with fail
    refine (WW.out _).mono ?_
    rintro e w1 ⟨rfl, k1⟩
    go_wp2_with fail
    go_ret
    exact ⟨rfl, k1⟩
  · have hmx : n ≤ 4096 := by omega
    have HN := Lib.hid hn
    have HX := Lib.hid hx
    have KA := Lib.hid K
    have HB := Lib.hid hB
    have hmax : ∀ (ts : Array TypeId) (t : TypeId) (a b : Nat) (w : World), (Builtin.max_ ts t #[.int .u64 (a : Int), .int .u64 (b : Int)]).run Try.prog w = .ok (.int .u64 ((max a b : Nat) : Int)) w := by
      intro ts t a b w
      rw [run_max_int2]
      congr 2
      split <;> omega
    clear hn hx K hB
    go_enter Try.func6, Try.ntmps6
    go_wp2_with fail
    go_loop [5, 6] (fun s i => ∃ k : Nat, k ≤ n ∧ i = .int .i64 k ∧ s = .int .u64 (mostN (l.take k))) (fun _ i => n - (intOf i).toNat)
    case atStart => exact ⟨0, Nat.zero_le _, rfl, rfl⟩
    case round =>
      obtain ⟨k, hk, rfl, rfl⟩ := hrel
      by_cases hlt : k < n
      · obtain ⟨ad, rfl, hc⟩ := u64s_at HB.out (k := k) (by rw [← HN.out]; exact hlt)
        have hs : mostN (l.take (k + 1)) = max (mostN (l.take k)) (l.getD k 0) := by
          rw [take_snoc' l (by rw [← HN.out]; exact hlt), mostN_snoc]
        have HS := Lib.hid hs
        clear hs
        generalize mostN (l.take k) = a at *
        generalize l.getD k 0 = b at *
        go_wp2
        go_round
        case rel => exact ⟨k + 1, by omega, by go_num, by rw [HS.out]⟩
        case measure => simp [intOf]; omega
      · obtain rfl : k = n := by omega
        have hM : mostN (l.take k) = mostN l := by rw [HN.out, List.take_length]
        rw [hM]
        have hMlt := mostN_lt HX.out
        have F1 := Lib.hid (KA.out.fits m (mostN l) hm hMlt)
        have hge := Lib.hid (fun x (h : x ∈ l) => mostN_ge h)
        clear hM hmax
        by_cases hov : m < k
        · generalize mostN l = M at *
          go_wp2_with fail
          refine (WW.out _).mono ?_
          rintro e w1 ⟨rfl, k1⟩
          go_wp2_with fail
          go_ret
          exact ⟨rfl, k1⟩
        · cases hf : fitB m (mostN l) with
          | false =>
            rw [hf] at F1
            clear hf
            generalize mostN l = M at *
            go_wp2_with fail
            refine (F1.out _).mono ?_
            rintro e w1 ⟨rfl, k1⟩
            go_wp2_with fail
            refine (WW.out _).mono ?_
            rintro e w2 ⟨rfl, k2⟩
            go_wp2_with fail
            go_ret
            exact ⟨rfl, keeps_trans k1 k2⟩
          | true =>
            rw [hf] at F1
            have hfits : m * mostN l < far := by simpa [fitB] using hf
            have hall : ∀ t : List Nat, (∀ x ∈ t, x ∈ l) → t.length ≤ k → t.sum < far := fun t ht hl => by
              have h1 := sum_le (fun x hx => hge.out x (ht x hx))
              have h2 : t.length * mostN l ≤ m * mostN l := Nat.mul_le_mul_right _ (by omega)
              omega
            have HF := Lib.hid hall
            clear hf hfits hall hge
            generalize mostN l = M at *
            go_wp2_with fail
            refine (F1.out _).mono ?_
            rintro e w1 ⟨rfl, k1⟩
            go_wp2_with fail
            go_loopw [7, 8, 9] (fun s t i wr => ∃ j : Nat, j ≤ k ∧ i = .int .i64 j ∧ s = .int .u64 ((l.take j).sum) ∧ t = .int .u64 ((l.drop (k - j)).sum) ∧ Keeps w wr) (fun _ _ i _ => k - (intOf i).toNat)
            case atStart => exact ⟨0, Nat.zero_le _, rfl, rfl, by rw [Nat.sub_zero, HN.out, List.drop_length]; rfl, k1⟩
            case round =>
              obtain ⟨j, hj, rfl, rfl, rfl, hkp⟩ := hrel
              have hkl : k = l.length := HN.out
              have hs1 : (l.take j).sum < far := HF.out _ (fun x hx => List.mem_of_mem_take hx) (by rw [List.length_take]; omega)
              have hs2 : (l.drop (k - j)).sum < far := HF.out _ (fun x hx => List.mem_of_mem_drop hx) (by rw [List.length_drop]; omega)
              by_cases hlt2 : j < k
              · obtain ⟨ad, rfl, hc⟩ := u64s_at (At.more (At.keep HB.out hkp) hkp.size) (k := j) (by omega)
                obtain ⟨ad', e', hc'⟩ := u64s_at (At.more (At.keep HB.out hkp) hkp.size) (k := k - 1 - j) (by omega)
                obtain rfl := Option.some.inj e'
                have hb1 := HX.out _ (getD_mem (l := l) (k := j) (by omega))
                have hb2 := HX.out _ (getD_mem (l := l) (k := k - 1 - j) (by omega))
                have e1 : (l.take (j + 1)).sum = (l.take j).sum + l.getD j 0 := by rw [take_snoc' l (by omega)]; simp
                have e2 : (l.drop (k - (j + 1))).sum = l.getD (k - 1 - j) 0 + (l.drop (k - j)).sum := by
                  rw [show k - (j + 1) = k - 1 - j by omega, List.drop_eq_getElem_cons (by omega), List.sum_cons, show k - 1 - j + 1 = k - j by omega]
                  congr 1
                  simp [List.getD, show k - 1 - j < l.length by omega]
                have hs3 : (l.take (j + 1)).sum < far := HF.out _ (fun x hx => List.mem_of_mem_take hx) (by rw [List.length_take]; omega)
                have hs4 : (l.drop (k - (j + 1))).sum < far := HF.out _ (fun x hx => List.mem_of_mem_drop hx) (by rw [List.length_drop]; omega)
                have E1 := Lib.hid e1
                have E2 := Lib.hid e2
                rw [e1] at hs3
                rw [e2] at hs4
                have ci : ((k : Int) - 1 - (j : Int)) = ((k - 1 - j : Nat) : Int) := by omega
                have hil : k - 1 - j < k := by omega
                have HKL := Lib.hid hkl
                clear e1 e2 e' hkl
                generalize l.getD j 0 = x at *
                generalize l.getD (k - 1 - j) 0 = y at *
                generalize (l.take j).sum = S at *
                generalize (l.drop (k - j)).sum = T at *
                generalize k - 1 - j = q at *
                have hf : far < 18446744073709551616 := by decide
                have a1 := Lib.hid (KA.out.add S x (by omega) hb1)
                have a2 := Lib.hid (KA.out.add y T hb2 (by omega))
                have t1 : addB S x = true := by simp [addB, hs3]
                have t2 : addB y T = true := by simp [addB, hs4]
                rw [t1, addV_true t1] at a1
                rw [t2, addV_true t2] at a2
                clear hs1 hs2 hs3 hs4 t1 t2 hf
                generalize hS' : S + x = S' at *
                generalize hT' : y + T = T' at *
                have HS' := Lib.hid hS'
                have HT' := Lib.hid hT'
                clear hS' hT'
                go_wp2_with fail
                refine (a1.out _).mono ?_
                rintro e w2 ⟨rfl, k2⟩
                replace hc' := k2.cellOf hc'
                clear hc
                go_wp2_with fail
                refine (a2.out _).mono ?_
                rintro e w3 ⟨rfl, k3⟩
                go_wp2_with fail
                go_roundw
                case rel => exact ⟨j + 1, by omega, by go_num, by rw [E1.out], by rw [E2.out], keeps_trans hkp (keeps_trans k2 k3)⟩
                case measure => simp [intOf]; omega
              · obtain rfl : j = k := by omega
                have e1 : l.take j = l := by rw [HN.out, List.take_length]
                rw [e1] at hs1 ⊢
                rw [Nat.sub_self, List.drop_zero]
                have hd : decide (((l.sum : Nat) : Int) < 9223372036854775808) = true := decide_eq_true (by unfold far at hs1; omega)
                clear hs1 hs2 e1 hkl
                generalize l.sum = S at *
                go_wp2_with fail
                refine (WW.out _).mono ?_
                rintro e w2 ⟨rfl, k2⟩
                go_wp2_with fail
                go_ret
                exact ⟨rfl, keeps_trans hkp k2⟩
end Go.Proofs.Ytihcojpejocklaa
