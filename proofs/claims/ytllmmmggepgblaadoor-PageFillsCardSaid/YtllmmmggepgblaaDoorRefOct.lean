/- The contracts of package milepostref01: the document's answers for octet. -/
import Derived.Test.YtllmmmggepgblaaDoorOctetReads
import Derived.Test.YtllmmmggepgblaaDoorRefA
namespace Go.Proofs.YtllmmmggepgblaaDoor
open Go.RowKit
set_option linter.unusedSimpArgs false
set_option linter.unusedVariables false
set_option maxRecDepth 100000

set_option maxHeartbeats 400000 in
theorem sized_any (s : Int) (w : World) : Calls Tryd.prog 41 #[.int .i64 s] w fun e w' => e = .returned (.bool (isSz s)) ∧ w = w' := by
  by_cases h1 : s = 1
  · subst h1
    go_enter Tryd.func41, Tryd.ntmps41
    go_wp2
    go_ret
    exact ⟨rfl, rfl⟩
  · have g1 : (s == 1) = false := beq_eq_false_iff_ne.2 h1
    by_cases h2 : s = 2
    · subst h2
      clear h1 g1
      go_enter Tryd.func41, Tryd.ntmps41
      go_wp2
      go_ret
      exact ⟨rfl, rfl⟩
    · have g2 : (s == 2) = false := beq_eq_false_iff_ne.2 h2
      by_cases h3 : s = 4
      · subst h3
        clear h1 h2 g1 g2
        go_enter Tryd.func41, Tryd.ntmps41
        go_wp2
        go_ret
        exact ⟨rfl, rfl⟩
      · have g3 : (s == 4) = false := beq_eq_false_iff_ne.2 h3
        have e : isSz s = (s == 8) := by
          unfold isSz
          by_cases h4 : s = 8
          · subst h4; rfl
          · rw [beq_eq_false_iff_ne.2 h4]; exact decide_eq_false (by omega)
        rw [e]
        clear h1 h2 h3 e
        go_enter Tryd.func41, Tryd.ntmps41
        go_wp2
        go_ret
        exact ⟨rfl, rfl⟩

set_option maxHeartbeats 400000 in
theorem refGet_no (A : Option Addr) (n c : Nat) (pos size : Int) (w : World) (hn : n ≤ 9223372036854775807) (h1 : -9223372036854775808 ≤ pos) (h2 : pos ≤ 9223372036854775807)
    (hno : isSz size = false ∨ pos < 0 ∨ (n : Int) - size < pos) :
    Calls Tryd.prog 37 #[.slice A n c, .int .i64 pos, .int .i64 size] w fun e w' => e = .returned (.tuple #[.int .u64 0, .int .i64 1]) ∧ w = w' := by
  cases hs : isSz size with
  | false =>
    go_enter Tryd.func37, Tryd.ntmps37
    go_wp2_with (go_at_call 41; refine (sized_any _ _).mono ?_; rintro e w' ⟨rfl, rfl⟩)
    go_ret2
    exact ⟨rfl, rfl⟩
  | true =>
    have hsz := isSz_true hs
    have hb : 1 ≤ size ∧ size ≤ 8 := by omega
    clear hsz
    by_cases hp : pos < 0
    · go_enter Tryd.func37, Tryd.ntmps37
      go_wp2_with (go_at_call 41; refine (sized_any _ _).mono ?_; rintro e w' ⟨rfl, rfl⟩)
      go_ret2
      exact ⟨rfl, rfl⟩
    · have hg : (n : Int) - size < pos := by
        rcases hno with h | h | h
        · rw [hs] at h; cases h
        · omega
        · exact h
      clear hno
      by_cases hq : (n : Int) < pos
      · go_enter Tryd.func37, Tryd.ntmps37
        go_wp2_with (go_at_call 41; refine (sized_any _ _).mono ?_; rintro e w' ⟨rfl, rfl⟩)
        go_ret2
        exact ⟨rfl, rfl⟩
      · have hq' : pos ≤ (n : Int) := by omega
        have hg' : (n : Int) - pos < size := by omega
        clear hg
        go_enter Tryd.func37, Tryd.ntmps37
        go_wp2_with (go_at_call 41; refine (sized_any _ _).mono ?_; rintro e w' ⟨rfl, rfl⟩)
        go_ret2
        exact ⟨rfl, rfl⟩

theorem numAt_step (l : List UInt8) (p k s : Nat) (hk : k + 1 ≤ s) (h : p + s ≤ l.length) : numAt l (p + k) (s - k) = (l.getD (p + k) 0).toNat + 256 * numAt l (p + (k + 1)) (s - (k + 1)) := by
  unfold numAt
  have e : l.drop (p + k) = (l[p + k]'(by omega)) :: l.drop (p + k + 1) := List.drop_eq_getElem_cons (by omega)
  rw [e, show s - k = (s - (k + 1)) + 1 by omega, List.take_succ_cons, le]
  simp [List.getD, show p + k < l.length by omega, Nat.add_assoc]
theorem numAt_lt (l : List UInt8) (p s : Nat) : numAt l p s < 256 ^ s := by
  unfold numAt
  have h := le_lt ((l.drop p).take s)
  have h2 : ((l.drop p).take s).length ≤ s := by rw [List.length_take]; omega
  exact Nat.lt_of_lt_of_le h (Nat.pow_le_pow_right (by decide) h2)

set_option maxHeartbeats 400000 in
theorem refGet_yes (A : Option Addr) (n c : Nat) (l : List UInt8) (p s : Nat) (w : World) (hB : Bs w A l) (hnl : n = l.length) (hn : n ≤ 9223372036854775000)
    (hs : isSz (s : Int) = true) (hp : p + s ≤ n) :
    Calls Tryd.prog 37 #[.slice A n c, .int .i64 p, .int .i64 s] w fun e w' => e = .returned (.tuple #[.int .u64 (numAt l p s), .int .i64 0]) ∧ w = w' := by
  have hsz := isSz_true hs
  have hb : 1 ≤ s ∧ s ≤ 8 := by omega
  clear hsz
  obtain ⟨ad, rfl⟩ := hB.some_ (by omega)
  have HB := Lib.hid hB
  have HN := Lib.hid hnl
  clear hB hnl
  have hp1 : (p : Int) ≤ n := by omega
  have hp2 : (s : Int) ≤ n - p := by omega
  go_enter Tryd.func37, Tryd.ntmps37
  go_wp2_with (go_at_call 41; refine (sized_any _ _).mono ?_; rintro e w' ⟨rfl, rfl⟩)
  go_loop [8, 9] (fun x i => ∃ k : Nat, k ≤ s ∧ i = .int .i64 ((k : Int) - 1) ∧ x = .int .u64 (numAt l (p + k) (s - k))) (fun _ i => ((intOf i) + 1).toNat)
  case atStart => exact ⟨s, Nat.le_refl _, rfl, by simp [numAt, le]⟩
  case round =>
    obtain ⟨k, hk, rfl, rfl⟩ := hrel
    rcases k with _ | k
    · simp only [Nat.add_zero, Nat.sub_zero] at *
      go_wp2
      go_ret2
      exact ⟨rfl, rfl⟩
    · have hst := numAt_step l p k s hk (by rw [← HN.out]; exact hp)
      have hlt := numAt_lt l (p + (k + 1)) (s - (k + 1))
      have hlt7 : 256 ^ (s - (k + 1)) ≤ 256 ^ 7 := Nat.pow_le_pow_right (by decide) (by omega)
      obtain ⟨ad', e', hc⟩ := HB.out.at_ (k := p + k) (by rw [← HN.out]; omega)
      obtain rfl := Option.some.inj e'
      have hbyte := (l.getD (p + k) 0).toNat_lt
      have HS := Lib.hid hst
      have HX : numAt l (p + (k + 1)) (s - (k + 1)) ≤ 72057594037927935 := by omega
      clear hst hlt hlt7 e'
      generalize numAt l (p + (k + 1)) (s - (k + 1)) = X at *
      generalize (l.getD (p + k) 0).toNat = y at *
      rw [show (((k + 1 : Nat) : Int) - 1) = (k : Int) by omega]
      go_wp2
      go_round
      case rel => exact ⟨k, by omega, rfl, by rw [HS.out]; go_num⟩
      case measure => simp [intOf]

theorem nb_head (k x : Nat) : nb (k + 1) x = UInt8.ofNat (x % 256) :: nb k (x / 256) := rfl

set_option maxHeartbeats 800000 in
theorem refPut_any (A : Option Addr) (n c : Nat) (l : List UInt8) (x : Nat) (s : Int) (w : World) (hB : Bs w A l) (hnl : n = l.length) (hx : x < 18446744073709551616) (hn : n ≤ 140737488354000) :
    Calls Tryd.prog 28 #[.slice A n c, .int .u64 x, .int .i64 s] w (New w (l ++ if isSz s then nb s.toNat x else [])) := by
  obtain ⟨i0, hi, hz0, hz1, hz2⟩ := info_parts info_u8
  have hn' := hn
  rw [hnl] at hn'
  have C := Lib.hid (copyBytes_any A n c l w hB hnl (by unfold maxLen; omega))
  have HN := Lib.hid hnl
  clear hnl hB
  cases hs : isSz s with
  | false =>
    have e0 : (l ++ if false = true then nb s.toNat x else []) = l := by simp
    rw [e0]
    by_cases h0 : 0 < s
    all_goals
      go_enter Tryd.func28, Tryd.ntmps28
      go_wp2_with (go_at_call 23; refine C.out.mono ?_; rintro e w1 ⟨v1, rfl, o1, k1⟩)
      refine wp_loop_rounds 1 ?_
      rw [rounds_succ]
      go_wp2_with (go_at_call 41; refine (sized_any _ _).mono ?_; rintro e w' ⟨rfl, rfl⟩)
      go_ret
      exact ⟨_, rfl, o1, k1⟩
  | true =>
    have hsz := isSz_true hs
    obtain ⟨k0, rfl⟩ : ∃ k : Nat, s = (k : Int) := ⟨s.toNat, by omega⟩
    have hk0 : k0 ≤ 8 := by omega
    have e0 : (l ++ if true = true then nb (k0 : Int).toNat x else []) = l ++ nb k0 x := by simp
    rw [e0]
    clear e0 hsz
    go_enter Tryd.func28, Tryd.ntmps28
    go_wp2_with (go_at_call 23; refine C.out.mono ?_; rintro e w1 ⟨v1, rfl, o1, k1⟩)
    go_loopw [1, 7, 8] (fun xv v i wr => ∃ k : Nat, k ≤ k0 ∧ i = .int .i64 k ∧ xv = .int .u64 ((x / 256 ^ k : Nat) : Int) ∧ Own wr w.heap.size 5 1 v (l.length + k) (cel (l ++ nb k x)) ∧ Keeps w wr) (fun _ _ i _ => k0 - (intOf i).toNat)
    case atStart => exact ⟨0, Nat.zero_le _, rfl, by simp, by simpa [nb] using o1, k1⟩
    case round =>
      obtain ⟨k, hk, rfl, rfl, hr, hw⟩ := hrel
      by_cases hlt : k < k0
      · have hxk : x / 256 ^ k < 18446744073709551616 := Nat.lt_of_le_of_lt (Nat.div_le_self _ _) hx
        have hdd : x / 256 ^ (k + 1) = x / 256 ^ k / 256 := by rw [Nat.pow_succ, Nat.div_div_eq_div_mul]
        have hnb : cel (l ++ nb k x) ++ [.int .u8 ((UInt8.ofNat (x / 256 ^ k % 256)).toNat : Int)] = cel (l ++ nb (k + 1) x) := by
          rw [nb_succ, ← List.append_assoc, cel_append (l ++ nb k x)]; rfl
        have hby : (((x / 256 ^ k : Nat) : Int) % 256) = ((UInt8.ofNat (x / 256 ^ k % 256)).toNat : Int) := by simp
        have HD := Lib.hid hdd
        have HNB := Lib.hid hnb
        have HBY := Lib.hid hby
        clear hdd hnb hby
        generalize x / 256 ^ k = y at *
        have hS := hw.size
        have hL : l.length + k ≤ 140737488354010 := by omega
        go_wp2_with (first
          | (go_at_call 41; refine (sized_any _ _).mono ?_; rintro e w' ⟨rfl, rfl⟩)
          | (at_builtin; refine wpList_app _ rfl _ _ 23 rfl w.heap.size 5 i0 (.int .u8 0) 1 1 Tryd.underlying23 hi hz0 hz1 hz2 rfl (by decide) _ _ _ rfl (hr.keep (keeps_alloc _ _)) (wr.heap.size + 1) _ 1 1 [.int .u8 ((y : Int) % 256)] rfl rfl (At.new _ _ _ _ (by omega)) (fun u hu => by simp at hu; subst hu; rfl) (by unfold maxLen; omega) (by omega) (by simp; omega) ?_; intro v' w2 hown' hgrow hblk))
        have hown2 := hown'
        rw [HBY.out, HNB.out, Nat.add_assoc] at hown2
        have hk2 : Keeps w w2 := Below.grown (keeps_trans hw (keeps_alloc wr _)) hgrow (by simp; omega) (fun g hg => (hr.lt g hg).1)
        go_roundw
        case rel => exact ⟨k + 1, by omega, by go_num, by rw [HD.out]; go_num, hown2, hk2⟩
        case measure => simp [intOf]; omega
      · obtain rfl : k = k0 := by omega
        generalize x / 256 ^ k = y at *
        go_wp2
        go_ret
        exact ⟨_, rfl, by rw [List.length_append, nb_length]; exact hr, hw⟩
end Go.Proofs.YtllmmmggepgblaaDoor
