/- The walk of CrcTogether, from the contracts of crc.Extend and crc.Sum. -/
import Derived.Test.YteojfhlddblmgaaLawCrc
import Derived.Deep.OwnRows
namespace Go.Proofs.Yteojfhlddblmgaa
open Go.RowKit
set_option linter.unusedSimpArgs false
set_option linter.unusedVariables false

theorem xor3L_length (l m n : List UInt8) (h1 : l.length = m.length) (h2 : m.length = n.length) : (xor3L l m n).length = l.length := by
  induction l generalizing m n with
  | nil => rfl
  | cons a l ih =>
    cases m with
    | nil => simp at h1
    | cons b m => cases n with
      | nil => simp at h2
      | cons c n => simpa [xor3L] using ih m n (by simpa using h1) (by simpa using h2)
theorem xor3L_get (l m n : List UInt8) (i : Nat) (hl : i < l.length) (hm : i < m.length) (hn : i < n.length) : (xor3L l m n).getD i 0 = l.getD i 0 ^^^ m.getD i 0 ^^^ n.getD i 0 := by
  induction l generalizing m n i with
  | nil => simp at hl
  | cons a l ih =>
    cases m with
    | nil => simp at hm
    | cons b m => cases n with
      | nil => simp at hn
      | cons c n =>
        cases i with
        | zero => rfl
        | succ i => simpa [xor3L] using ih m n i (by simpa using hl) (by simpa using hm) (by simpa using hn)
theorem Bs.of_rowIs {w : World} {b : Nat} {t : TypeId} {n : Nat} {f : Nat → Value} {L : List UInt8} (h : w.rowIs b t n f) (hL : L.length = n) (e : ∀ i, i < n → f i = .int .u8 ((L.getD i 0).toNat : Int)) : Bs w (some ⟨b, 0, none⟩) L := by
  refine .inr ⟨_, rfl, h.lt, fun j u hu => ?_⟩
  have hj : j < n := by
    have := (List.getElem?_eq_some_iff.1 hu).1
    rw [cel_length] at this
    omega
  rw [Addr.add_lit, Nat.zero_add, h.cell hj, cel_at hu, e j hj]
theorem getD_take_lt (l : List UInt8) {i k : Nat} (h : i < k) : (l.take k).getD i 0 = l.getD i 0 := by simp [List.getD, List.getElem?_take, h]
def togF (l m n : List UInt8) (k i : Nat) : Value := .int .u8 ((if i < k then (l.getD i 0 ^^^ m.getD i 0 ^^^ n.getD i 0).toNat else 0 : Nat) : Int)
theorem togF_succ (l m n : List UInt8) (k i : Nat) : (if i = k then Value.int .u8 (((l.getD k 0).toNat ^^^ (m.getD k 0).toNat ^^^ (n.getD k 0).toNat : Nat) : Int) else togF l m n k i) = togF l m n (k + 1) i := by
  by_cases h : i = k
  · subst h
    simp [togF]
  · have e : (i < k + 1) = (i < k) := by simp; omega
    simp [togF, h, e]
theorem infoT_u8 : (Try.prog.info? 5).map (fun i => (i.zero, i.size, i.bytes)) = some (some (.int .u8 0), 1, 1) := by kernel_rfl

set_option maxHeartbeats 2000000 in
theorem together_walk (K : CrcOk) (A : Option Addr) (n c : Nat) (l : List UInt8) (A' : Option Addr) (n' c' : Nat) (l' : List UInt8) (A'' : Option Addr) (n'' c'' : Nat) (l'' : List UInt8) (w : World)
    (hB : Bs w A l) (hn : n = l.length) (hc : n ≤ c) (hlen : n ≤ maxLen) (hB' : Bs w A' l') (hn' : n' = l'.length) (hc' : n' ≤ c') (hlen' : n' ≤ maxLen) (hB'' : Bs w A'' l'') (hn'' : n'' = l''.length) (hc'' : n'' ≤ c'') (hlen'' : n'' ≤ maxLen) :
    Calls Try.prog 8 #[.slice A n c, .slice A' n' c', .slice A'' n'' c''] w (Yes w) := by
  unfold maxLen at hlen hlen' hlen''
  obtain ⟨m, hm⟩ : ∃ m : Nat, m = min (min n n') n'' := ⟨_, rfl⟩
  have hmn : ∀ (ts : Array TypeId) (t : TypeId) (w : World), (Builtin.min_ ts t #[.int .i64 (n : Int), .int .i64 (n' : Int), .int .i64 (n'' : Int)]).run Try.prog w = .ok (.int .i64 (m : Int)) w := by
    intro ts t w
    rw [run_min_int3]
    congr 2
    split <;> split at * <;> omega
  have hm1 : m ≤ n := by omega
  have hm2 : m ≤ n' := by omega
  have hm3 : m ≤ n'' := by omega
  have hml : (m : Int) ≤ 9223372036854775807 := by omega
  have M := Lib.hid hm
  have HN := Lib.hid hn
  have HN' := Lib.hid hn'
  have HN'' := Lib.hid hn''
  clear hm hn hn' hn''
  by_cases h : (16384 : Int) < m
  · have W := Lib.hid (works_crc K w)
    clear hB hB' hB''
    go_enter Try.func8, Try.ntmps8
    go_wp2_with (go_at_call 9; refine W.out.mono ?_; rintro e w1 ⟨rfl, k1⟩)
    go_ret
    exact ⟨rfl, k1⟩
  · have hm4 : m ≤ 16384 := by omega
    have hmk := run_make_row' (P := Try.prog) 23 5 (.int .u8 0) 1 Try.underlying23 infoT_u8 rfl .i64 .i64 m (by omega) (by omega)
    go_enter Try.func8, Try.ntmps8
    go_wp2_with fail
    have r0 := World.rowIs_made w (.int .u8 0) m 5
    have k0 := keeps_alloc w (.cells (madeCells #[.int .u8 0] m) 5)
    have HBs := Lib.hid (And.intro hB (And.intro hB' hB''))
    clear hB hB' hB'' hmk hmn
    go_loopw [9] (fun i wr => ∃ k : Nat, k ≤ m ∧ i = .int .i64 k ∧ wr.rowIs w.heap.size 5 m (togF l l' l'' k) ∧ Keeps w wr) (fun i _ => m - (intOf i).toNat)
    case atStart => exact ⟨0, Nat.zero_le _, rfl, r0.congr (fun i _ => by simp [togF]), k0⟩
    case round =>
      obtain ⟨k, hk, rfl, hr, hkp⟩ := hrel
      by_cases hlt : k < m
      · obtain ⟨ad, rfl, c1⟩ := (HBs.out.1.keep hkp).at_ (k := k) (by rw [← HN.out]; omega)
        obtain ⟨ad', rfl, c2⟩ := (HBs.out.2.1.keep hkp).at_ (k := k) (by rw [← HN'.out]; omega)
        obtain ⟨ad'', rfl, c3⟩ := (HBs.out.2.2.keep hkp).at_ (k := k) (by rw [← HN''.out]; omega)
        obtain ⟨v, c4⟩ : ∃ v, wr.cell? ⟨w.heap.size, k, none⟩ = some v := ⟨_, hr.cell hlt⟩
        have hf := hr.frozen k
        have HR := Lib.hid hr
        have HT := Lib.hid (togF_succ l l' l'' k)
        have b1 := (l.getD k 0).toNat_lt
        have b2 := (l'.getD k 0).toNat_lt
        have b3 := (l''.getD k 0).toNat_lt
        have i1 : (k : Int) < n := by omega
        have i2 : (k : Int) < n' := by omega
        have i3 : (k : Int) < n'' := by omega
        clear hr
        generalize (l.getD k 0).toNat = x at *
        generalize (l'.getD k 0).toNat = y at *
        generalize (l''.getD k 0).toNat = z at *
        have hx1 := u8_xor_nat x y (by omega) (by omega)
        have hx2 := u8_xor_nat (x ^^^ y) z (Nat.xor_lt_two_pow (n := 8) (by omega) (by omega)) (by omega)
        generalize x ^^^ y ^^^ z = v3 at *
        generalize x ^^^ y = v2 at *
        go_wp2_with fail
        go_region
        go_wp2_with fail
        go_roundw
        case rel => exact ⟨k + 1, by omega, by go_num, World.rowIs.drew ((HR.out.set k _).congr fun i _ => HT.out i), keeps_trans (Below.setCell hkp (p := ⟨w.heap.size, k, none⟩) (by simp) _) (keeps_drew _)⟩
        case measure => simp [intOf]; omega
      · obtain rfl : k = m := by omega
        have e1 : (l.take k).length = k := by rw [List.length_take, ← HN.out]; omega
        have e2 : (l'.take k).length = k := by rw [List.length_take, ← HN'.out]; omega
        have e3 : (l''.take k).length = k := by rw [List.length_take, ← HN''.out]; omega
        have hxl : (xor3L (l.take k) (l'.take k) (l''.take k)).length = k := by rw [xor3L_length _ _ _ (by rw [e1, e2]) (by rw [e2, e3]), e1]
        have hD : Bs wr (some ⟨w.heap.size, 0, none⟩) (xor3L (l.take k) (l'.take k) (l''.take k)) := Bs.of_rowIs hr hxl fun i hi => by
          rw [xor3L_get _ _ _ i (by omega) (by omega) (by omega), getD_take_lt l hi, getD_take_lt l' hi, getD_take_lt l'' hi]
          simp [togF, hi]
        have h3 := extC_three (l.take k) (l'.take k) (l''.take k) (by rw [e1, e2]) (by rw [e2, e3])
        have S1 := Lib.hid (K.sum (some ⟨w.heap.size, 0, none⟩) k k (xor3L (l.take k) (l'.take k) (l''.take k)) wr.drew hD hxl.symm (Nat.le_refl _) (by omega))
        have S2 := Lib.hid (fun W (q : Keeps w W) => K.sum A k c (l.take k) W ((HBs.out.1.keep q).take k) e1.symm (by omega) (by omega))
        have S3 := Lib.hid (fun W (q : Keeps w W) => K.sum A' k c' (l'.take k) W ((HBs.out.2.1.keep q).take k) e2.symm (by omega) (by omega))
        have S4 := Lib.hid (fun W (q : Keeps w W) => K.sum A'' k c'' (l''.take k) W ((HBs.out.2.2.keep q).take k) e3.symm (by omega) (by omega))
        have WW := Lib.hid (fun W => works_crc K W)
        rw [h3] at S1
        have b1 := extC_lt (s := 0) (by decide) (l.take k)
        have b2 := extC_lt (s := 0) (by decide) (l'.take k)
        have b3 := extC_lt (s := 0) (by decide) (l''.take k)
        have i1 : (k : Int) ≤ c := by omega
        have i2 : (k : Int) ≤ c' := by omega
        have i3 : (k : Int) ≤ c'' := by omega
        clear h3 hD hxl e1 e2 e3 hr
        generalize extC 0 (l.take k) = x at *
        generalize extC 0 (l'.take k) = y at *
        generalize extC 0 (l''.take k) = z at *
        have hx1 := u32_xor_nat x y b1 b2
        have hx2 := u32_xor_nat (x ^^^ y) z (Nat.xor_lt_two_pow (n := 32) b1 b2) b3
        generalize x ^^^ y ^^^ z = v3 at *
        generalize x ^^^ y = v2 at *
        go_wp2_with fail
        go_region_held3 (fun _ => True) (trivial) (first
          | (go_at_call 13; refine S1.out.mono ?_; rintro e w1 ⟨rfl, k1⟩; replace k1 := keeps_trans hkp (keeps_trans (keeps_drew _) k1); clear S1)
          | (go_at_call 13; refine (S2.out _ k1).mono ?_; rintro e w2 ⟨rfl, k2⟩; replace k2 := keeps_trans k1 k2; clear S2)
          | (go_at_call 13; refine (S3.out _ k2).mono ?_; rintro e w3 ⟨rfl, k3⟩; replace k3 := keeps_trans k2 k3; clear S3)
          | (go_at_call 13; refine (S4.out _ k3).mono ?_; rintro e w4 ⟨rfl, k4⟩; replace k4 := keeps_trans k3 k4; clear S4)
          | (go_at_call 9; refine (WW.out _).mono ?_; rintro e w7 ⟨rfl, k7⟩; replace k7 := keeps_trans k4 k7; clear WW))
        go_wp2_with fail
        go_ret
        exact ⟨rfl, k7⟩
end Go.Proofs.Yteojfhlddblmgaa
