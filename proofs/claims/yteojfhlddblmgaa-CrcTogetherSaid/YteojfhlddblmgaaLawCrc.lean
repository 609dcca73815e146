/- The walks of layer 2's statements, from the contracts of crc.Extend and crc.Sum. -/
import Derived.Test.YteojfhlddblmgaaTurned
import Derived.Deep.RegionHeld3
import Derived.Lib.SlBytesConst
namespace Go.Proofs.Yteojfhlddblmgaa
open Go.RowKit
set_option linter.unusedSimpArgs false
set_option linter.unusedVariables false

/-- What a law leaves. -/
def Yes (w : World) (e : Ending) (w' : World) : Prop := e = .returned (.bool true) ∧ Keeps w w'
/-- What the two calls of package crc answer. -/
structure CrcOk : Prop where
  ext : ∀ (s : Nat), s < 4294967296 → ∀ (A : Option Addr) (n c : Nat) (l : List UInt8) (w : World), Bs w A l → n = l.length → n ≤ c → n ≤ 1000000 →
    Calls Try.prog 11 #[.int .u32 s, .slice A n c] w fun e w' => e = .returned (.int .u32 (extC s l)) ∧ Keeps w w'
  sum : ∀ (A : Option Addr) (n c : Nat) (l : List UInt8) (w : World), Bs w A l → n = l.length → n ≤ c → n ≤ 1000000 →
    Calls Try.prog 13 #[.slice A n c] w fun e w' => e = .returned (.int .u32 (extC 0 l)) ∧ Keeps w w'

def nine : List UInt8 := [49, 50, 51, 52, 53, 54, 55, 56, 57]
theorem nine_sum : extC 0 nine = 3808858755 := by kernel_rfl
theorem none_sum : extC 7 [] = 7 := by kernel_rfl

theorem At.newMarked (w : World) (cs : List Value) (e : TypeId) (fz : Nat × Nat) (B : Nat) (hB : w.heap.size < B) : At (w.alloc (.cells cs.toArray e fz)) B (some ⟨w.heap.size, 0, none⟩) cs := by
  refine .inr ⟨_, rfl, hB, fun j u hu => ?_⟩
  rw [Addr.add_lit, Nat.zero_add, cell_of_row _ _ j cs.toArray e fz (heap_alloc_new w _)]
  simpa using hu

set_option maxHeartbeats 800000 in
theorem works_crc (K : CrcOk) (w : World) : Calls Try.prog 9 #[] w (Yes w) := by
  have kc := fun (w : World) (C : Array Value) (n c : Nat) => Lib.run_convert_bytes_const (P := Try.prog) w 23 5 C n c Try.underlying23 Try.underlying5
  have k0 := keeps_alloc w (.cells (cel nine).toArray 5 (9, 10))
  have S := Lib.hid (K.sum (some ⟨w.heap.size, 0, none⟩) 9 9 nine (w.alloc (.cells (cel nine).toArray 5 (9, 10))) (At.newMarked w _ _ _ _ (by simp)) rfl (by decide) (by decide))
  have E := Lib.hid (fun W => K.ext 7 (by decide) none 0 0 [] W (Bs.nil _ _) rfl (by decide) (by decide))
  rw [none_sum] at E
  rw [nine_sum] at S
  go_enter Try.func9, Try.ntmps9
  go_wp2_with fail
  refine S.out.mono ?_
  rintro e w1 ⟨rfl, k1⟩
  go_wp2_with fail
  refine (E.out _).mono ?_
  rintro e w2 ⟨rfl, k2⟩
  go_wp2_with fail
  go_ret
  exact ⟨rfl, keeps_trans k0 (keeps_trans k1 k2)⟩

set_option maxHeartbeats 800000 in
theorem apart_walk (K : CrcOk) (x y : Nat) (hx : x < 4294967296) (hy : y < 4294967296) (A : Option Addr) (n c : Nat) (l : List UInt8) (w : World) (hB : Bs w A l) (hn : n = l.length) (hc : n ≤ c) (hlen : n ≤ maxLen) :
    Calls Try.prog 7 #[.int .u32 x, .int .u32 y, .slice A n c] w (Yes w) := by
  unfold maxLen at hlen
  by_cases h : (16384 : Int) < n
  · have W := Lib.hid (works_crc K w)
    clear hn hB
    go_enter Try.func7, Try.ntmps7
    go_wp2_with (go_at_call 9; refine W.out.mono ?_; rintro e w1 ⟨rfl, k1⟩)
    go_ret
    exact ⟨rfl, k1⟩
  · have hm : n ≤ 16384 := by omega
    have HN := Lib.hid hn
    clear hn
    have hiff := extC_inj hx hy l
    have E1 := Lib.hid (K.ext x hx A n c l w hB HN.out hc (by omega))
    have E2 := Lib.hid (fun W (k : Keeps w W) => K.ext y hy A n c l W (hB.keep k) HN.out hc (by omega))
    generalize extC x l = p at *
    generalize extC y l = q at *
    go_enter Try.func7, Try.ntmps7
    go_wp2_with fail
    refine E1.out.mono ?_
    rintro e w1 ⟨rfl, k1⟩
    go_wp2_with fail
    refine (E2.out _ k1).mono ?_
    rintro e w2 ⟨rfl, k2⟩
    have hb : ((p : Int) == (q : Int)) = ((x : Int) == (y : Int)) := by
      by_cases e : x = y
      · have e' := hiff.2 e
        subst e; subst e'; simp
      · have e' : ¬ p = q := fun h => e (hiff.1 h)
        have e1 : ((p : Int) == (q : Int)) = false := by simp; omega
        have e2 : ((x : Int) == (y : Int)) = false := by simp; omega
        rw [e1, e2]
    go_wp2_with fail
    refine (works_crc K _).mono ?_
    rintro e w3 ⟨rfl, k3⟩
    go_wp2_with fail
    go_ret
    exact ⟨rfl, keeps_trans k1 (keeps_trans k2 k3)⟩

set_option maxHeartbeats 800000 in
theorem sums_walk (K : CrcOk) (x : Nat) (hx : x < 4294967296) (A : Option Addr) (n c : Nat) (l : List UInt8) (w : World) (hB : Bs w A l) (hn : n = l.length) (hc : n ≤ c) (hlen : n ≤ maxLen) :
    Calls Try.prog 3 #[.int .u32 x, .slice A n c] w (Yes w) := by
  unfold maxLen at hlen
  by_cases h : (65536 : Int) < n
  · have W := Lib.hid (works_crc K w)
    clear hn hB
    go_enter Try.func3, Try.ntmps3
    go_wp2_with (go_at_call 9; refine W.out.mono ?_; rintro e w1 ⟨rfl, k1⟩)
    go_ret
    exact ⟨rfl, k1⟩
  · have hm : n ≤ 65536 := by omega
    have R := Lib.hid (roomy_any A n c l w hB hn (by omega))
    have HN := Lib.hid hn
    clear hn
    go_enter Try.func3, Try.ntmps3
    go_wp2_with fail
    refine R.out.mono ?_
    rintro e w1 ⟨ad, cap, rfl, r⟩
    have k1 := r.kept
    have hin : Bs w1 (some ad) l := by have := r.bytes.take l.length; rwa [List.take_left] at this
    have hcap : n + 7 ≤ cap := by rw [HN.out]; exact r.fits
    have RB := Lib.hid r.bytes
    rw [← HN.out]
    clear r
    go_wp2_with fail
    refine (K.ext x hx (some ad) n cap l w1 hin HN.out (by omega) (by omega)).mono ?_
    rintro e w2 ⟨rfl, k2⟩
    go_wp2_with fail
    refine (refExtend_any x hx A n c l w2 (hB.keep (keeps_trans k1 k2)) HN.out (by omega)).mono ?_
    rintro e w' ⟨rfl, rfl⟩
    go_wp2_with fail
    refine (K.sum (some ad) n cap l w2 (hin.keep k2) HN.out (by omega) (by omega)).mono ?_
    rintro e w3 ⟨rfl, k3⟩
    have k23 := keeps_trans k2 k3
    go_wp2_with fail
    refine (refSum_any A n c l w3 (hB.keep (keeps_trans k1 k23)) HN.out (by omega)).mono ?_
    rintro e w' ⟨rfl, rfl⟩
    go_wp2_with fail
    refine (kept_any ad n cap l A n c w3 (RB.out.keep k23) HN.out hcap (by omega) (hB.keep (keeps_trans k1 k23)) HN.out).mono ?_
    rintro e w4 ⟨rfl, k4⟩
    go_wp2_with fail
    refine (works_crc K _).mono ?_
    rintro e w5 ⟨rfl, k5⟩
    go_wp2_with fail
    go_ret
    exact ⟨rfl, keeps_trans k1 (keeps_trans k23 (keeps_trans k4 k5))⟩

theorem infoC_u8 : (Try.prog.info? 5).map (fun i => (i.zero, i.size, i.bytes)) = some (some (.int .u8 0), 1, 1) := by kernel_rfl
theorem byteC (x k : Nat) : ((x : Int) / 2 ^ (8 * k) % 256) = ((UInt8.ofNat (x / 256 ^ k % 256)).toNat : Int) := by
  have e : (256 : Nat) ^ k = 2 ^ (8 * k) := by rw [Nat.pow_mul]
  rw [e]
  simp

set_option maxHeartbeats 800000 in
theorem rest_walk (K : CrcOk) (A : Option Addr) (n c : Nat) (l : List UInt8) (w : World) (hB : Bs w A l) (hn : n = l.length) (hc : n ≤ c) (hlen : n ≤ maxLen) :
    Calls Try.prog 6 #[.slice A n c] w (Yes w) := by
  unfold maxLen at hlen
  by_cases h : (16384 : Int) < n
  · have W := Lib.hid (works_crc K w)
    clear hn hB
    go_enter Try.func6, Try.ntmps6
    go_wp2_with (go_at_call 9; refine W.out.mono ?_; rintro e w1 ⟨rfl, k1⟩)
    go_ret
    exact ⟨rfl, k1⟩
  · have hm : n ≤ 16384 := by omega
    obtain ⟨i0, hi, hz0, hz1, hz2⟩ := info_parts infoC_u8
    have C := Lib.hid (copyBytes_any A n c l w hB hn (by unfold maxLen; omega))
    have HN := Lib.hid hn
    clear hn
    go_enter Try.func6, Try.ntmps6
    go_wp2_with fail
    refine C.out.mono ?_
    rintro e w1 ⟨v1, rfl, o1, k1⟩
    go_wp2_with fail
    refine (K.sum A n c l w1 (hB.keep k1) HN.out hc (by omega)).mono ?_
    rintro e w2 ⟨rfl, k2⟩
    have O1 := Lib.hid (o1.keep k2)
    have hs := extC_lt (s := 0) (by decide) l
    have HR := Lib.hid (extC_rest l)
    clear o1 C
    generalize extC 0 l = s at *
    have hll : l.length ≤ 16384 := by rw [← HN.out]; exact hm
    go_wp2_with fail
    go_loopw [3, 5] (fun v' i wr => ∃ k : Nat, k ≤ 4 ∧ i = .int .i64 k ∧ Own wr w.heap.size 5 1 v' (l.length + k) (cel (l ++ nb k s)) ∧ Keeps w wr) (fun _ i _ => 4 - (intOf i).toNat)
    case atStart => exact ⟨0, Nat.zero_le _, rfl, by simpa [nb] using O1.out, keeps_trans k1 k2⟩
    case round =>
      obtain ⟨k, hk, rfl, hr, hkp⟩ := hrel
      by_cases hlt : k < 4
      · have hbase' : w.heap.size ≤ wr.heap.size := hkp.size
        go_wp2_with (at_builtin; refine wpList_app _ rfl _ _ 23 rfl w.heap.size 5 i0 (.int .u8 0) 1 1 Try.underlying23 hi hz0 hz1 hz2 rfl (by decide) _ _ _ rfl (hr.keep (keeps_alloc _ _)) (wr.heap.size + 1) _ 1 1 [.int .u8 ((s : Int) / 2 ^ (8 * k) % 256)] rfl rfl (At.new _ _ _ _ (by omega)) (fun u hu => by simp at hu; subst hu; rfl) (by unfold maxLen; omega) (by omega) (by simp; omega) ?_)
        intro v' w3 hown' hgrow hblk
        have hkp' : Keeps w w3 := Below.grown (keeps_trans hkp (keeps_alloc _ _)) hgrow (keeps_trans hkp (keeps_alloc _ _)).size (fun g hg => (hr.lt g hg).1)
        have e : cel (l ++ nb k s) ++ [.int .u8 ((s : Int) / 2 ^ (8 * k) % 256)] = cel (l ++ nb (k + 1) s) := by
          rw [nb_succ, ← List.append_assoc, cel_append (l ++ nb k s), byteC]
          rfl
        rw [e, Nat.add_assoc] at hown'
        clear e hgrow hblk hr
        go_wp2_with fail
        go_roundw
        case rel => exact ⟨k + 1, by omega, by go_num, hown', hkp'⟩
        case measure => simp [intOf]; omega
      · obtain rfl : k = 4 := by omega
        obtain ⟨A3, c3, rfl, hc3, -, -, -⟩ := hr.form
        have B3 : Bs wr A3 (l ++ nb 4 s) := Own.at_ hr
        clear hr
        go_wp2_with fail
        refine (K.sum A3 (l.length + 4) c3 (l ++ nb 4 s) wr B3 (by rw [List.length_append, nb_length]) hc3 (by omega)).mono ?_
        rw [HR.out]
        rintro e w3 ⟨rfl, k3⟩
        go_wp2_with fail
        refine (works_crc K _).mono ?_
        rintro e w4 ⟨rfl, k4⟩
        go_wp2_with fail
        go_ret
        exact ⟨rfl, keeps_trans hkp (keeps_trans k3 k4)⟩
end Go.Proofs.Yteojfhlddblmgaa
