/- The walk of CrcParts, from the contracts of crc.Extend and crc.Sum. -/
import Derived.Test.YteojfhlddblmgaaLawCrc
namespace Go.Proofs.Yteojfhlddblmgaa
open Go.RowKit
set_option linter.unusedSimpArgs false
set_option linter.unusedVariables false

/-- the address of b[k:] -/
def dropA (A : Option Addr) (c k : Nat) : Option Addr := if c = k then A else A.map (·.add k)
theorem Bs.dropA {w : World} {A : Option Addr} {l : List UInt8} (h : Bs w A l) {n c k : Nat} (hn : n = l.length) (hc : n ≤ c) : Bs w (dropA A c k) (l.drop k) := by
  unfold Proofs.Yteojfhlddblmgaa.dropA
  by_cases e : c = k
  · rw [if_pos e, List.drop_of_length_le (by omega)]
    exact Bs.nil _ _
  · rw [if_neg e]
    rcases A with _ | ad
    · rcases l with _ | ⟨b, l⟩
      · simpa using Bs.nil _ _
      · obtain ⟨ad, e, _⟩ := h.at_ (k := 0) (by simp)
        cases e
    · exact h.drop k
section
variable {P : Program}
theorem run_from (t e : TypeId) (ht : P.underlying t = some (.slice e)) (he : (P.info? e).map (·.size) = some 1) (A : Option Addr) (n c k : Nat) (hk : k ≤ n) (w : World) :
    (Instr.sliceAt t (.slice A n c) (some (.int .i64 (k : Int))) none none).run P w = .ok (.slice (dropA A c k) (n - k) (c - k)) w := by
  have he' : P.elem t = e := by simp [Program.elem, ht]
  have ht' : P.underlying t = some (.slice (P.elem t)) := by rw [he']; exact ht
  obtain ⟨i, hi, hs⟩ := Option.map_eq_some_iff.1 he
  rw [run_sliceAt_slice (h := ht'), run_slice_l (ht := ht') (h0 := by omega) (h1 := by omega)]
  rw [he']
  simp [sizeOf, typeInfo, hi, hs, sliced, dropA]
end
theorem sizeU8 : (Try.prog.info? 5).map (·.size) = some 1 := by kernel_rfl

set_option maxHeartbeats 2000000 in
theorem parts_walk (K : CrcOk) (x : Nat) (hx : x < 4294967296) (A : Option Addr) (n c : Nat) (l : List UInt8) (z : Int) (w : World) (hB : Bs w A l) (hn : n = l.length) (hc : n ≤ c) (hlen : n ≤ maxLen) :
    Calls Try.prog 4 #[.int .u32 x, .slice A n c, .int .i64 z] w (Yes w) := by
  unfold maxLen at hlen
  by_cases h : (65536 : Int) < n ∨ z < 0 ∨ (n : Int) < z
  · have W := Lib.hid (works_crc K w)
    clear hn hB
    by_cases h1 : (65536 : Int) < n
    · go_enter Try.func4, Try.ntmps4
      go_wp2_with (go_at_call 9; refine W.out.mono ?_; rintro e w1 ⟨rfl, k1⟩)
      go_ret
      exact ⟨rfl, k1⟩
    · by_cases h2 : z < 0
      · clear h
        go_enter Try.func4, Try.ntmps4
        go_wp2_with (go_at_call 9; refine W.out.mono ?_; rintro e w1 ⟨rfl, k1⟩)
        go_ret
        exact ⟨rfl, k1⟩
      · have h3 : (n : Int) < z := by omega
        clear h
        go_enter Try.func4, Try.ntmps4
        go_wp2_with (go_at_call 9; refine W.out.mono ?_; rintro e w1 ⟨rfl, k1⟩)
        go_ret
        exact ⟨rfl, k1⟩
  · obtain ⟨k, rfl⟩ : ∃ k : Nat, z = (k : Int) := ⟨z.toNat, by omega⟩
    have hm : n ≤ 65536 := by omega
    have hk : k ≤ n := by omega
    have hk' : (k : Int) ≤ n := by omega
    have hk0 : (0 : Int) ≤ k := by omega
    have hkc : (k : Int) ≤ c := by omega
    clear h
    have hs1 := run_from (P := Try.prog) 23 5 Try.underlying23 sizeU8 A n c k hk
    have E1 := Lib.hid (fun W (q : Keeps w W) => K.ext x hx A k c (l.take k) W ((hB.keep q).take k) (by rw [List.length_take]; omega) (by omega) (by omega))
    have E2 := Lib.hid (fun W (q : Keeps w W) => K.ext (extC x (l.take k)) (extC_lt hx _) (dropA A c k) (n - k) (c - k) (l.drop k) W ((hB.keep q).dropA hn hc) (by rw [List.length_drop]; omega) (by omega) (by omega))
    have E3 := Lib.hid (fun W (q : Keeps w W) => K.ext x hx A n c l W (hB.keep q) hn hc (by omega))
    have S1 := Lib.hid (fun W (q : Keeps w W) => K.sum A k c (l.take k) W ((hB.keep q).take k) (by rw [List.length_take]; omega) (by omega) (by omega))
    have E4 := Lib.hid (fun W (q : Keeps w W) => K.ext (extC 0 (l.take k)) (extC_lt (by decide) _) (dropA A c k) (n - k) (c - k) (l.drop k) W ((hB.keep q).dropA hn hc) (by rw [List.length_drop]; omega) (by omega) (by omega))
    have S2 := Lib.hid (fun W (q : Keeps w W) => K.sum A n c l W (hB.keep q) hn hc (by omega))
    have WW := Lib.hid (fun W => works_crc K W)
    rw [← extC_append, List.take_append_drop] at E2 E4
    have b1 := extC_lt hx (l.take k)
    have b2 := extC_lt hx l
    have b3 := extC_lt (s := 0) (by decide) (l.take k)
    have b4 := extC_lt (s := 0) (by decide) l
    clear hB hn
    generalize extC x (l.take k) = p1 at *
    generalize extC x l = p2 at *
    generalize extC 0 (l.take k) = p3 at *
    generalize extC 0 l = p4 at *
    generalize dropA A c k = D at *
    go_enter Try.func4, Try.ntmps4
    go_wp2_with fail
    go_region_held3 (fun _ => True) (trivial) (first
      | (go_at_call 11; refine (E1.out _ (keeps_drew _)).mono ?_; rintro e w1 ⟨rfl, k1⟩; replace k1 := keeps_trans (keeps_drew _) k1; clear E1)
      | (go_at_call 11; refine (E2.out _ k1).mono ?_; rintro e w2 ⟨rfl, k2⟩; replace k2 := keeps_trans k1 k2; clear E2)
      | (go_at_call 11; refine (E3.out _ k2).mono ?_; rintro e w3 ⟨rfl, k3⟩; replace k3 := keeps_trans k2 k3; clear E3)
      | (go_at_call 13; refine (S1.out _ k3).mono ?_; rintro e w4 ⟨rfl, k4⟩; replace k4 := keeps_trans k3 k4; clear S1)
      | (go_at_call 11; refine (E4.out _ k4).mono ?_; rintro e w5 ⟨rfl, k5⟩; replace k5 := keeps_trans k4 k5; clear E4)
      | (go_at_call 13; refine (S2.out _ k5).mono ?_; rintro e w6 ⟨rfl, k6⟩; replace k6 := keeps_trans k5 k6; clear S2)
      | (go_at_call 9; refine (WW.out _).mono ?_; rintro e w7 ⟨rfl, k7⟩; replace k7 := keeps_trans k6 k7; clear WW))
    go_wp2_with fail
    go_ret
    exact ⟨rfl, k7⟩
end Go.Proofs.Yteojfhlddblmgaa
