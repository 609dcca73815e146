/- The walk of OctetGets. -/
import Derived.Test.YtbbkkbfpojndmaaDoorWorksA
import Derived.Test.YtbbkkbfpojndmaaDoorRefOct
namespace Go.Proofs.YtbbkkbfpojndmaaDoor
open Go.RowKit
set_option linter.unusedSimpArgs false
set_option linter.unusedVariables false

/-- What a law leaves. -/
def Yes (w : World) (e : Ending) (w' : World) : Prop := e = .returned (.bool true) ∧ Keeps w w'

/-- two readers agree on any place and any size -/
theorem gets_agree (l : List UInt8) (n : Nat) (hn : n = l.length) (hm : n ≤ 131072) (pos size : Int) (p1 : -9223372036854775808 ≤ pos) (p2 : pos ≤ 9223372036854775807) :
    ∃ x f : Int, ∀ (A A' : Option Addr) (c c' : Nat) (w w' : World), Sizes w → Bs w A l → n ≤ c → Bs w' A' l →
      Calls Tryd.prog 13 #[.slice A n c, .int .i64 pos, .int .i64 size] w (fun e w1 => e = .returned (.tuple #[.int .u64 x, .int .i64 f]) ∧ w = w1) ∧
      Calls Tryd.prog 14 #[.slice A' n c', .int .i64 pos, .int .i64 size] w' (fun e w1 => e = .returned (.tuple #[.int .u64 x, .int .i64 f]) ∧ w' = w1) := by
  by_cases hno : isSz size = false ∨ pos < 0 ∨ (n : Int) - size < pos
  · exact ⟨0, 1, fun A A' c c' w w' hS hB hc hB' => ⟨get_no A n c pos size w hS (by omega) p1 p2 hno, refGet_no A' n c' pos size w' (by omega) p1 p2 hno⟩⟩
  · have h1 : isSz size = true := by cases h : isSz size <;> simp_all
    have hsz := isSz_true h1
    obtain ⟨s, rfl⟩ : ∃ s : Nat, size = (s : Int) := ⟨size.toNat, by omega⟩
    obtain ⟨p, rfl⟩ : ∃ p : Nat, pos = (p : Int) := ⟨pos.toNat, by omega⟩
    have hp : p + s ≤ n := by omega
    exact ⟨numAt l p s, 0, fun A A' c c' w w' hS hB hc hB' => ⟨get_yes A n c l p s w hS hB hn hc (by omega) h1 hp, refGet_yes A' n c' l p s w' hB' hn (by omega) h1 hp⟩⟩

set_option maxHeartbeats 800000 in
theorem gets_walk (A : Option Addr) (n c : Nat) (l : List UInt8) (pos size : Int) (w : World) (hS : Sizes w) (hB : Bs w A l) (hn : n = l.length) (p1 : -9223372036854775808 ≤ pos) (p2 : pos ≤ 9223372036854775807) (hlen : n ≤ maxLen) :
    Calls Tryd.prog 3 #[.slice A n c, .int .i64 pos, .int .i64 size] w (Yes w) := by
  unfold maxLen at hlen
  by_cases h : (131072 : Int) < n
  · have W := Lib.hid (works_any w hS)
    have HN := Lib.hid hn
    clear hn hB
    go_enter Tryd.func3, Tryd.ntmps3
    go_wp2_with (go_at_call 11; refine W.out.mono ?_; rintro e w1 ⟨rfl, k1⟩)
    go_ret
    exact ⟨rfl, k1⟩
  · have hm : n ≤ 131072 := by omega
    obtain ⟨x, f, hag⟩ := gets_agree l n hn hm pos size p1 p2
    have AG := Lib.hid hag
    have R := Lib.hid (roomy_any A n c l w hB hn (by omega))
    have HN := Lib.hid hn
    clear hn hag
    go_enter Tryd.func3, Tryd.ntmps3
    go_wp2_with fail
    refine R.out.mono ?_
    rintro e w1 ⟨ad, cap, rfl, r⟩
    have hS1 := hS.keep r.kept
    have hB1 := hB.keep r.kept
    have hin : Bs w1 (some ad) l := by have := r.bytes.take l.length; rwa [List.take_left] at this
    have hcap : n + 7 ≤ cap := by rw [HN.out]; exact r.fits
    have hcap' : n ≤ cap := by omega
    rw [← HN.out]
    go_wp2_with fail
    refine (AG.out (some ad) A cap c w1 w1 hS1 hin hcap' hB1).1.mono ?_
    rintro e w' ⟨rfl, rfl⟩
    go_wp2_with fail
    refine (AG.out (some ad) A cap c w1 w1 hS1 hin hcap' hB1).2.mono ?_
    rintro e w' ⟨rfl, rfl⟩
    go_wp2_with fail
    refine (kept_any ad n cap l A n c w1 r.bytes HN.out hcap (by omega) hB1 HN.out).mono ?_
    rintro e w2 ⟨rfl, k2⟩
    go_wp2_with fail
    refine (works_any w2 (hS1.keep k2)).mono ?_
    rintro e w3 ⟨rfl, k3⟩
    go_wp2_with fail
    go_ret
    exact ⟨rfl, keeps_trans r.kept (keeps_trans k2 k3)⟩
end Go.Proofs.YtbbkkbfpojndmaaDoor
