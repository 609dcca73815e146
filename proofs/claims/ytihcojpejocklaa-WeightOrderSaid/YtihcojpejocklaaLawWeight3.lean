/- The walk of WeightBetter. -/
import Derived.Test.YtihcojpejocklaaLawWeight
import Derived.Test.YtihcojpejocklaaBox
namespace Go.Proofs.Ytihcojpejocklaa
open Go.RowKit
set_option linter.unusedSimpArgs false
set_option linter.unusedVariables false
set_option maxRecDepth 100000

/-- the four cells of an edge in a block of the call's own -/
def EdAt (W : World) (b t h x m : Nat) : Prop := W.cell? ⟨b, 0, none⟩ = some (.int .u32 t) ∧ W.cell? ⟨b, 1, none⟩ = some (.int .u32 h) ∧ W.cell? ⟨b, 2, none⟩ = some (.int .u64 x) ∧ W.cell? ⟨b, 3, none⟩ = some (.int .u32 m)
theorem Box.ed {W : World} {b : Nat} {T : TypeId} {t h x m : Nat} (B : Box W b T #[.int .u32 t, .int .u32 h, .int .u64 x, .int .u32 m]) : EdAt W b t h x m := ⟨B.cell 0 rfl, B.cell 1 rfl, B.cell 2 rfl, B.cell 3 rfl⟩

set_option maxHeartbeats 4000000 in
theorem better_walk (K : WeightOk) (t h x m t' h' x' m' : Nat) (ht : t < 4294967296) (hh : h < 4294967296) (hx : x < 18446744073709551616) (hm : m < 4294967296) (ht' : t' < 4294967296) (hh' : h' < 4294967296) (hx' : x' < 18446744073709551616) (hm' : m' < 4294967296) (w : World) :
    Calls Try.prog 4 #[.agg #[.int .u32 t, .int .u32 h, .int .u64 x, .int .u32 m], .agg #[.int .u32 t', .int .u32 h', .int .u64 x', .int .u32 m']] w (Yes w) := by
  have C1 := Lib.hid (K.better t h x m t' h' x' m' ht hh hx hm ht' hh' hx' hm')
  have C2 := Lib.hid (refBetter_any t h x m t' h' x' m' hx hm hx' hm')
  have C3 := Lib.hid (K.better t' h' x' m' t h x m ht' hh' hx' hm' ht hh hx hm)
  have C4 := Lib.hid (refBetter_any t' h' x' m' t h x m hx' hm' hx hm)
  have WW := Lib.hid (fun W => works_weight K W)
  generalize betB x m x' m' = ab at *
  generalize betB x' m' x m = ba at *
  have BA := Lib.hid (fun (W : World) (k : Keeps ((w.alloc (.cells #[.int .u32 t, .int .u32 h, .int .u64 x, .int .u32 m] 30)).alloc (.cells #[.int .u32 t', .int .u32 h', .int .u64 x', .int .u32 m'] 30)) W) =>
    And.intro (((Box.new w 30 #[.int .u32 t, .int .u32 h, .int .u64 x, .int .u32 m]).keep (keeps_trans (keeps_alloc _ _) k)).ed) (((Box.new (w.alloc (.cells #[.int .u32 t, .int .u32 h, .int .u64 x, .int .u32 m] 30)) 30 #[.int .u32 t', .int .u32 h', .int .u64 x', .int .u32 m']).keep k).ed))
  have es : (w.alloc (.cells #[.int .u32 t, .int .u32 h, .int .u64 x, .int .u32 m] 30)).heap.size = w.heap.size + 1 := by simp
  rw [es] at BA
  clear es K hx hm hx' hm' ht hh ht' hh'
  go_enter Try.func4, Try.ntmps4
  go_wp2_with fail
  have k0 : Keeps w ((w.alloc (.cells #[.int .u32 t, .int .u32 h, .int .u64 x, .int .u32 m] 30)).alloc (.cells #[.int .u32 t', .int .u32 h', .int .u64 x', .int .u32 m'] 30)) := keeps_trans (keeps_alloc _ _) (keeps_alloc _ _)
  generalize ((w.alloc (.cells #[.int .u32 t, .int .u32 h, .int .u64 x, .int .u32 m] 30)).alloc (.cells #[.int .u32 t', .int .u32 h', .int .u64 x', .int .u32 m'] 30)) = W at *
  generalize w.heap.size = B at *
  go_region_held3 (fun V => (V.cell? ⟨B, 0, none⟩ = some (.int .u32 t) ∧ V.cell? ⟨B, 1, none⟩ = some (.int .u32 h) ∧ V.cell? ⟨B, 2, none⟩ = some (.int .u64 x) ∧ V.cell? ⟨B, 3, none⟩ = some (.int .u32 m)) ∧ (V.cell? ⟨B + 1, 0, none⟩ = some (.int .u32 t') ∧ V.cell? ⟨B + 1, 1, none⟩ = some (.int .u32 h') ∧ V.cell? ⟨B + 1, 2, none⟩ = some (.int .u64 x') ∧ V.cell? ⟨B + 1, 3, none⟩ = some (.int .u32 m'))) (exact BA.out _ (by first | assumption | exact keeps_drew _)) (first
    | (go_at_call 16; refine (C1.out _).mono ?_; rintro e w1 ⟨rfl, k1⟩; replace k1 := keeps_trans (keeps_drew _) k1; clear C1)
    | (go_at_call 17; refine (C2.out _).mono ?_; rintro e w2 ⟨rfl, k2⟩; replace k2 := keeps_trans k1 k2; clear C2)
    | (go_at_call 16; refine (C3.out _).mono ?_; rintro e w3 ⟨rfl, k3⟩; replace k3 := keeps_trans k2 k3; clear C3)
    | (go_at_call 17; refine (C4.out _).mono ?_; rintro e w4 ⟨rfl, k4⟩; replace k4 := keeps_trans k3 k4; clear C4)
    | (go_at_call 15; refine (WW.out _).mono ?_; rintro e w5 ⟨rfl, k5⟩; replace k5 := keeps_trans k4 k5; clear WW))
  go_wp2_with fail
  go_ret
  exact ⟨rfl, keeps_trans k0 k5⟩
end Go.Proofs.Ytihcojpejocklaa
