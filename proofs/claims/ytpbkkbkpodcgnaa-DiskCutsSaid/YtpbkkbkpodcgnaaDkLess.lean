/- Package disk: the order of loose sectors, as the library's sort asks for it. -/
import Derived.Test.YtpbkkbkpodcgnaaDkMem
import Derived.Lib.Bytealg
import Derived.Laws.Externs
import Derived.Sort.Grow
import Derived.Deep.RegionHeld3
namespace Go.Proofs.Ytpbkkbkpodcgnaa
open Go.RowKit Go.Sort
set_option linter.unusedSimpArgs false
set_option linter.unusedVariables false
set_option maxRecDepth 100000

theorem compareString_any (a b : List UInt8) (w : World) : Calls Try.prog 75 #[.string (str a), .string (str b)] w fun e w' => e = .returned (.int .i64 (Lib.compareBytes a b)) ∧ w = w' := by
  have h := Lib.run_compareString (P := Try.prog) (str a) (str b) w
  rw [str_data, str_data] at h
  go_enter Try.func75, Try.ntmps75
  go_wp2
  rw [run_callFunc_extern Try.func96 (by kernel_rfl) (by kernel_rfl) (by kernel_rfl) (e := Extern.BytealgCompare.compare) (by kernel_rfl), h]
  simp only [Result.andThen]
  rw [Oper.upon_value]
  go_wp2
  go_ret
  exact ⟨rfl, rfl⟩
theorem strCompare_any (a b : List UInt8) (w : World) : Calls Try.prog 68 #[.string (str a), .string (str b)] w fun e w' => e = .returned (.int .i64 (Lib.compareBytes a b)) ∧ w = w' := by
  have C := Lib.hid (compareString_any a b w)
  go_enter Try.func68, Try.ntmps68
  go_wp2_with (go_at_call 75; refine C.out.mono ?_; rintro e w' ⟨rfl, rfl⟩)
  go_ret
  exact ⟨rfl, rfl⟩
/-- how two numbers lie -/
def numC (a b : Nat) : Int := if a < b then -1 else if b < a then 1 else 0
theorem isNaNi_any (x : Nat) (w : World) : Calls Try.prog 76 #[.int .i64 x] w fun e w' => e = .returned (.bool false) ∧ w = w' := by
  go_enter Try.func76, Try.ntmps76
  go_wp2_with fail
  go_ret
  exact ⟨by simp, rfl⟩
set_option maxHeartbeats 4000000 in
theorem compareI_any (a b : Nat) (w : World) : Calls Try.prog 69 #[.int .i64 a, .int .i64 b] w fun e w' => e = .returned (.int .i64 (numC a b)) ∧ w = w' := by
  have N := Lib.hid isNaNi_any
  by_cases h1 : a < b
  · have e : numC a b = -1 := by unfold numC; rw [if_pos h1]
    rw [e]
    have h1' : (a : Int) < (b : Int) := by omega
    clear e h1
    go_enter Try.func69, Try.ntmps69
    go_wp2_with (go_at_call 76; refine (N.out _ _).mono ?_; rintro e w' ⟨rfl, rfl⟩)
    go_ret
    exact ⟨rfl, rfl⟩
  · by_cases h2 : b < a
    · have e : numC a b = 1 := by unfold numC; rw [if_neg h1, if_pos h2]
      rw [e]
      have h1' : ¬ (a : Int) < (b : Int) := by omega
      have h2' : (b : Int) < (a : Int) := by omega
      clear e h1 h2
      go_enter Try.func69, Try.ntmps69
      go_wp2_with (go_at_call 76; refine (N.out _ _).mono ?_; rintro e w' ⟨rfl, rfl⟩)
      go_ret
      exact ⟨rfl, rfl⟩
    · have e : numC a b = 0 := by unfold numC; rw [if_neg h1, if_neg h2]
      rw [e]
      have h1' : ¬ (a : Int) < (b : Int) := by omega
      have h2' : ¬ (b : Int) < (a : Int) := by omega
      clear e h1 h2
      go_enter Try.func69, Try.ntmps69
      go_wp2_with (go_at_call 76; refine (N.out _ _).mono ?_; rintro e w' ⟨rfl, rfl⟩)
      go_ret
      exact ⟨rfl, rfl⟩
/-- the first one that is not 0 -/
def firstI (x y : Int) : Int := if x = 0 then y else x
set_option maxHeartbeats 4000000 in
theorem orInt_any (x y : Int) (b : Nat) (w : World) (h0 : w.cell? ⟨b, 0, none⟩ = some (.int .i64 x)) (h1 : w.cell? ⟨b, 1, none⟩ = some (.int .i64 y)) : Calls Try.prog 67 #[.slice (some ⟨b, 0, none⟩) 2 2] w fun e w' => e = .returned (.int .i64 (firstI x y)) ∧ w = w' := by
  by_cases hx : x = 0
  · by_cases hy : y = 0
    · have e : firstI x y = 0 := by unfold firstI; rw [if_pos hx, hy]
      rw [e]
      subst hx
      subst hy
      clear e
      go_enter Try.func67, Try.ntmps67
      go_wp2_with fail
      refine wp_loop_rounds 3 ?_
      rw [rounds_succ]
      go_wp2
      rw [rounds_succ]
      go_wp2
      rw [rounds_succ]
      go_wp2
      go_ret
      exact ⟨rfl, rfl⟩
    · have e : firstI x y = y := by unfold firstI; rw [if_pos hx]
      rw [e]
      subst hx
      have hy' : (y == 0) = false := by rw [beq_eq_false_iff_ne]; exact hy
      clear e
      go_enter Try.func67, Try.ntmps67
      go_wp2_with fail
      refine wp_loop_rounds 2 ?_
      rw [rounds_succ]
      go_wp2
      rw [rounds_succ]
      go_wp2
      go_ret
      exact ⟨rfl, rfl⟩
  · have e : firstI x y = x := by unfold firstI; rw [if_neg hx]
    rw [e]
    have hx' : (x == 0) = false := by rw [beq_eq_false_iff_ne]; exact hx
    clear e
    go_enter Try.func67, Try.ntmps67
    go_wp2_with fail
    refine wp_loop_rounds 1 ?_
    rw [rounds_succ]
    go_wp2
    go_ret
    exact ⟨rfl, rfl⟩
/-- how two sectors lie -/
def plE (a b : List UInt8 × Nat) : Int := firstI (Lib.compareBytes a.1 b.1) (numC a.2 b.2)
set_option maxHeartbeats 8000000 in
theorem byPlace_any (a b : List UInt8 × Nat) (w : World) : Calls Try.prog 43 #[.agg #[.string (str a.1), .int .i64 (a.2 : Int)], .agg #[.string (str b.1), .int .i64 (b.2 : Int)]] w fun e w' => e = .returned (.int .i64 (plE a b)) ∧ ∃ q os', w' = grow (w.drewN q) os' := by
  have E1 := Box.new w 63 #[.string (str a.1), .int .i64 (a.2 : Int)]
  have E2 := Box.new (w.alloc (.cells #[.string (str a.1), .int .i64 (a.2 : Int)] 63)) 63 #[.string (str b.1), .int .i64 (b.2 : Int)]
  have E3 := E1.keep (keeps_alloc _ (.cells #[.string (str b.1), .int .i64 (b.2 : Int)] 63))
  simp only [World.size_alloc] at E2
  go_enter Try.func43, Try.ntmps43
  go_wp2_with fail
  have hW : (w.alloc (.cells #[.string (str a.1), .int .i64 (a.2 : Int)] 63)).alloc (.cells #[.string (str b.1), .int .i64 (b.2 : Int)] 63) = grow w #[(.cells #[.string (str a.1), .int .i64 (a.2 : Int)] 63), (.cells #[.string (str b.1), .int .i64 (b.2 : Int)] 63)] := by rw [alloc_eq_grow, alloc_eq_grow, grow_grow]; rfl
  generalize (w.alloc (.cells #[.string (str a.1), .int .i64 (a.2 : Int)] 63)).alloc (.cells #[.string (str b.1), .int .i64 (b.2 : Int)] 63) = W at *
  have a0 := E3.cell 0 rfl
  have a1 := E3.cell 1 rfl
  have b0 := E2.cell 0 rfl
  have b1 := E2.cell 1 rfl
  have SS := Lib.hid (fun (V : World) (k : Keeps W V) => show (V.cell? ⟨w.heap.size, 0, none⟩ = some (.string (str a.1)) ∧ V.cell? ⟨w.heap.size, 1, none⟩ = some (.int .i64 (a.2 : Int))) ∧ (V.cell? ⟨w.heap.size + 1, 0, none⟩ = some (.string (str b.1)) ∧ V.cell? ⟨w.heap.size + 1, 1, none⟩ = some (.int .i64 (b.2 : Int))) from ⟨⟨k.cellOf a0, k.cellOf a1⟩, k.cellOf b0, k.cellOf b1⟩)
  have CC := Lib.hid compareI_any
  have CS := Lib.hid strCompare_any
  have OO := Lib.hid orInt_any
  have HW := Lib.hid hW
  clear E1 E2 E3 hW a0 a1 b0 b1
  go_region_held3 (fun V => (V.cell? ⟨w.heap.size, 0, none⟩ = some (.string (str a.1)) ∧ V.cell? ⟨w.heap.size, 1, none⟩ = some (.int .i64 (a.2 : Int))) ∧ (V.cell? ⟨w.heap.size + 1, 0, none⟩ = some (.string (str b.1)) ∧ V.cell? ⟨w.heap.size + 1, 1, none⟩ = some (.int .i64 (b.2 : Int)))) (exact SS.out _ (by first | assumption | exact keeps_drew _ | exact keeps_trans (keeps_drew _) (keeps_alloc _ _))) (first
    | (go_at_call 68; refine (CS.out _ _ _).mono ?_; rintro ee w1 ⟨rfl, rfl⟩)
    | (go_at_call 69; refine (CC.out _ _ _).mono ?_; rintro ee w1 ⟨rfl, rfl⟩)
    | (go_at_call 67; refine (OO.out _ _ _ _ ((Box.new W.drew 3 _).cell 0 rfl) ((Box.new W.drew 3 _).cell 1 rfl)).mono ?_; rintro ee w1 ⟨rfl, rfl⟩))
  go_wp2_with fail
  go_ret
  exact ⟨rfl, 1, _, by rw [HW.out, alloc_eq_grow, grow_grow]; rfl⟩
/-! ### The order itself -/
theorem cmpB_spec : ∀ a b : List UInt8, (Lib.compareBytes a b < 0 ↔ a < b) ∧ (Lib.compareBytes a b = 0 ↔ a = b)
  | [], [] => by simp [Lib.compareBytes]
  | [], b :: ys => by simp [Lib.compareBytes]
  | a :: xs, [] => by simp [Lib.compareBytes]
  | a :: xs, b :: ys => by
    have ih := cmpB_spec xs ys
    unfold Lib.compareBytes
    rw [List.cons_lt_cons_iff]
    by_cases h1 : a < b
    · have hne : a ≠ b := fun e => by rw [e] at h1; exact UInt8.lt_irrefl b h1
      simp [h1, hne]
    · by_cases h2 : b < a
      · have hne : a ≠ b := fun e => by rw [e] at h2; exact UInt8.lt_irrefl b h2
        simp [h1, h2, hne]
      · have he : a = b := UInt8.le_antisymm (UInt8.not_lt.1 h2) (UInt8.not_lt.1 h1)
        subst he
        simp only [h1, if_false, false_or, true_and, List.cons.injEq]
        exact ih
def plLt (a b : List UInt8 × Nat) : Bool := decide (a.1 < b.1 ∨ (a.1 = b.1 ∧ a.2 < b.2))
theorem plE_lt (a b : List UInt8 × Nat) : decide (plE a b < 0) = plLt a b := by
  obtain ⟨h1, h2⟩ := cmpB_spec a.1 b.1
  unfold plLt plE firstI numC
  by_cases e : a.1 = b.1
  · have e0 := h2.2 e
    have hn : ¬ a.1 < b.1 := by rw [e]; exact lt_irr b.1
    rw [if_pos e0]
    simp only [e, true_and]
    rw [Bool.eq_iff_iff, decide_eq_true_iff, decide_eq_true_iff]
    have := lt_irr b.1
    split
    · simp [*]
    · split <;> simp [*]
  · have e0 : ¬ Lib.compareBytes a.1 b.1 = 0 := fun q => e (h2.1 q)
    rw [if_neg e0]
    simp only [e, false_and, or_false]
    rw [Bool.eq_iff_iff, decide_eq_true_iff, decide_eq_true_iff]
    exact h1
theorem plLt_irr (a : List UInt8 × Nat) : plLt a a = false := by
  unfold plLt
  have := lt_irr a.1
  simp [this]
theorem str_tri (a b : List UInt8) : a < b ∨ a = b ∨ b < a := by
  by_cases h1 : a < b
  · exact .inl h1
  · by_cases h2 : b < a
    · exact .inr (.inr h2)
    · exact .inr (.inl (List.le_antisymm (List.not_lt.1 h2) (List.not_lt.1 h1)))
theorem plLt_trans {a b c : List UInt8 × Nat} (h1 : plLt a b = true) (h2 : plLt b c = true) : plLt a c = true := by
  unfold plLt at *
  rw [decide_eq_true_iff] at *
  rcases h1 with h1 | ⟨e1, h1⟩ <;> rcases h2 with h2 | ⟨e2, h2⟩
  · exact .inl (List.lt_trans h1 h2)
  · rw [e2] at h1; exact .inl h1
  · rw [← e1] at h2; exact .inl h2
  · exact .inr ⟨e1.trans e2, by omega⟩
theorem plLt_tri (a b : List UInt8 × Nat) : plLt a b = true ∨ a = b ∨ plLt b a = true := by
  unfold plLt
  rw [decide_eq_true_iff, decide_eq_true_iff]
  rcases str_tri a.1 b.1 with h | h | h
  · exact .inl (.inl h)
  · rcases Nat.lt_trichotomy a.2 b.2 with h3 | h3 | h3
    · exact .inl (.inr ⟨h, h3⟩)
    · exact .inr (.inl (Prod.ext h h3))
    · exact .inr (.inr (.inr ⟨h.symm, h3⟩))
  · exact .inr (.inr (.inl h))
end Go.Proofs.Ytpbkkbkpodcgnaa
