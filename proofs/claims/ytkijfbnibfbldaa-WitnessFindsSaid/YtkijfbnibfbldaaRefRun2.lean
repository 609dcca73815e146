/- The reference of layer 14: come. -/
import Derived.Test.YtkijfbnibfbldaaRefRun
namespace Go.Proofs.Ytkijfbnibfbldaa
open Go.RowKit
set_option linter.unusedSimpArgs false
set_option linter.unusedVariables false
set_option maxRecDepth 100000

theorem info_reach : (Try.prog.info? 83).map (fun i => (i.zero, i.size, i.bytes)) = some (some (.agg #[.int .u32 0, .int .u64 0, .bool false]), 3, 24) := by kernel_rfl
theorem Only.cellW (w : World) (p : Addr) (u : Value) : Only w (w.setCell p u) (fun c => c = p.block) := ⟨rfl, rfl, rfl, by simp, fun k _ hn => Below.heap_setCell w p u k hn⟩
theorem rc_ones (r : Rc) : ∀ u ∈ r.vals, u.oneCell' = true := by
  intro u hu
  simp only [Rc.vals, List.mem_cons, List.not_mem_nil, or_false] at hu
  rcases hu with rfl | rfl | rfl <;> rfl
/-- what come leaves -/
def ComR (w : World) (B g : Nat) (l : List Rc) (v d : Nat) (sv : Value) (w' : World) : Prop :=
  ∃ g' n' c', sv = .slice (some ⟨g', 0, none⟩) n' c' ∧ n' = (comeR l v d).length ∧ Own w' B 83 3 (.slice (some ⟨g', 0, none⟩) n' c') n' (rcC (comeR l v d)) ∧ Turns w w' (fun i => i = g) (fun i => i = g')
set_option maxHeartbeats 16000000 in
theorem rcome_any {w : World} {B g n c : Nat} {l : List Rc} (hO : Own w B 83 3 (.slice (some ⟨g, 0, none⟩) n c) n (rcC l)) (hB : B ≤ w.heap.size) (hn : n = l.length) (hm : n ≤ 100000) (v d : Nat) :
    Calls Try.prog 35 #[.slice (some ⟨g, 0, none⟩) n c, .int .u32 (v : Int), .int .u64 (d : Int)] w fun e w' => ∃ sv, e = .returned sv ∧ ComR w B g l v d sv w' := by
  obtain ⟨i0, hi, hz0, hz1, hz2⟩ := info_parts info_reach
  have HO := Lib.hid hO
  have HN := Lib.hid hn
  have HB := Lib.hid hB
  have HM := Lib.hid hm
  have n1 : (n : Int) ≤ 100000 := by omega
  clear hO hn hm hB
  go_enter Try.func35, Try.ntmps35
  go_wp2_with fail
  go_loopw [7] (fun t wr => ∃ k : Nat, k ≤ n ∧ t = .int .i64 (k : Int) ∧ v ∉ (l.take k).map Rc.v ∧ Keeps w wr) (fun t _ => n - (intOf t).toNat)
  case atStart => exact ⟨0, Nat.zero_le _, rfl, by simp, keeps_refl _⟩
  case round =>
    obtain ⟨k, hk, rfl, hnot, hks⟩ := hrel
    have KS := Lib.hid hks
    have HNOT := Lib.hid hnot
    by_cases hlt : k < n
    · obtain ⟨⟨sv, sd, sz⟩, hs⟩ : ∃ s, l[k]? = some s := ⟨_, List.getElem?_eq_getElem (by have := HN.out; omega)⟩
      obtain ⟨⟨c0, c1, c2⟩, z1, -⟩ := own_rc (HO.out.keep hks) hs
      have k1 : (k : Int) < (n : Int) := by omega
      have HS := Lib.hid hs
      have HLT := Lib.hid hlt
      clear hk hks hs hlt hnot
      by_cases hv : sv = v
      · subst hv
        have CE := Lib.hid (comeR_at (d := d) HNOT.out HS.out rfl)
        simp only at CE
        have STAY := Lib.hid (fun (h : (sz || decide (sd ≤ d)) = true) => show ComR w B g l sv d (.slice (some ⟨g, 0, none⟩) n c) wr from by
          have e : comeR l sv d = l := by rw [CE.out, if_pos h]
          unfold ComR
          rw [e]
          exact ⟨g, n, c, rfl, HN.out, HO.out.keep KS.out, Turns.of_keeps KS.out⟩)
        cases sz with
        | true =>
          have ST := Lib.hid (STAY.out rfl)
          clear STAY CE
          go_wp2_with fail
          go_ret
          exact ⟨_, rfl, ST.out⟩
        | false =>
          by_cases hd : d < sd
          · have q1 : decide ((d : Int) < (sd : Int)) = true := decide_eq_true (by omega)
            have q2 : decide (d < sd) = true := decide_eq_true hd
            have FIN := Lib.hid (show ComR w B g l sv d (.slice (some ⟨g, 0, none⟩) n c) (wr.setCell ⟨g, k * 3 + 1, none⟩ (.int .u64 (d : Int))) from by
              have e : comeR l sv d = l.set k ⟨sv, d, false⟩ := by rw [CE.out, if_neg (by simp; omega)]
              unfold ComR
              rw [e, ← rcC_setD d HS.out, List.length_set]
              exact ⟨g, n, c, rfl, HN.out, (HO.out.keep KS.out).store (by rw [rcC_len]; have := HLT.out; have := HN.out; omega) _, (Turns.of_keeps KS.out).trans ⟨Only.cellW wr ⟨g, k * 3 + 1, none⟩ _, fun _ h => .inl h⟩⟩)
            clear STAY CE hd
            go_wp2_with fail
            go_ret
            exact ⟨_, rfl, FIN.out⟩
          · have q1 : decide ((d : Int) < (sd : Int)) = false := decide_eq_false (by omega)
            have q2 : decide (d < sd) = false := decide_eq_false hd
            have ST := Lib.hid (STAY.out (by simp; omega))
            clear STAY CE hd
            go_wp2_with fail
            go_ret
            exact ⟨_, rfl, ST.out⟩
      · have h4 : ((sv : Int) == (v : Int)) = false := by simp only [beq_eq_false_iff_ne, ne_eq, Int.natCast_inj]; exact hv
        have NN := Lib.hid (show v ∉ (l.take (k + 1)).map Rc.v from by
          rw [List.take_add_one, HS.out]
          simp only [Option.toList_some, List.map_append, List.map_cons, List.map_nil, List.mem_append, List.mem_singleton, not_or]
          exact ⟨HNOT.out, fun e => hv e.symm⟩)
        clear hv
        go_wp2_with fail
        go_roundw
        case rel => exact ⟨k + 1, by have := HLT.out; omega, by go_num, NN.out, KS.out⟩
        case measure => have := HLT.out; simp [intOf]; omega
    · obtain rfl : k = n := by omega
      have CE := Lib.hid (show comeR l v d = l ++ [⟨v, d, false⟩] from comeR_none (by have := HNOT.out; rw [HN.out, List.take_length] at this; exact this))
      have HO2 := Lib.hid (HO.out.keep KS.out)
      have AT := Lib.hid (show ∀ W : World, At (W.alloc (.cells #[.int .u32 (v : Int), .int .u64 (d : Int), .bool false] 83)) (W.alloc (.cells #[.int .u32 (v : Int), .int .u64 (d : Int), .bool false] 83)).heap.size (some ⟨W.heap.size, 0, none⟩) (Rc.vals ⟨v, d, false⟩) from fun W => At.new _ _ _ _ (by simp))
      clear hk hlt hnot hks
      go_wp2_with (at_builtin; refine wpList_app _ rfl _ _ 84 rfl B 83 i0 (.agg #[.int .u32 0, .int .u64 0, .bool false]) 3 24 Try.underlying84 hi hz0 hz1 hz2 rfl (by decide) _ k (rcC l) rfl (HO2.out.keep (keeps_alloc _ _)) _ _ 1 1 (Rc.vals ⟨v, d, false⟩) rfl rfl (AT.out wr) (rc_ones _) (by have := HM.out; unfold maxLen; omega) (by have := HM.out; omega) (Nat.le_trans HB.out (keeps_trans KS.out (keeps_alloc _ _)).size) ?_)
      intro v8 w8 o8 g8 b8
      have kA := keeps_trans KS.out (keeps_alloc wr (.cells #[.int .u32 (v : Int), .int .u64 (d : Int), .bool false] 83))
      have FIN := Lib.hid (show ComR w B g l v d v8 w8 from by
        unfold ComR
        rw [CE.out, rcC_append]
        obtain ⟨A8, c8, rfl, -, -, h3, h4⟩ := o8.form
        have hne : A8 ≠ none := fun e => by have := (h3 e).1; omega
        obtain ⟨g', hg'⟩ : ∃ g', A8 = some ⟨g', 0, none⟩ := by
          obtain ⟨g', hg', -⟩ := o8.cell (j := 0) (by rw [o8.1]; omega)
          exact ⟨g', hg'⟩
        subst hg'
        refine ⟨g', k + 1, c8, rfl, by rw [List.length_append, ← HN.out]; rfl, o8, ⟨?_, ?_⟩⟩
        · exact (Turns.of_keeps (S := fun i => i = g) kA).only.grown g8 (fun r hr => by cases hr; exact .inl rfl)
        · intro i hi
          rcases b8 with b | b
          · left; simp only [Value.ownBlock, Option.some.injEq] at b; omega
          · right; simp only [Value.ownBlock, Option.some.injEq] at b; have := KS.out.size; omega)
      clear o8 g8 b8
      go_wp2_with fail
      go_ret
      exact ⟨_, rfl, FIN.out⟩
end Go.Proofs.Ytkijfbnibfbldaa
