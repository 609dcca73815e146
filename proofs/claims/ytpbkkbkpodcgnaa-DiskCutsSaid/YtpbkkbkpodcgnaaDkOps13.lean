/- Package disk: the closure that gathers what is moved. -/
import Derived.Test.YtpbkkbkpodcgnaaDkOps12
import Derived.Test.YtpbkkbkpodcgnaaIterP
namespace Go.Proofs.Ytpbkkbkpodcgnaa
open Go.RowKit Go.Shelf
set_option linter.unusedSimpArgs false
set_option linter.unusedVariables false
set_option maxRecDepth 100000

theorem info_place : (Try.prog.info? 63).map (fun i => (i.zero, i.size, i.bytes)) = some (some (.agg #[.string ⟨#[]⟩, .int .i64 0]), 2, 24) := by kernel_rfl
/-- what is moved of those met -/
def movL (a c : List UInt8) (pre : List Pl) : List Pl := (pre.filter fun p => decide (p.1 = a)).map fun p => (c, p.2)
theorem movL_yes {a c : List UInt8} {pre : List Pl} {x : Pl} (h : x.1 = a) : movL a c (pre ++ [x]) = movL a c pre ++ [(c, x.2)] := by
  unfold movL
  rw [List.filter_append, List.map_append]
  simp [h]
theorem movL_no {a c : List UInt8} {pre : List Pl} {x : Pl} (h : x.1 ≠ a) : movL a c (pre ++ [x]) = movL a c pre := by
  unfold movL
  rw [List.filter_append, List.map_append]
  simp [h]
theorem movL_len (a c : List UInt8) (pre : List Pl) : (movL a c pre).length ≤ pre.length := by
  unfold movL
  rw [List.length_map]
  exact List.length_filter_le _ _
theorem mem_movL (a c : List UInt8) (pre : List Pl) (p : Pl) : p ∈ movL a c pre ↔ p.1 = c ∧ (a, p.2) ∈ pre := by
  unfold movL
  rw [List.mem_map]
  constructor
  · rintro ⟨q, hq, rfl⟩
    obtain ⟨h1, h2⟩ := List.mem_filter.1 hq
    have h3 := of_decide_eq_true h2
    exact ⟨rfl, by rw [← h3]; exact h1⟩
  · rintro ⟨h1, h2⟩
    exact ⟨(a, p.2), List.mem_filter.2 ⟨h2, decide_eq_true rfl⟩, Prod.ext h1.symm rfl⟩
/-- the closure's own: two names, and the slice of what is moved -/
def MoveJ (B bf bm bt : Nat) (a c : List UInt8) (pre : List Pl) (T : Nat → Prop) (W : World) : Prop :=
  ∃ v, Box W bf 9 #[.string (str a)] ∧ Box W bt 9 #[.string (str c)] ∧ Box W bm 37 #[v] ∧ Own W B 63 2 v (movL a c pre).length ((movL a c pre).flatMap celP) ∧ T = fun x => x = bf ∨ x = bt ∨ x = bm ∨ v.ownBlock = some x
theorem Own.not_box2 {w : World} {base size : Nat} {e t : TypeId} {v : Value} {n : Nat} {xs : List Value} {b : Nat} {cs : Array Value} (h : Own w base e size v n xs) (hb : Box w b t cs) (hne : t ≠ e) : v.ownBlock ≠ some b := by
  intro hv
  rcases h.2 with ⟨rfl, _⟩ | ⟨g, cap, cur, fz, rfl, _, hg, _⟩
  · simp [Value.ownBlock] at hv
  · simp only [Value.ownBlock, Option.some.injEq] at hv
    subst hv
    exact row_ne hb hg hne rfl
theorem moveJ_same {B bf bm bt : Nat} {a c : List UInt8} : ∀ pre T W W', MoveJ B bf bm bt a c pre T W → (∀ i, T i → W'.heap[i]? = W.heap[i]?) → W.heap.size ≤ W'.heap.size → MoveJ B bf bm bt a c pre T W' := by
  rintro pre T W W' ⟨v, h1, h2, h3, h4, rfl⟩ hs hsz
  exact ⟨v, (hs bf (.inl rfl)).trans h1, (hs bt (.inr (.inl rfl))).trans h2, (hs bm (.inr (.inr (.inl rfl)))).trans h3, h4.same fun k hk => hs k (.inr (.inr (.inr hk))), rfl⟩
theorem moveJ_lt {B bf bm bt : Nat} {a c : List UInt8} : ∀ pre T W, MoveJ B bf bm bt a c pre T W → ∀ i, T i → i < W.heap.size := by
  rintro pre T W ⟨v, h1, h2, h3, h4, rfl⟩ i hi
  rcases hi with rfl | rfl | rfl | hi
  · exact h1.lt
  · exact h2.lt
  · exact h3.lt
  · exact (h4.lt i hi).2
theorem str_place : 9 ≠ 63 := by decide
theorem sl_place : 37 ≠ 63 := by decide
set_option maxHeartbeats 16000000 in
theorem renameC_any (B bf bm bt : Nat) (a c : List UInt8) (pre : List Pl) (T : Nat → Prop) (x : Pl) (W : World) (hJ : MoveJ B bf bm bt a c pre T W) (hB : B ≤ W.heap.size) (hlen : pre.length ≤ 100000000) (hd : bm ≠ bf ∧ bm ≠ bt) :
    Calls Try.prog 59 (#[.agg #[.string (str x.1), .int .i64 (x.2 : Int)]] ++ #[.pointer (some ⟨bf, 0, none⟩), .pointer (some ⟨bm, 0, none⟩), .pointer (some ⟨bt, 0, none⟩)]) W fun e W' => e = .returned (.bool (decide (x.1 = a ∨ x.1 = c))) ∧ ∃ T', MoveJ B bf bm bt a c (pre ++ [x]) T' W' ∧ Turns W W' T T' := by
  show Calls _ _ #[.agg #[.string (str x.1), .int .i64 (x.2 : Int)], .pointer (some ⟨bf, 0, none⟩), .pointer (some ⟨bm, 0, none⟩), .pointer (some ⟨bt, 0, none⟩)] W _
  obtain ⟨i0, hi, hz0, hz1, hz2⟩ := info_parts info_place
  have HJ := Lib.hid hJ
  obtain ⟨v, h1, h2, h3, h4, hT⟩ := hJ
  obtain ⟨A, cap, rfl, hcap, hcm, -⟩ := h4.form
  have k := keeps_alloc W (.cells #[.string (str x.1), .int .i64 (x.2 : Int)] 63)
  have c1 := (h1.keep k).cell 0 rfl
  have c2 := (h2.keep k).cell 0 rfl
  have c3 := (h3.keep k).cell 0 rfl
  have bx := Box.new W 63 #[.string (str x.1), .int .i64 (x.2 : Int)]
  have p0 := bx.cell 0 rfl
  have p1 := bx.cell 1 rfl
  have l1 := h1.lt
  have l2 := h2.lt
  have l3 := h3.lt
  have he := str_eq_cases x.1 a
  have hec := str_eq_cases x.1 c
  have K := Lib.hid k
  have HL := Lib.hid hlen
  have HB := Lib.hid hB
  have HD := Lib.hid hd
  have HT := Lib.hid hT
  have H1 := Lib.hid h1
  have H2 := Lib.hid h2
  have H3 := Lib.hid h3
  have H4 := Lib.hid h4
  have MN := Lib.hid (movL_len a c pre)
  by_cases ha : x.1 = a
  · rw [decide_eq_true (.inl ha)]
    rw [decide_eq_true ha] at he
    have MY := Lib.hid (movL_yes (c := c) (pre := pre) ha)
    have k2 := keeps_trans k (keeps_alloc (W.alloc (.cells #[.string (str x.1), .int .i64 (x.2 : Int)] 63)) (.cells #[.string (str c), .int .i64 (x.2 : Int)] 63))
    have bx2 := bx.keep (keeps_alloc (W.alloc (.cells #[.string (str x.1), .int .i64 (x.2 : Int)] 63)) (.cells #[.string (str c), .int .i64 (x.2 : Int)] 63))
    have MV := Lib.hid (show ∀ w4, ((W.alloc (.cells #[.string (str x.1), .int .i64 (x.2 : Int)] 63)).alloc (.cells #[.string (str c), .int .i64 (x.2 : Int)] 63)).grownBy w4 (Value.slice A (movL a c pre).length cap).ownBlock → Box w4 bf 9 #[.string (str a)] ∧ Box w4 bt 9 #[.string (str c)] ∧ Box w4 bm 37 #[.slice A (movL a c pre).length cap] ∧ Box w4 W.heap.size 63 #[.string (str x.1), .int .i64 (x.2 : Int)] from fun w4 hg => by
      have far : ∀ {i : Nat} {t : TypeId} {cs : Array Value}, Box W i t cs → t ≠ 63 → Box w4 i t cs := fun {i t cs} hb hne => (hg.block i (Nat.lt_of_lt_of_le hb.lt k2.size) (fun e => h4.not_box2 hb hne e.symm)).trans (hb.keep k2)
      exact ⟨far h1 str_place, far h2 str_place, far h3 sl_place, (hg.block _ bx2.lt (fun e => by have := (h4.lt _ e.symm).2; omega)).trans bx2⟩)
    have MF := Lib.hid (show ∀ w4 v4, Own w4 B 63 2 v4 ((movL a c pre).length + 1) ((movL a c pre).flatMap celP ++ [.string (str c), .int .i64 (x.2 : Int)]) → ((W.alloc (.cells #[.string (str x.1), .int .i64 (x.2 : Int)] 63)).alloc (.cells #[.string (str c), .int .i64 (x.2 : Int)] 63)).grownBy w4 (Value.slice A (movL a c pre).length cap).ownBlock → (v4.ownBlock = (Value.slice A (movL a c pre).length cap).ownBlock ∨ v4.ownBlock = some ((W.alloc (.cells #[.string (str x.1), .int .i64 (x.2 : Int)] 63)).alloc (.cells #[.string (str c), .int .i64 (x.2 : Int)] 63)).heap.size) →
        MoveJ B bf bm bt a c (pre ++ [x]) (fun i => i = bf ∨ i = bt ∨ i = bm ∨ v4.ownBlock = some i) (w4.setCell ⟨bm, 0, none⟩ v4) ∧ Turns W (w4.setCell ⟨bm, 0, none⟩ v4) T (fun i => i = bf ∨ i = bt ∨ i = bm ∨ v4.ownBlock = some i) from fun w4 v4 ho hg hb => by
      obtain ⟨b1, b2, b3, b4⟩ := MV.out w4 hg
      have hmb : v4.ownBlock ≠ some bm := ho.not_box2 b3 sl_place
      refine ⟨⟨v4, b1.far (fun e => HD.out.1 e.symm) _, b2.far (fun e => HD.out.2 e.symm) _, by simpa using b3.set 0 v4, ?_, rfl⟩, ⟨⟨hg.os, hg.tape, hg.output, by have := hg.size; have := k2.size; simp at *; omega, fun i hi hn => ?_⟩, fun i hi => ?_⟩⟩
      · rw [movL_yes ha, List.length_append, List.flatMap_append]
        exact ho.same fun g hgg => Below.heap_setCell _ ⟨bm, 0, none⟩ _ g (fun e => hmb (by rw [hgg, e]))
      · rw [hT] at hn
        rw [Below.heap_setCell _ ⟨bm, 0, none⟩ _ i (fun e => hn (.inr (.inr (.inl e))))]
        exact (hg.block i (Nat.lt_of_lt_of_le hi k2.size) (fun e => hn (.inr (.inr (.inr e.symm))))).trans (k2.block i hi)
      · rw [hT]
        rcases hi with hi | hi | hi | hi
        · exact .inl (.inl hi)
        · exact .inl (.inr (.inl hi))
        · exact .inl (.inr (.inr (.inl hi)))
        · rcases hb with e | e
          · exact .inl (.inr (.inr (.inr (by rw [← e]; exact hi))))
          · rw [e] at hi
            obtain rfl := Option.some.inj hi
            exact .inr (by simp; omega))
    clear h1 h2 h3 h4 hT k bx hcm hcap hlen hB hd ha hec k2 bx2
    generalize movL a c pre = mv at *
    generalize str x.1 = sx at *
    go_enter Try.func59, Try.ntmps59
    go_wp2_with (at_builtin; refine wpList_app _ rfl _ _ 37 rfl B 63 i0 (.agg #[.string ⟨#[]⟩, .int .i64 0]) 2 24 Try.underlying37 hi hz0 hz1 hz2 rfl (by decide) _ mv.length _ rfl ((H4.out.keep K.out).keep (keeps_alloc _ (.cells #[.string (str c), .int .i64 (x.2 : Int)] 63))) _ (some ⟨W.heap.size + 1, 0, none⟩) 1 1 [.string (str c), .int .i64 (x.2 : Int)] rfl rfl (by have := at_new (W.alloc (.cells #[.string sx, .int .i64 (x.2 : Int)] 63)) 63 #[.string (str c), .int .i64 (x.2 : Int)]; simpa using this) (by intro u hu; simp only [List.mem_cons, List.not_mem_nil, or_false] at hu; rcases hu with rfl | rfl <;> rfl) (by have := HL.out; have := MN.out; unfold maxLen; omega) (by have := HL.out; have := MN.out; omega) (by have := HB.out; simp; omega) ?_; intro v4 w4 hown4 hgrow4 hblk4; obtain ⟨A4, cp4, rfl, -⟩ := hown4.form; have hs4 : W.heap.size + 2 ≤ w4.heap.size := (by have := hgrow4.size; simp at this; omega); obtain ⟨b1, b2, b3, b4⟩ := MV.out w4 hgrow4; have m0 := b3.cell 0 rfl; have m1 := b3.frozen 0; have ml4 := b3.lt; have b5 := b1.far (p := ⟨bm, 0, none⟩) (fun e => HD.out.1 e.symm) (.slice A4 (mv.length + 1) cp4); have q1 := b5.cell 0 rfl; have b6 := b4.far (p := ⟨bm, 0, none⟩) (show W.heap.size ≠ bm by omega) (.slice A4 (mv.length + 1) cp4); have q2 := b6.cell 0 rfl)
    have FIN := MF.out w4 (.slice A4 (mv.length + 1) cp4) hown4 hgrow4 hblk4
    clear hown4 hgrow4 hblk4
    go_ret
    exact ⟨by first | rfl | simp [he], _, FIN⟩
  · rw [decide_eq_false ha] at he
    have MNO := Lib.hid (movL_no (c := c) (pre := pre) ha)
    by_cases hc : x.1 = c
    · rw [decide_eq_true (.inr hc)]
      rw [decide_eq_true hc] at hec
      clear h1 h2 h3 h4 hT bx hcm hcap hlen hB hd ha hc
      generalize str x.1 = sx at *
      go_enter Try.func59, Try.ntmps59
      go_wp2_with fail
      go_ret
      exact ⟨by first | rfl | simp [hec], T, moveJ_same _ _ W _ (by
        obtain ⟨v', q1, q2, q3, q4, q5⟩ := HJ.out
        exact ⟨v', q1, q2, q3, by rw [MNO.out]; exact q4, q5⟩) (fun i hi => k.block i (moveJ_lt _ _ _ HJ.out i hi)) k.size, Turns.of_keeps k⟩
    · rw [decide_eq_false (fun h => by rcases h with h | h; exact ha h; exact hc h)]
      rw [decide_eq_false hc] at hec
      clear h1 h2 h3 h4 hT bx hcm hcap hlen hB hd ha hc
      generalize str x.1 = sx at *
      go_enter Try.func59, Try.ntmps59
      go_wp2_with fail
      go_ret
      exact ⟨by first | rfl | simp [hec, he], T, moveJ_same _ _ W _ (by
        obtain ⟨v', q1, q2, q3, q4, q5⟩ := HJ.out
        exact ⟨v', q1, q2, q3, by rw [MNO.out]; exact q4, q5⟩) (fun i hi => k.block i (moveJ_lt _ _ _ HJ.out i hi)) k.size, Turns.of_keeps k⟩
end Go.Proofs.Ytpbkkbkpodcgnaa
