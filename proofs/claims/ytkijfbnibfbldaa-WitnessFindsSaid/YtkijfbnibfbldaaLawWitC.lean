/- Layer 14's statements, WitnessFinds: a net that notes of whom it was asked, handed to a search. -/
import Derived.Test.YtkijfbnibfbldaaLawWit2
namespace Go.Proofs.Ytkijfbnibfbldaa
open Go.RowKit
set_option linter.unusedSimpArgs false
set_option linter.unusedVariables false
set_option maxRecDepth 100000

theorem Only.cellV (w : World) (p : Addr) (u : Value) : Only w (w.setCell p u) (fun c => c = p.block) := ⟨rfl, rfl, rfl, by simp, fun k _ hn => Below.heap_setCell w p u k hn⟩
/-- the log lies at b: of these it was asked -/
structure LogAt (w0 : World) (g b : Nat) (a : List Nat) (D : Nat → Prop) (w : World) (sv : Value) : Prop where
  box : Box w b 35 #[.pointer (some ⟨g, 0, none⟩), sv]
  row : Own w w0.heap.size 26 1 sv a.length (celU a)
  ap : ∀ k, sv.ownBlock = some k → k ≠ b
  low : w0.heap.size ≤ b
  ks : Keeps w0 w
  D : ∀ i, D i ↔ (i < w0.heap.size ∨ i = b ∨ sv.ownBlock = some i)
def LogJ (w0 : World) (g b : Nat) (a : List Nat) (D : Nat → Prop) (w : World) : Prop := ∃ sv, LogAt w0 g b a D w sv
set_option maxHeartbeats 16000000 in
theorem logOut_any {w0 : World} {g b : Nat} {x : WNet} (hb : Box w0 g 25 x.cells) (hx : WNetOk w0 x) (hE : x.E.length ≤ 300) (hBl : x.B.length ≤ 50) {a : List Nat} {D : Nat → Prop} {w : World} (hJ : LogJ w0 g b a D w) (v : Nat) (hv : v < 4294967296) (hl : a.length ≤ 16) :
    Calls Try.prog 14 #[.pointer (some ⟨b, 0, none⟩), .int .u32 (v : Int)] w fun e w' => ∃ D' A n c, e = .returned (.tuple #[.slice A n c, .int .i64 ((outN x v).1 : Int)]) ∧ LogJ w0 g b (a ++ [v]) D' w' ∧ Turns w w' D D' ∧
    n = (outN x v).2.length ∧ At w' w'.heap.size A (edsC (outN x v).2) ∧ ∀ ad, A = some ad → w.heap.size ≤ ad.block ∧ ad.block < w'.heap.size := by
  obtain ⟨i0, hi, hz0, hz1, hz2⟩ := info_parts info_u32w
  obtain ⟨sv, hL⟩ := hJ
  obtain ⟨As, cs, rfl, -, -, -, -⟩ := hL.row.form
  have HL := Lib.hid hL
  have OUT := Lib.hid (fun (W : World) (k : Keeps w0 W) => netOut_any (hb.keep k) (hx.keep k) hE hBl v hv)
  have LN := Lib.hid hl
  have c0 : w.cell? ⟨b, 0, none⟩ = some (.pointer (some ⟨g, 0, none⟩)) := hL.box.cell 0 rfl
  have c1 : w.cell? ⟨b, 1, none⟩ = some (.slice As a.length cs) := hL.box.cell 1 rfl
  have lb := hL.box.lt
  have l16 : (a.length : Int) ≤ 16 := by omega
  clear hb hx hE hBl hL hl
  go_enter Try.func14, Try.ntmps14
  go_wp2_with (at_builtin; refine wpList_app _ rfl _ _ 23 rfl w0.heap.size 26 i0 (.int .u32 0) 1 4 Try.underlying23 hi hz0 hz1 hz2 rfl (by decide) _ a.length (celU a) rfl (HL.out.row.keep (keeps_alloc _ _)) _ _ 1 1 [.int .u32 (v : Int)] rfl rfl (At.new _ _ _ _ (Nat.lt_succ_self _)) (by intro u hu; simp at hu; subst hu; rfl) (by have := LN.out; unfold maxLen; omega) (by have := LN.out; omega) (keeps_trans HL.out.ks (keeps_alloc _ _)).size ?_)
  intro v8 w8 o8 g8 b8
  obtain ⟨A8, c8, rfl, -, -, -, -⟩ := o8.form
  have kA := keeps_trans HL.out.ks (keeps_alloc w (.cells #[.int .u32 (v : Int)] 26))
  have k8 : Keeps w0 w8 := Below.grown kA g8 kA.size (fun g hg => (HL.out.row.lt g hg).1)
  have B8 := (HL.out.box.keep (keeps_alloc w (.cells #[.int .u32 (v : Int)] 26))).grown g8 (fun e => HL.out.ap b e rfl)
  have lb2 := B8.lt
  have x1 : w8.cell? ⟨b, 1, none⟩ = some (.slice As a.length cs) := B8.cell 1 rfl
  have z1 := B8.frozen 1
  have B9 := B8.set 1 (.slice A8 (a.length + 1) c8)
  have y0 : (w8.setCell ⟨b, 1, none⟩ (.slice A8 (a.length + 1) c8)).cell? ⟨b, 0, none⟩ = some (.pointer (some ⟨g, 0, none⟩)) := B9.cell 0 rfl
  have ap8 : ∀ k, (Value.slice A8 (a.length + 1) c8).ownBlock = some k → k ≠ b := fun k hk => by
    rcases b8 with e | e
    · exact HL.out.ap k (by rw [← e]; exact hk)
    · rw [e] at hk
      cases hk
      omega
  have K9 := Lib.hid (k8.setCell (p := ⟨b, 1, none⟩) HL.out.low (.slice A8 (a.length + 1) c8))
  have O9 := o8.same (w' := w8.setCell ⟨b, 1, none⟩ (.slice A8 (a.length + 1) c8)) (fun k hk => (Only.cellV w8 ⟨b, 1, none⟩ _).block k (o8.lt k hk).2 (ap8 k hk))
  have ON9 : Only w (w8.setCell ⟨b, 1, none⟩ (.slice A8 (a.length + 1) c8)) D := by
    have h1 : Only w w8 D := (Turns.of_keeps (S := D) (keeps_alloc w (.cells #[.int .u32 (v : Int)] 26))).only.grown g8 (fun r hr => .inl ((HL.out.D r).2 (.inr (.inr hr))))
    exact h1.trans (Only.cellV w8 ⟨b, 1, none⟩ _) (fun i hi => .inl ((HL.out.D i).2 (.inr (.inl hi))))
  have FIN := Lib.hid (fun (w' : World) (k : Keeps (w8.setCell ⟨b, 1, none⟩ (.slice A8 (a.length + 1) c8)) w') =>
    show LogJ w0 g b (a ++ [v]) (fun i => i < w0.heap.size ∨ i = b ∨ (Value.slice A8 (a.length + 1) c8).ownBlock = some i) w' ∧ Turns w w' D (fun i => i < w0.heap.size ∨ i = b ∨ (Value.slice A8 (a.length + 1) c8).ownBlock = some i) from by
    refine ⟨⟨.slice A8 (a.length + 1) c8, ⟨B9.keep k, ?_, ap8, HL.out.low, keeps_trans K9.out k, fun i => Iff.rfl⟩⟩, ⟨ON9.keep k, ?_⟩⟩
    · have : celU (a ++ [v]) = celU a ++ [.int .u32 (v : Int)] := by simp [celU, u32V]
      rw [this, List.length_append, List.length_singleton]
      exact O9.keep k
    · rintro i (h | h | h)
      · exact .inl ((HL.out.D i).2 (.inl h))
      · exact .inl ((HL.out.D i).2 (.inr (.inl h)))
      · rcases b8 with e | e
        · exact .inl ((HL.out.D i).2 (.inr (.inr (by rw [← e]; exact h))))
        · right
          rw [e] at h
          cases h
          omega)
  have SZ := Lib.hid (show w.heap.size ≤ (w8.setCell ⟨b, 1, none⟩ (.slice A8 (a.length + 1) c8)).heap.size from ON9.size)
  have OV := Lib.hid (OUT.out _ K9.out)
  clear o8 g8 b8 kA k8 B8 B9 ap8 O9 ON9 c0 c1
  go_wp2_with fail
  refine OV.out.mono ?_
  rintro e w9 ⟨sv9, rfl, hO, k9⟩
  obtain ⟨A9, c9, rfl, hA, hB⟩ := hO.below
  obtain ⟨f1, f2⟩ := FIN.out _ k9
  have RES := Lib.hid (show ∃ D' A n c, Ending.returned (.tuple #[.slice A9 (outN x v).2.length c9, .int .i64 ((outN x v).1 : Int)]) = .returned (.tuple #[.slice A n c, .int .i64 ((outN x v).1 : Int)]) ∧ LogJ w0 g b (a ++ [v]) D' w9 ∧ Turns w w9 D D' ∧
    n = (outN x v).2.length ∧ At w9 w9.heap.size A (edsC (outN x v).2) ∧ ∀ ad, A = some ad → w.heap.size ≤ ad.block ∧ ad.block < w9.heap.size from ⟨_, A9, _, c9, rfl, f1, f2, rfl, hA, fun ad h => ⟨Nat.le_trans SZ.out (hB ad h).1, (hB ad h).2⟩⟩)
  clear hO hA hB f1 f2 k9
  go_wp2_with fail
  go_returns
  exact RES.out
/-- the log and the net, handed to a search -/
def logC (w0 : World) (g b : Nat) (x : WNet) (hb : Box w0 g 25 x.cells) (hx : WNetOk w0 x) (hE : x.E.length ≤ 300) (hBl : x.B.length ≤ 50) (hZl : x.Z.length ≤ 50) : Caller (outN x) (avN x) where
  go := 14
  ro := .pointer (some ⟨b, 0, none⟩)
  ga := 15
  ra := .pointer (some ⟨g, 0, none⟩)
  J := LogJ w0 g b
  eo := enters_of Try.func14 rfl rfl
  ea := enters_of Try.func15 rfl rfl
  lt := by
    rintro a D w ⟨sv, h⟩ i hi
    rcases (h.D i).1 hi with e | e | e
    · exact Nat.lt_of_lt_of_le e h.ks.size
    · rw [e]; exact h.box.lt
    · exact (h.row.lt i e).2
  same := by
    rintro a D w w' T ⟨sv, h⟩ o hT
    have no : ∀ i, D i → ¬ T i := fun i hd ht => hT i ht hd
    refine ⟨sv, ⟨o.keepsB h.box (no b ((h.D b).2 (.inr (.inl rfl)))), h.row.same (fun k hk => o.block k (h.row.lt k hk).2 (no k ((h.D k).2 (.inr (.inr hk))))), h.ap, h.low, ?_, h.D⟩⟩
    exact ⟨o.os.trans h.ks.os, o.tape.trans h.ks.tape, o.output.trans h.ks.output, Nat.le_trans h.ks.size o.size, fun i hi => (o.block i (Nat.lt_of_lt_of_le hi h.ks.size) (no i ((h.D i).2 (.inl hi)))).trans (h.ks.block i hi)⟩
  out := by
    rintro a D w v hJ hv hl
    exact logOut_any hb hx hE hBl hJ v hv hl
  avoid := by
    rintro a D w v ⟨sv, h⟩ hv
    exact netAvoid_any (hb.keep h.ks) (hx.keep h.ks) hZl v
  ok := by
    intro v hv
    unfold outN
    split
    · simp
    · refine ⟨?_, fun e he => hx.ok e (List.mem_filter.1 he).1⟩
      have := outW_len v x.E
      simp only
      omega
end Go.Proofs.Ytkijfbnibfbldaa
