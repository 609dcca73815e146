/- What Bad answers: the pages that are not intact, found by a function that is ranged over. -/
import Derived.Test.YtkhfffflegiapaaGreatDoorQPf
import Derived.Test.YtkhfffflegiapaaGreatDoorQIter
import Derived.RangeFuncBox
import Derived.RangeFuncNested
import Derived.RangeFuncLeaves
import Derived.Shelf.Abstract
import Derived.Maps.AppendAt
import Derived.Test.YtkhfffflegiapaaGreatDoorQLawDisk6
import Derived.Test.YtkhfffflegiapaaGreatDoorQRefA
namespace Go.Proofs.YtkhfffflegiapaaGreatDoor
open Go.RowKit Go.Shelf
set_option linter.unusedSimpArgs false
set_option linter.unusedVariables false
set_option maxRecDepth 100000
attribute [local go_sem] Oper.semAt_some

theorem infoI8 : (Tryz.prog.info? 3).map (fun i => (i.zero, i.size, i.bytes)) = some (some (.int .i64 0), 1, 8) := by kernel_rfl
theorem rotten_any (f : Nat) (q : Nat) (w : World) : Calls Tryz.prog 109 #[.pointer (some ⟨f, 0, none⟩), .int .i64 (q : Int)] w fun e w' => e = .returned (.func (.func 146) #[] #[.pointer (some ⟨w.heap.size + 1, 0, none⟩), .pointer (some ⟨w.heap.size, 0, none⟩)]) ∧ w' = (w.alloc (.cells #[.pointer (some ⟨f, 0, none⟩)] 75)).alloc (.cells #[.int .i64 (q : Int)] 3) := by
  go_enter Tryz.func109, Tryz.ntmps109
  go_wp2_with fail
  go_ret
  exact ⟨rfl, by simp⟩
/-- what a round must leave: what lay there, and the file's own box -/
def KpR (W3 : World) (Bf : Nat) (W W' : World) : Prop := Below W3.heap.size W W' ∧ W'.cell? ⟨Bf, 0, none⟩ = W.cell? ⟨Bf, 0, none⟩
theorem abides_keeps {α : Type} {B : Nat} {J : List α → World → Prop} (hJ : AbidesFrom B J) {s : List α} {W W' : World} (h : J s W) (k : Keeps W W') : J s W' :=
  hJ s W W' none h ⟨k.os, k.tape, k.output, k.size, fun i hi _ => k.block i hi⟩ (fun r e => by cases e)
section
variable {K : DiskOk} {w0 W3 : World} {b f : Nat} {F : Nat → Prop} {s : Ds}
set_option maxHeartbeats 4000000 in
theorem rotten1_in (PK : PageOk) {nm : List UInt8} (h : Have K w0 W3 b F s) (hZ : K.Z w0) (hS : Sizes w0) (hf : PfAt W3 f b nm) (hnm : nm.length ≤ 100000) (q : Nat) (hq : q ≤ 65536)
    (l Bp Bf : Nat) (J Jx : List Nat → World → Prop)
    (hY : ∀ pre x W, J pre W → pre.length < q → YieldAt Fence.wide 3 Tryz.prog l #[.int .i64 ((x : Nat) : Int)] W fun e W' =>
      (e = .returned (.bool true) ∧ J (pre ++ [x]) W' ∧ KpR W3 Bf W W') ∨ (e = .returned (.bool false) ∧ Jx (pre ++ [x]) W'))
    (W : World) (hp : W.cell? ⟨Bp, 0, none⟩ = some (.int .i64 (q : Int))) (hb : W.cell? ⟨Bf, 0, none⟩ = some (.pointer (some ⟨f, 0, none⟩))) (kW : Keeps W3 W) (hJ : AbidesFrom W.heap.size J) (h0 : J [] W) :
    CallsIn Fence.wide 4 Tryz.prog 146 #[.func (.yield l) #[] #[], .pointer (some ⟨Bp, 0, none⟩), .pointer (some ⟨Bf, 0, none⟩)] W fun e W' => (∃ v, e = .returned v) ∧
      ((∃ ys, ys = rotten s nm q ∧ J ys W') ∨ (∃ pre : List Nat, True ∧ Jx pre W')) := by
  have RD := Lib.hid (fun (V : World) (kk : Keeps W3 V) (k : Nat) (hk : k ≤ 65536) => pfRead_any PK (h.keep kk) hZ hS (hf.keep kk) hnm (k : Int) ⟨by omega, by omega⟩ (l := (readP s nm (k : Int)).1) (E := (readP s nm (k : Int)).2) rfl)
  have RS := Lib.hid (rotten_succ s nm)
  have RL := Lib.hid (rotten_len s nm)
  have HY := Lib.hid hY
  have HJ := Lib.hid hJ
  have H0 := Lib.hid h0
  have KW := Lib.hid kW
  have hqi : (q : Int) ≤ 65536 := by omega
  have R0 := Lib.hid (show rotten s nm 0 = [] from rfl)
  clear h hZ hS hf hY hJ h0 kW hq
  refine callsIn_of_wp Tryz.func146 rfl trivial ?_ rfl
  simp only [Tryz.ntmps146, List.size_toArray, List.length_cons, List.length_nil, Nat.reduceAdd, Nat.reduceSub, Array.replicate_succ, Array.replicate_zero, List.push_toArray, List.append_toArray, List.nil_append, List.cons_append]
  gi_wp2
  gi_loopw [8] (fun i wr => ∃ j : Nat, j ≤ q ∧ i = .int .i64 j ∧ J (rotten s nm j) wr ∧ Keeps W3 wr ∧ wr.cell? ⟨Bf, 0, none⟩ = some (.pointer (some ⟨f, 0, none⟩)) ∧ W.heap.size ≤ wr.heap.size) (fun i _ => q - (intOf i).toNat)
  case atStart => exact ⟨0, Nat.zero_le _, rfl, by rw [R0.out]; exact H0.out, KW.out, hb, Nat.le_refl _⟩
  case round =>
    obtain ⟨j, hj, rfl, hJs, kr, hbr, hsz⟩ := hrel
    have HS := Lib.hid hJs
    have KR := Lib.hid kr
    clear hJs kr
    by_cases hlt : j < q
    · have hjq : (j : Int) < (q : Int) := by omega
      have R1 := Lib.hid (RD.out wr KR.out j (by omega))
      have RSj := Lib.hid (RS.out j)
      have hlen := RL.out j
      generalize (readP s nm (j : Int)).1 = rl at *
      generalize (readP s nm (j : Int)).2 = rE at *
      have JA := Lib.hid (fun (V : World) (k2 : Keeps wr V) => abides_keeps (B := wr.heap.size) (fun ss A B row a1 a2 a3 => HJ.out ss A B row a1 a2 (fun r e => ⟨Nat.le_trans hsz (a3 r e).1, (a3 r e).2⟩)) HS.out k2)
      by_cases e0 : rE = 0
      · subst e0
        have e1 : ((0 : Int) != 0) = false := rfl
        have RN := Lib.hid (show rotten s nm (j + 1) = rotten s nm j by have := RSj.out; simpa using this)
        clear hlen
        gi_wp2_with (refine ⟨trivial, ?_⟩; gi_at_call 68; refine (callsIn_wide.2 R1.out).mono ?_; rintro e w2 ⟨A2, c2, rfl, -, -, k2⟩)
        try refine ⟨fun _ h => (by cases h), ?_⟩
        try gi_wp2
        go_roundw
        case rel => exact ⟨j + 1, by omega, by go_num, by rw [RN.out]; exact JA.out _ k2, keeps_trans KR.out k2, k2.cellOf hbr, Nat.le_trans hsz k2.size⟩
        case measure => simp [intOf]; omega
      · have hne : ((rE : Int) != 0) = true := by rw [bne_iff_ne]; omega
        have RN := Lib.hid (show rotten s nm (j + 1) = rotten s nm j ++ [j] by have := RSj.out; rw [if_pos e0] at this; exact this)
        have HYj := Lib.hid (fun (V : World) (k2 : Keeps wr V) => HY.out (rotten s nm j) j V (JA.out V k2) (by omega))
        have hz : ¬ (rE : Int) = 0 := by omega
        clear hlen
        gi_wp2_with (refine ⟨trivial, ?_⟩; gi_at_call 68; refine (callsIn_wide.2 R1.out).mono ?_; rintro e w2 ⟨A2, c2, rfl, -, -, k2⟩; obtain ⟨fn, tmps, assign, body, hy, hR⟩ := HYj.out w2 k2)
        refine hR.mono ?_
        rintro e W4 (⟨rfl, hJ4, hk4, hc4⟩ | ⟨rfl, hJx4⟩)
        · have KR4 := Lib.hid (show Keeps W3 W4 from Below.trans (keeps_trans KR.out k2) hk4)
          have hb4 := hc4.trans (k2.cellOf hbr)
          have hsz4 := Nat.le_trans (Nat.le_trans hsz k2.size) hk4.size
          gi_wp2
          go_roundw
          case rel => exact ⟨j + 1, by omega, by go_num, by rw [RN.out]; exact hJ4, KR4.out, hb4, hsz4⟩
          case measure => simp [intOf]; omega
        · gi_wp2
          refine bodyPost_ret (results_none rfl _ _ _) rfl ?_
          exact ⟨⟨_, rfl⟩, .inr ⟨_, trivial, hJx4⟩⟩
    · obtain rfl : j = q := by omega
      clear hlt hj
      gi_wp2
      go_end0
      exact ⟨⟨_, rfl⟩, .inl ⟨_, rfl, HS.out⟩⟩
theorem rotten_stops (PK : PageOk) {nm : List UInt8} (h : Have K w0 W3 b F s) (hZ : K.Z w0) (hS : Sizes w0) (hf : PfAt W3 f b nm) (hnm : nm.length ≤ 100000) (q : Nat) (hq : q ≤ 65536) (Bp Bf : Nat) (w : World)
    (hp : w.cell? ⟨Bp, 0, none⟩ = some (.int .i64 (q : Int))) (hb : w.cell? ⟨Bf, 0, none⟩ = some (.pointer (some ⟨f, 0, none⟩))) (kW : Keeps W3 w) :
    SeqStopsK Fence.wide 4 Tryz.prog 146 #[.pointer (some ⟨Bp, 0, none⟩), .pointer (some ⟨Bf, 0, none⟩)] (fun x : Nat => #[Value.int .i64 ((x : Nat) : Int)]) (KpR W3 Bf) (fun ys => ys = rotten s nm q) (fun _ => True) q w := fun l J Jx W hW hJ _ hY h0 =>
  rotten1_in PK h hZ hS hf hnm q hq l Bp Bf J Jx hY W (Keeps.cellOf hW hp) (Keeps.cellOf hW hb) (keeps_trans kW hW) hJ h0
set_option maxHeartbeats 8000000 in
theorem pfBad_any {w : World} (PK : PageOk) {nm : List UInt8} (h : Have K w0 w b F s) (hZ : K.Z w0) (hS : Sizes w0) (hnm : nm.length ≤ 100000) :
    Calls Tryz.prog 72 #[.pointer (some ⟨b, 0, none⟩), .string (str nm)] w fun e w' => ∃ v, e = .returned (.tuple #[v, .int .i64 ((badP s nm).2 : Int)]) ∧ Own w' w.heap.size 3 1 v (badP s nm).1.length (intC ((badP s nm).1.map fun (k : Nat) => (k : Int))) ∧ Keeps w w' := by
  have hn := size_le (K.ok h.D) nm
  have hml : nm.length ≤ maxLen := by unfold maxLen; omega
  obtain ⟨n, E0, hz⟩ : ∃ n E0, sizeS s nm = (n, E0) := ⟨_, _, rfl⟩
  rw [hz] at hn
  have OP := Lib.hid (pfOpen_any h hZ nm hml hz hn)
  have H := Lib.hid h
  have HB : badP s nm = if openE s nm ≠ 0 then ([], openE s nm) else (rotten s nm (n / 256), 0) := by unfold badP; rw [hz]
  by_cases e0 : openE s nm = 0
  · rw [e0] at OP HB
    rw [if_neg (by simp)] at HB
    rw [HB]
    have hE : E0 = 0 := by
      unfold openE at e0
      rw [hz] at e0
      by_cases x : E0 = 0
      · exact x
      · rw [if_pos x] at e0; exact e0
    subst hE
    obtain ⟨i0, hi, hz0, hz1, hz2⟩ := info_parts infoI8
    have PG := Lib.hid (fun (V : World) (kk : Keeps w V) (f : Nat) (hf : PfAt V f b nm) => pfPages_any (h.keep kk) hZ hf hml hz hn)
    obtain ⟨q, hq⟩ : ∃ q, n / 256 = q := ⟨_, rfl⟩
    rw [hq] at PG ⊢
    have hq6 : q ≤ 65536 := by omega
    have STP := Lib.hid (fun (V : World) (kk : Keeps w V) (f : Nat) (hf : PfAt V f b nm) => rotten_stops PK (h.keep kk) hZ hS hf hnm q hq6)
    have RL := rotten_len s nm q
    have e1 : ((0 : Int) != 0) = false := rfl
    clear h hZ hS e0 HB hz hn hq
    generalize str nm = sv at *
    refine (callsIn_wide (n := 5)).1 ?_
    refine callsIn_of_wp_marks Tryz.func72 rfl trivial ?_ rfl
    simp only [Tryz.ntmps72, List.size_toArray, List.length_cons, List.length_nil, Nat.reduceAdd, Nat.reduceSub, Array.replicate_succ, Array.replicate_zero, List.push_toArray, List.append_toArray, List.nil_append, List.cons_append]
    gi_wp2_with (first
      | (refine ⟨trivial, ?_⟩; gi_at_call 71; refine (callsIn_wide.2 OP.out).mono ?_; rintro e w1 ⟨k1, ⟨-, f, rfl, hf, hlf⟩ | ⟨hbad, -⟩⟩)
      | (exfalso; exact hbad rfl)
      | (refine ⟨trivial, ?_⟩; gi_at_call 69; refine (callsIn_wide.2 (PG.out w1 k1 f hf)).mono ?_; rintro e w2 ⟨rfl, k2⟩; have K2 := Lib.hid (keeps_trans k1 k2); have F2 := Lib.hid (hf.keep k2); have BB := Lib.hid (Boxed.new w2 77 (.slice none 0 0)); clear k1 hf OP PG)
      | (refine ⟨trivial, ?_⟩; gi_at_call 109; refine (callsIn_wide.2 (rotten_any f q _)).mono ?_; rintro e w3 ⟨rfl, rfl⟩))
    have hn2 : (w2.alloc (.cells #[.slice none 0 0] 77)).heap.size = w2.heap.size + 1 := by simp
    have bB := (BB.out.alloc (.cells #[.pointer (some ⟨f, 0, none⟩)] 75)).alloc (.cells #[.int .i64 (q : Int)] 3)
    have bF := (Boxed.new (w2.alloc (.cells #[.slice none 0 0] 77)) 75 (.pointer (some ⟨f, 0, none⟩))).alloc (.cells #[.int .i64 (q : Int)] 3)
    have bQ := Boxed.new ((w2.alloc (.cells #[.slice none 0 0] 77)).alloc (.cells #[.pointer (some ⟨f, 0, none⟩)] 75)) 3 (.int .i64 (q : Int))
    rw [World.size_alloc, World.size_alloc] at bQ
    rw [World.size_alloc] at bF
    have kB : Keeps w2 (((w2.alloc (.cells #[.slice none 0 0] 77)).alloc (.cells #[.pointer (some ⟨f, 0, none⟩)] 75)).alloc (.cells #[.int .i64 (q : Int)] 3)) := keeps_trans (keeps_trans (keeps_alloc _ _) (keeps_alloc _ _)) (keeps_alloc _ _)
    generalize hWL : ((w2.alloc (.cells #[.slice none 0 0] 77)).alloc (.cells #[.pointer (some ⟨f, 0, none⟩)] 75)).alloc (.cells #[.int .i64 (q : Int)] 3) = WL at *
    have sWL : WL.heap.size = w2.heap.size + 3 := by rw [← hWL]; simp
    have ST := STP.out w2 K2.out f F2.out (w2.heap.size + 1 + 1) (w2.heap.size + 1) WL bQ.cell bF.cell kB
    refine wpIn_rangeFunc_ownG rfl (by decide) (gf := 146) (lb := #[.pointer (some ⟨w2.heap.size + 1 + 1, 0, none⟩), .pointer (some ⟨w2.heap.size + 1, 0, none⟩)]) (by simp [Act.eval, hn2]) trivial (enters_of Tryz.func146 (by kernel_rfl) rfl)
      ST (fun h k => ⟨Below.trans h.1 k.1, k.2.trans h.2⟩)
      (fun W l o o' hl ho hc hw => ⟨belowK_b (w := WL) (by omega) W l o o' hl ho hc hw, by
        unfold World.cell?
        rw [World.putObj_heap_other (show w2.heap.size + 1 ≠ l by omega)]⟩)
      (Below.refl _ _) (fun _ => rfl)
      (fun pre W => ((∃ v, Boxed W w2.heap.size 77 v ∧ W.ownsRow w2.heap.size 3 1 v pre.length (pre.map fun (k : Nat) => Value.int .i64 (k : Int)) ∧ True) ∧ Boxed W (w2.heap.size + 1) 75 (.pointer (some ⟨f, 0, none⟩))) ∧ Below w2.heap.size w2 W)
      (fun _ _ _ => False)
      (OwnFrom.and (OwnFrom.and (Own.from (holdsRow_own w2.heap.size w2.heap.size 77 3 1 (fun pre : List Nat => pre.length) (fun pre => pre.map fun (k : Nat) => Value.int .i64 (k : Int)) (fun _ _ => True)) _) (Own.from (boxed_own _ _ (fun _ => Value.pointer (some ⟨f, 0, none⟩))) _)) (ownFrom_below (Nat.le_refl _) (by omega)))
      (fun _ _ _ _ _ hs _ _ => hs)
      ⟨⟨⟨_, bB, World.ownsRow_nil _ _ _ _, trivial⟩, bF⟩, kB⟩
      ?a1 ?assign ?body ?done ?stop
    case assign =>
      intro l x W K hK
      gi_wp2
      exact hK
    case body =>
      rintro l pre x W ⟨⟨⟨v, hv, hrow, -⟩, hbf⟩, hB⟩ hlt
      have hc := hv.cell
      have hm1 : pre.length + 1 ≤ maxLen := by unfold maxLen; omega
      gi_wp2_with (gi_at_builtin; refine wpListIn_append_own _ rfl _ _ 77 rfl w2.heap.size 3 i0 (.int .i64 0) 1 8 Tryz.underlying77 hi hz0 hz1 hz2 rfl (by decide) _ _ _ rfl (hrow.alloc _) ⟨W.heap.size, 0, none⟩ 1 1 [.int .i64 ((x : Nat) : Int)] rfl rfl (cell_one_new _ _ _) (by simp [Value.oneCell']) (by omega) (by omega) (by have := hB.size; simp; omega) ?_; intro v' w9 hown' hgrow _; obtain ⟨g', cap', rfl⟩ := ownsRow_succ hown'; obtain ⟨hv1, hv2, hr2, hk2, hb2⟩ := hv.appended (by decide) hrow hB.size (Nat.le_refl _) hown' hgrow; have hbf9 := (((hbf.alloc _).kept hgrow (hbf.not_row (by decide) hrow)).other (show w2.heap.size + 1 ≠ w2.heap.size by omega) (.slice (some ⟨g', 0, none⟩) (pre.length + 1) cap')); have hc1 := hv1.cell; have hf1 := hv1.frozen)
      refine ⟨hk2.from _, ⟨hb2, hbf9.cell.trans hbf.cell.symm⟩, ⟨⟨_, hv2, ?_, trivial⟩, hbf9⟩, hB.trans hb2⟩
      simpa using hr2
    case done =>
      rintro D ys W hD rfl ⟨⟨⟨v, hv, hrow, -⟩, hbf⟩, hB⟩ hK
      have hc := hv.cell
      gi_wp2
      refine ⟨by simp, .inl ⟨_, _, rfl, run_takeDeferred hK, ?_⟩⟩
      refine ⟨.tuple #[v, .int .i64 0], by simp [results, Tryz.results72, go_sem], v, rfl, ?_, ?_⟩
      · have := Own.of_row (ownsRow_putObj hrow (.deferred none) hK rfl)
        rw [show (rotten s nm q).map (fun (k : Nat) => Value.int .i64 (k : Int)) = intC ((rotten s nm q).map fun (k : Nat) => (k : Int)) by simp [intC, Function.comp_def]] at this
        exact this.base_le K2.out.size
      · exact keeps_trans K2.out (hB.trans (belowK_b (w := w2) (Nat.le_refl _) W D _ _ (by omega) hK rfl rfl))
    case stop =>
      rintro D c pre W _ _ h _
      exact h.elim
  · have HO := Lib.hid HB
    obtain ⟨o, ho⟩ : ∃ o, openE s nm = o := ⟨_, rfl⟩
    rw [ho] at OP HB e0
    rw [if_pos e0] at HB
    rw [HB]
    have hne : ((o : Int) != 0) = true := by rw [bne_iff_ne]; omega
    have E0' := Lib.hid e0
    clear h hZ hS HB hz hn HO ho
    generalize str nm = sv at *
    refine (callsIn_wide (n := 5)).1 ?_
    refine callsIn_of_wp Tryz.func72 rfl trivial ?_ rfl
    simp only [Tryz.ntmps72, List.size_toArray, List.length_cons, List.length_nil, Nat.reduceAdd, Nat.reduceSub, Array.replicate_succ, Array.replicate_zero, List.push_toArray, List.append_toArray, List.nil_append, List.cons_append]
    gi_wp2_with (first
      | (refine ⟨trivial, ?_⟩; gi_at_call 71; refine (callsIn_wide.2 OP.out).mono ?_; rintro e w1 ⟨k1, ⟨hbad, -⟩ | ⟨-, rfl⟩⟩)
      | (exfalso; exact E0'.out hbad))
    refine bodyPost_ret (v := .tuple #[.slice none 0 0, .int .i64 (o : Int)]) (by simp [results, Tryz.results72, go_sem]) rfl ?_
    exact ⟨_, rfl, Own.nil _ _ _ _, k1⟩
end
end Go.Proofs.YtkhfffflegiapaaGreatDoor
/- What was told: the same numbers, the same answers. -/
namespace Go.Proofs.YtkhfffflegiapaaGreatDoor
open Go.RowKit
set_option linter.unusedSimpArgs false
set_option linter.unusedVariables false
set_option maxRecDepth 100000

set_option maxHeartbeats 4000000 in
theorem eqNumbers_same (A : Option Addr) (n c : Nat) (l : List Int) (B : Option Addr) (m d : Nat) (w : World) (hA : At w w.heap.size A (intC l)) (hn : n = l.length) (hB : At w w.heap.size B (intC l)) (hm : m = l.length) (hmax : n ≤ 9223372036854775000) :
    Calls Tryz.prog 83 #[.slice A n c, .slice B m d] w fun e w' => e = .returned (.bool true) ∧ Keeps w w' := by
  have HA := Lib.hid hA
  have HB := Lib.hid hB
  have HN := Lib.hid hn
  obtain rfl : n = m := by omega
  have heq : ((n : Int) == (n : Int)) = true := by simp
  clear hA hB hn hm
  go_enter Tryz.func83, Tryz.ntmps83
  go_wp2_with fail
  go_loopw [5, 6] (fun s i wr => ∃ j : Nat, j ≤ n ∧ i = .int .i64 j ∧ s = .bool true ∧ Hid (Keeps w wr)) (fun _ i _ => n - (intOf i).toNat)
  case atStart => exact ⟨0, Nat.zero_le _, rfl, rfl, Lib.hid (keeps_refl _)⟩
  case round =>
    obtain ⟨j, hj, rfl, rfl, KR⟩ := hrel
    by_cases hlt : j < n
    · have hjn : (j : Int) < (n : Int) := by omega
      have hjN : j < n := hlt
      obtain ⟨y, hy⟩ : ∃ y, l[j]? = some y := ⟨_, List.getElem?_eq_getElem (by have := HN.out; omega)⟩
      obtain ⟨ad, rfl, -, ha⟩ := At.get (HA.out.keep KR.out) (k := j) (by rw [intC_length]; have := HN.out; omega)
      obtain ⟨bd, rfl, -, hb⟩ := At.get (HB.out.keep KR.out) (k := j) (by rw [intC_length]; have := HN.out; omega)
      have hc : (intC l)[j]? = some (.int .i64 y) := by simp only [intC, List.getElem?_map, hy, Option.map_some]
      rw [hc] at ha hb
      have hyy : (y == y) = true := by simp
      clear hc hy hlt hj
      go_wp2_with fail
      go_quiet (fail)
      go_wp2_with fail
      go_roundw
      case rel => exact ⟨j + 1, by omega, by go_num, rfl, Lib.hid (keeps_trans KR.out (keeps_drewN _ _))⟩
      case measure => simp [intOf]; omega
    · obtain rfl : n = j := by omega
      clear hlt hj
      go_wp2_with fail
      go_ret
      exact ⟨rfl, KR.out⟩
theorem box_snd8 (w : World) (x : Obj) (T : TypeId) (cs : Array Value) : Box ((w.alloc x).alloc (.cells cs T)) (w.heap.size + 1) T cs := by
  have := Box.new (w.alloc x) T cs
  simpa using this
/-- what something answers: bytes, numbers, a number, a text, an error -/
structure Told8 where
  b : List UInt8
  l : List Int
  n : Int
  s : List UInt8
  e : Nat
/-- where it lies: rows of the call's own -/
def ToldAt (w : World) (base : Nat) (t : Told8) (v : Value) : Prop :=
  ∃ vb vl, v = .agg #[vb, vl, .int .i64 t.n, .string (str t.s), .int .i64 (t.e : Int)] ∧ Own w base 5 1 vb t.b.length (cel t.b) ∧ Own w base 3 1 vl t.l.length (intC t.l)
theorem ToldAt.keep {w w' : World} {base : Nat} {t : Told8} {v : Value} (h : ToldAt w base t v) (k : Keeps w w') : ToldAt w' base t v := by
  obtain ⟨vb, vl, e, h1, h2⟩ := h
  exact ⟨vb, vl, e, h1.keep k, h2.keep k⟩
theorem ToldAt.turn {w w' : World} {F F' : Nat → Prop} {base : Nat} {t : Told8} {v : Value} (h : ToldAt w base t v) (hF : ∀ i, F i → i < base) (ht : Turns w w' F F') : ToldAt w' base t v := by
  obtain ⟨vb, vl, e, h1, h2⟩ := h
  exact ⟨vb, vl, e, h1.turns ht (fun k hk hf => by have := (h1.lt k hk).1; have := hF k hf; omega), h2.turns ht (fun k hk hf => by have := (h2.lt k hk).1; have := hF k hf; omega)⟩
set_option maxHeartbeats 8000000 in
theorem sameTold_same (t : Told8) (x y : Value) (w : World) {B1 B2 : Nat} (hx : ToldAt w B1 t x) (hy : ToldAt w B2 t y) (hb : t.b.length ≤ 9223372036854775000) (hl : t.l.length ≤ 9223372036854775000) :
    Calls Tryz.prog 38 #[x, y] w fun e w' => e = .returned (.bool true) ∧ Keeps w w' := by
  obtain ⟨vb, vl, rfl, h1, h2⟩ := hx
  obtain ⟨ub, ul, rfl, k1, k2⟩ := hy
  obtain ⟨A1, c1, rfl, -⟩ := h1.form
  obtain ⟨A2, c2, rfl, -⟩ := h2.form
  obtain ⟨A3, c3, rfl, -⟩ := k1.form
  obtain ⟨A4, c4, rfl, -⟩ := k2.form
  have EB := Lib.hid (fun (V : World) (kk : Keeps w V) => (eqBytes_any A1 t.b.length c1 t.b A3 t.b.length c3 t.b V (h1.keep kk).at_ rfl (k1.keep kk).at_ rfl).mono (R' := fun e w' => e = .returned (.bool true) ∧ Keeps V w') (fun e w' q => ⟨by rw [q.1, decide_eq_true rfl], by rw [q.2]; exact keeps_refl _⟩))
  have EN := Lib.hid (fun (V : World) (kk : Keeps w V) => eqNumbers_same A2 t.l.length c2 t.l A4 t.l.length c4 V (h2.keep kk).at_ rfl (k2.keep kk).at_ rfl hl)
  have KW := Lib.hid (keeps_trans (keeps_alloc w (.cells #[.slice A1 t.b.length c1, .slice A2 t.l.length c2, .int .i64 t.n, .string (str t.s), .int .i64 (t.e : Int)] 79)) (keeps_alloc _ (.cells #[.slice A3 t.b.length c3, .slice A4 t.l.length c4, .int .i64 t.n, .string (str t.s), .int .i64 (t.e : Int)] 79)))
  have B2' := Lib.hid ((Box.new w 79 #[.slice A1 t.b.length c1, .slice A2 t.l.length c2, .int .i64 t.n, .string (str t.s), .int .i64 (t.e : Int)]).keep (keeps_alloc _ (.cells #[.slice A3 t.b.length c3, .slice A4 t.l.length c4, .int .i64 t.n, .string (str t.s), .int .i64 (t.e : Int)] 79)))
  have B3' := Lib.hid (box_snd8 w (.cells #[.slice A1 t.b.length c1, .slice A2 t.l.length c2, .int .i64 t.n, .string (str t.s), .int .i64 (t.e : Int)] 79) 79 #[.slice A3 t.b.length c3, .slice A4 t.l.length c4, .int .i64 t.n, .string (str t.s), .int .i64 (t.e : Int)])
  generalize str t.s = sv at *
  clear h1 h2 k1 k2 hb hl
  generalize t.b.length = nb at *
  generalize t.l.length = nl at *
  generalize t.e = ee at *
  generalize t.n = nn at *
  have e1 : ((ee : Int) == (ee : Int)) = true := by simp
  have e2 : (nn == nn) = true := by simp
  have e3 : (sv.toList == sv.toList) = true := by simp
  go_enter Tryz.func38, Tryz.ntmps38
  go_wp2_with fail
  refine (EB.out _ KW.out).mono ?_
  rintro e w3 ⟨rfl, k3⟩
  have K3 := Lib.hid (keeps_trans KW.out k3)
  have p1 : w3.cell? ⟨w.heap.size, 1, none⟩ = some (.slice A2 nl c2) := (B2'.out.keep k3).cell 1 rfl
  have p2 : w3.cell? ⟨w.heap.size + 1, 1, none⟩ = some (.slice A4 nl c4) := (B3'.out.keep k3).cell 1 rfl
  clear k3
  go_wp2_with fail
  refine (EN.out _ K3.out).mono ?_
  rintro e w4 ⟨rfl, k4⟩
  go_wp2_with fail
  go_ret
  exact ⟨rfl, keeps_trans K3.out k4⟩
end Go.Proofs.YtkhfffflegiapaaGreatDoor
