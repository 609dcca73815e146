/- The walk of OctetReads. -/
import Derived.Test.YtbbkkbfpojndmaaDoorLawGets
import Derived.Test.YtbbkkbfpojndmaaDoorRefOctRows
namespace Go.Proofs.YtbbkkbfpojndmaaDoor
open Go.RowKit
set_option linter.unusedSimpArgs false
set_option linter.unusedVariables false

/-- A block that is known whole. -/
def Box (w : World) (b : Nat) (t : TypeId) (cs : Array Value) : Prop := w.heap[b]? = some (.cells cs t (0, 0))
theorem Box.new (w : World) (t : TypeId) (cs : Array Value) : Box (w.alloc (.cells cs t)) w.heap.size t cs := heap_alloc_new w _
theorem Box.lt {w : World} {b : Nat} {t : TypeId} {cs : Array Value} (h : Box w b t cs) : b < w.heap.size := (Array.getElem?_eq_some_iff.1 h).1
theorem Box.keep {w w' : World} {b : Nat} {t : TypeId} {cs : Array Value} (h : Box w b t cs) (k : Keeps w w') : Box w' b t cs := (k.block b h.lt).trans h
theorem Box.cell {w : World} {b : Nat} {t : TypeId} {cs : Array Value} (h : Box w b t cs) (j : Nat) {v : Value} (hv : cs[j]? = some v) : w.cell? ⟨b, j, none⟩ = some v := (cell_of_row w b j cs t (0, 0) h).trans hv

theorem readEdge_agree (n : Nat) (l : List UInt8) (hn : n = l.length) : ∃ t h x m f : Int, ∀ (A : Option Addr) (c : Nat) (w : World), Bs w A l → n ≤ c →
    Calls Tryd.prog 26 #[.slice A n c] w (Read2 w (.tuple #[.agg #[.int .u32 t, .int .u32 h, .int .u64 x, .int .u32 m], .int .i64 f])) ∧
    Calls Tryd.prog 27 #[.slice A n c] w (Read2 w (.tuple #[.agg #[.int .u32 t, .int .u32 h, .int .u64 x, .int .u32 m], .int .i64 f])) := by
  by_cases h : n = 20
  · subst h
    exact ⟨_, _, _, _, _, fun A c w hB hc => ⟨readEdge_yes A c l w hB hn.symm hc, refReadEdge_yes A c l w hB hn.symm⟩⟩
  · exact ⟨0, 0, 0, 0, 8, fun A c w _ _ => ⟨readEdge_no A n c w h, refReadEdge_no A n c w h⟩⟩
theorem readVert_agree (n : Nat) (l : List UInt8) (hn : n = l.length) : ∃ t h x f : Int, ∀ (A : Option Addr) (c : Nat) (w : World), Bs w A l → n ≤ c →
    Calls Tryd.prog 28 #[.slice A n c] w (Read2 w (.tuple #[.agg #[.int .u32 t, .int .u32 h, .int .u32 x], .int .i64 f])) ∧
    Calls Tryd.prog 29 #[.slice A n c] w (Read2 w (.tuple #[.agg #[.int .u32 t, .int .u32 h, .int .u32 x], .int .i64 f])) := by
  by_cases h : n = 12
  · subst h
    exact ⟨_, _, _, _, fun A c w hB hc => ⟨readVert_yes A c l w hB hn.symm hc, refReadVert_yes A c l w hB hn.symm⟩⟩
  · exact ⟨0, 0, 0, 8, fun A c w _ _ => ⟨readVert_no A n c w h, refReadVert_no A n c w h⟩⟩
theorem readLabel_agree (n : Nat) (l : List UInt8) (hn : n = l.length) : ∃ v t h x f : Int, ∀ (A : Option Addr) (c : Nat) (w : World), Bs w A l → n ≤ c →
    Calls Tryd.prog 30 #[.slice A n c] w (Read2 w (.tuple #[.int .u32 v, .agg #[.int .u32 t, .int .u32 h, .int .u64 x], .int .i64 f])) ∧
    Calls Tryd.prog 31 #[.slice A n c] w (Read2 w (.tuple #[.int .u32 v, .agg #[.int .u32 t, .int .u32 h, .int .u64 x], .int .i64 f])) := by
  by_cases h : n = 20
  · subst h
    exact ⟨_, _, _, _, _, fun A c w hB hc => ⟨readLabel_yes A c l w hB hn.symm hc, refReadLabel_yes A c l w hB hn.symm⟩⟩
  · exact ⟨0, 0, 0, 0, 8, fun A c w _ _ => ⟨readLabel_no A n c w h, refReadLabel_no A n c w h⟩⟩

set_option maxHeartbeats 2000000 in
theorem reads_walk (A : Option Addr) (n c : Nat) (l : List UInt8) (w : World) (hS : Sizes w) (hB : Bs w A l) (hn : n = l.length) (hc : n ≤ c) (hlen : n ≤ maxLen) :
    Calls Tryd.prog 6 #[.slice A n c] w (Yes w) := by
  unfold maxLen at hlen
  by_cases h : (131072 : Int) < n
  · have W := Lib.hid (works_any w hS)
    have HN := Lib.hid hn
    clear hn hB
    go_enter Tryd.func6, Tryd.ntmps6
    go_wp2_with (go_at_call 11; refine W.out.mono ?_; rintro e w1 ⟨rfl, k1⟩)
    go_ret
    exact ⟨rfl, k1⟩
  · have hm : n ≤ 131072 := by omega
    obtain ⟨e1, e2, e3, e4, e5, hE⟩ := readEdge_agree n l hn
    obtain ⟨u1, u2, u3, u4, hV⟩ := readVert_agree n l hn
    obtain ⟨l1, l2, l3, l4, l5, hL⟩ := readLabel_agree n l hn
    have E := Lib.hid hE
    have V := Lib.hid hV
    have L := Lib.hid hL
    have R := Lib.hid (roomy_any A n c l w hB hn (by omega))
    have HN := Lib.hid hn
    clear hn hE hV hL
    go_enter Tryd.func6, Tryd.ntmps6
    go_wp2_with fail
    refine R.out.mono ?_
    rintro e w1 ⟨ad, cap, rfl, r⟩
    have k1 := r.kept
    have hin : Bs w1 (some ad) l := by have := r.bytes.take l.length; rwa [List.take_left] at this
    have hcap : n + 7 ≤ cap := by rw [HN.out]; exact r.fits
    have hcap' : n ≤ cap := by omega
    have RB := Lib.hid r.bytes
    rw [← HN.out]
    clear r
    go_wp2_with fail
    refine (E.out _ cap _ hin hcap').1.mono ?_
    rintro e w2 ⟨rfl, q2⟩
    have K2 := keeps_trans q2 (keeps_alloc w2 (.cells #[.int .u32 e1, .int .u32 e2, .int .u64 e3, .int .u32 e4] 37))
    have x1 := Lib.hid (Box.new w2 37 #[.int .u32 e1, .int .u32 e2, .int .u64 e3, .int .u32 e4])
    clear q2
    go_wp2_with fail
    refine (E.out _ c _ (hB.keep (keeps_trans k1 K2)) hc).2.mono ?_
    rintro e w3 ⟨rfl, q3⟩
    have K3 := keeps_trans q3 (keeps_alloc w3 (.cells #[.int .u32 e1, .int .u32 e2, .int .u64 e3, .int .u32 e4] 37))
    have L3 := keeps_trans K2 K3
    have x2 := Lib.hid (Box.new w3 37 #[.int .u32 e1, .int .u32 e2, .int .u64 e3, .int .u32 e4])
    clear q3
    go_wp2_with fail
    refine (V.out _ cap _ (hin.keep L3) hcap').1.mono ?_
    rintro e w4 ⟨rfl, q4⟩
    have K4 := keeps_trans q4 (keeps_alloc w4 (.cells #[.int .u32 u1, .int .u32 u2, .int .u32 u3] 39))
    have L4 := keeps_trans L3 K4
    have x3 := Lib.hid (Box.new w4 39 #[.int .u32 u1, .int .u32 u2, .int .u32 u3])
    clear q4
    go_wp2_with fail
    refine (V.out _ c _ (hB.keep (keeps_trans k1 L4)) hc).2.mono ?_
    rintro e w5 ⟨rfl, q5⟩
    have K5 := keeps_trans q5 (keeps_alloc w5 (.cells #[.int .u32 u1, .int .u32 u2, .int .u32 u3] 39))
    have L5 := keeps_trans L4 K5
    have x4 := Lib.hid (Box.new w5 39 #[.int .u32 u1, .int .u32 u2, .int .u32 u3])
    clear q5
    go_wp2_with fail
    refine (L.out _ cap _ (hin.keep L5) hcap').1.mono ?_
    rintro e w6 ⟨rfl, q6⟩
    have K6 := keeps_trans q6 (keeps_alloc w6 (.cells #[.int .u32 l2, .int .u32 l3, .int .u64 l4] 41))
    have L6 := keeps_trans L5 K6
    have x5 := Lib.hid (Box.new w6 41 #[.int .u32 l2, .int .u32 l3, .int .u64 l4])
    clear q6
    go_wp2_with fail
    refine (L.out _ c _ (hB.keep (keeps_trans k1 L6)) hc).2.mono ?_
    rintro e w7 ⟨rfl, q7⟩
    have K7 := keeps_trans q7 (keeps_alloc w7 (.cells #[.int .u32 l2, .int .u32 l3, .int .u64 l4] 41))
    have L7 := keeps_trans L6 K7
    have M6 := K7
    have M5 := keeps_trans K6 M6
    have M4 := keeps_trans K5 M5
    have M3 := keeps_trans K4 M4
    have M2 := keeps_trans K3 M3
    have y1 := x1.out.keep M2
    have y2 := x2.out.keep M3
    have y3 := x3.out.keep M4
    have y4 := x4.out.keep M5
    have y5 := x5.out.keep M6
    have c10 := y1.cell 0 rfl
    have c11 := y1.cell 1 rfl
    have c12 := y1.cell 2 rfl
    have c13 := y1.cell 3 rfl
    have c20 := y2.cell 0 rfl
    have c21 := y2.cell 1 rfl
    have c22 := y2.cell 2 rfl
    have c23 := y2.cell 3 rfl
    have c30 := y3.cell 0 rfl
    have c31 := y3.cell 1 rfl
    have c32 := y3.cell 2 rfl
    have c40 := y4.cell 0 rfl
    have c41 := y4.cell 1 rfl
    have c42 := y4.cell 2 rfl
    have c50 := y5.cell 0 rfl
    have c51 := y5.cell 1 rfl
    have c52 := y5.cell 2 rfl
    clear x1 x2 x3 x4 x5 y1 y2 y3 y4 y5 q7 M2 M3 M4 M5 M6 K2 K3 K4 K5 K6 K7
    go_wp2_with fail
    have KL := keeps_trans k1 L7
    refine (kept_any ad n cap l A n c _ (RB.out.keep L7) HN.out hcap (by omega) (hB.keep KL) HN.out).mono ?_
    rintro e w8 ⟨rfl, k8⟩
    clear c10 c11 c12 c13 c20 c21 c22 c23 c30 c31 c32 c40 c41 c42 c50 c51 c52
    go_wp2_with fail
    refine (works_any w8 (hS.keep (keeps_trans KL k8))).mono ?_
    rintro e w9 ⟨rfl, k9⟩
    go_wp2_with fail
    go_ret
    exact ⟨rfl, keeps_trans KL (keeps_trans k8 k9)⟩
end Go.Proofs.YtbbkkbfpojndmaaDoor
