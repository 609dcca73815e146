/- The first walks of layer 14's statements: works; a net and a question as arguments; what is too large. -/
import Derived.Test.YtkijfbnibfbldaaWitW
import Derived.Test.YtkijfbnibfbldaaOpenEdge
namespace Go.Proofs.Ytkijfbnibfbldaa
open Go.RowKit
set_option linter.unusedSimpArgs false
set_option linter.unusedVariables false
set_option maxRecDepth 100000

theorem netFind_any (K : HeapOk) {w : World} {g : Nat} {x : WNet} (hb : Box w g 25 x.cells) (hx : WNetOk w x) (hE : x.E.length ≤ 300) (hBl : x.B.length ≤ 50) (hZl : x.Z.length ≤ 50) (fr to most : Nat) (hfr : fr < 4294967296) (hto : to < 4294967296) (hm : most < 18446744073709551616) :
    Calls Try.prog 13 #[.func (.func 17) #[.pointer (some ⟨g, 0, none⟩)] #[], .func (.func 15) #[.pointer (some ⟨g, 0, none⟩)] #[], .int .u32 (fr : Int), .int .u32 (to : Int), .int .u64 (most : Int)] w fun e w' =>
      ∃ r : Answ, e = .returned (.tuple #[.bool r.2.1, .int .i64 (r.2.2 : Int)]) ∧ Ans (outN x) (avN x) to most [] [(fr, 0)] r ∧ Keeps w w' := by
  refine Calls.mono (find_any K (netC w g x hb hx hE hBl hZl) (D := fun i => i < w.heap.size) ⟨keeps_refl _, fun i => Iff.rfl⟩ fr to most hfr hto hm) ?_
  rintro e w' ⟨r, h1, h2, D', h3, h4⟩
  exact ⟨r, h1, h2, h3.1⟩
def exE : List Ed := [⟨0, 1, 2, 0⟩, ⟨1, 2, 2, 0⟩, ⟨0, 2, 5, 0⟩]
theorem exE_ok : ∀ e ∈ exE, EdOk e := by
  intro e he
  simp only [exE, List.mem_cons, List.not_mem_nil, or_false] at he
  rcases he with rfl | rfl | rfl <;> exact ⟨by decide, by decide, by decide, by decide⟩
/-- a search in a net, where it is reckoned -/
theorem netFind_is (K : HeapOk) {w : World} {g : Nat} {x : WNet} (hb : Box w g 25 x.cells) (hx : WNetOk w x) (hE : x.E.length ≤ 300) (hBl : x.B.length ≤ 50) (hZl : x.Z.length ≤ 50) (fr to most : Nat) (hfr : fr < 4294967296) (hto : to < 4294967296) (hm : most < 18446744073709551616) {q : Answ} {k : Nat} (hq : ansF (outN x) (avN x) to most k [] [(fr, 0)] = some q) :
    Calls Try.prog 13 #[.func (.func 17) #[.pointer (some ⟨g, 0, none⟩)] #[], .func (.func 15) #[.pointer (some ⟨g, 0, none⟩)] #[], .int .u32 (fr : Int), .int .u32 (to : Int), .int .u64 (most : Int)] w fun e w' =>
      e = .returned (.tuple #[.bool q.2.1, .int .i64 (q.2.2 : Int)]) ∧ Keeps w w' := by
  refine Calls.mono (netFind_any K hb hx hE hBl hZl fr to most hfr hto hm) ?_
  rintro e w' ⟨r, rfl, hA, k⟩
  obtain rfl := hA.one (List.Perm.refl _) (by simp [Onces]) (ansF_ans _ hq)
  exact ⟨rfl, k⟩
def exN1 (a : Nat) : WNet := ⟨some ⟨a, 0, none⟩, 3, none, 0, none, 0, exE, [], []⟩
def exN2 (a b : Nat) : WNet := ⟨some ⟨a, 0, none⟩, 3, none, 0, some ⟨b, 0, none⟩, 1, exE, [], [1]⟩
set_option maxHeartbeats 8000000 in
theorem works14 (K : HeapOk) (w : World) : Calls Try.prog 12 #[] w (Yes w) := by
  have k1 := keeps_alloc w (.cells (edsC exE).toArray 67)
  have a1 := At.new w (edsC exE) 67 (w.alloc (.cells (edsC exE).toArray 67)).heap.size (by simp)
  have s1 : (w.alloc (.cells (edsC exE).toArray 67)).heap.size = w.heap.size + 1 := World.size_alloc _ _
  obtain ⟨W1, hW1⟩ : ∃ W1, w.alloc (.cells (edsC exE).toArray 67) = W1 := ⟨_, rfl⟩
  have HE1 : W1 = w.alloc (.cells #[.int .u32 0, .int .u32 1, .int .u64 2, .int .u32 0, .int .u32 1, .int .u32 2, .int .u64 2, .int .u32 0, .int .u32 0, .int .u32 2, .int .u64 5, .int .u32 0] 67) := hW1.symm
  rw [hW1] at k1 a1 s1
  have k2 := keeps_alloc W1 (.cells (exN1 w.heap.size).cells 25)
  have b2 := Box.new W1 25 (exN1 w.heap.size).cells
  have s2 : (W1.alloc (.cells (exN1 w.heap.size).cells 25)).heap.size = w.heap.size + 1 + 1 := by rw [World.size_alloc, s1]
  rw [s1] at b2
  obtain ⟨W2, hW2⟩ : ∃ W2, W1.alloc (.cells (exN1 w.heap.size).cells 25) = W2 := ⟨_, rfl⟩
  have HE2 : W2 = W1.alloc (.cells #[.slice (some ⟨w.heap.size, 0, none⟩) 3 3, .slice none 0 0, .slice none 0 0] 25) := hW2.symm
  rw [hW2] at k2 b2 s2
  have k3 := keeps_alloc W2 (.cells (celU [1]).toArray 26)
  have a3 := At.new W2 (celU [1]) 26 (W2.alloc (.cells (celU [1]).toArray 26)).heap.size (by simp)
  have s3 : (W2.alloc (.cells (celU [1]).toArray 26)).heap.size = w.heap.size + 1 + 1 + 1 := by rw [World.size_alloc, s2]
  rw [s2] at a3
  obtain ⟨W3, hW3⟩ : ∃ W3, W2.alloc (.cells (celU [1]).toArray 26) = W3 := ⟨_, rfl⟩
  have HE3 : W3 = W2.alloc (.cells #[.int .u32 1] 26) := hW3.symm
  rw [hW3] at k3 a3 s3
  have k4 := keeps_alloc W3 (.cells (exN2 w.heap.size (w.heap.size + 1 + 1)).cells 25)
  have b4 := Box.new W3 25 (exN2 w.heap.size (w.heap.size + 1 + 1)).cells
  rw [s3] at b4
  obtain ⟨W4, hW4⟩ : ∃ W4, W3.alloc (.cells (exN2 w.heap.size (w.heap.size + 1 + 1)).cells 25) = W4 := ⟨_, rfl⟩
  have HE4 : W4 = W3.alloc (.cells #[.slice (some ⟨w.heap.size, 0, none⟩) 3 3, .slice none 0 0, .slice (some ⟨w.heap.size + 1 + 1, 0, none⟩) 1 1] 25) := hW4.symm
  rw [hW4] at k4 b4
  have k24 := keeps_trans k2 (keeps_trans k3 k4)
  have N1 := Lib.hid (show Box W4 (w.heap.size + 1) 25 (exN1 w.heap.size).cells from b2.keep (keeps_trans k3 k4))
  have N2 := Lib.hid b4
  have AE := (a1.keep k24).more k24.size
  have O1 := Lib.hid (show WNetOk W4 (exN1 w.heap.size) from ⟨AE, At.nil _ _ _, At.nil _ _ _, exE_ok, by simp [exN1], by simp [exN1]⟩)
  have O2 := Lib.hid (show WNetOk W4 (exN2 w.heap.size (w.heap.size + 1 + 1)) from ⟨AE, At.nil _ _ _, (a3.keep k4).more k4.size, exE_ok, by simp [exN2], by simp [exN2]⟩)
  have KK := Lib.hid (keeps_trans k1 k24)
  have HEQ := Lib.hid (show W4 = (((w.alloc (.cells #[.int .u32 0, .int .u32 1, .int .u64 2, .int .u32 0, .int .u32 1, .int .u32 2, .int .u64 2, .int .u32 0, .int .u32 0, .int .u32 2, .int .u64 5, .int .u32 0] 67)).alloc (.cells #[.slice (some ⟨w.heap.size, 0, none⟩) 3 3, .slice none 0 0, .slice none 0 0] 25)).alloc (.cells #[.int .u32 1] 26)).alloc (.cells #[.slice (some ⟨w.heap.size, 0, none⟩) 3 3, .slice none 0 0, .slice (some ⟨w.heap.size + 1 + 1, 0, none⟩) 1 1] 25) by rw [HE4, HE3, HE2, HE1])
  clear k1 a1 s1 hW1 HE1 k2 b2 s2 hW2 HE2 k3 a3 s3 hW3 HE3 k4 b4 hW4 HE4 k24 AE
  have F1 := Lib.hid (fun V (kk : Keeps W4 V) => show Calls Try.prog 13 #[.func (.func 17) #[.pointer (some ⟨w.heap.size + 1, 0, none⟩)] #[], .func (.func 15) #[.pointer (some ⟨w.heap.size + 1, 0, none⟩)] #[], .int .u32 0, .int .u32 2, .int .u64 4] V (fun e w' => e = .returned (.tuple #[.bool true, .int .i64 0]) ∧ Keeps V w') from netFind_is K (N1.out.keep kk) (O1.out.keep kk) (show 3 ≤ 300 by decide) (show 0 ≤ 50 by decide) (show 0 ≤ 50 by decide) 0 2 4 (by decide) (by decide) (by decide) (q := ([0, 1], true, 0)) (k := 10) rfl)
  have F2 := Lib.hid (fun V (kk : Keeps W4 V) => show Calls Try.prog 13 #[.func (.func 17) #[.pointer (some ⟨w.heap.size + 1, 0, none⟩)] #[], .func (.func 15) #[.pointer (some ⟨w.heap.size + 1, 0, none⟩)] #[], .int .u32 0, .int .u32 2, .int .u64 3] V (fun e w' => e = .returned (.tuple #[.bool false, .int .i64 0]) ∧ Keeps V w') from netFind_is K (N1.out.keep kk) (O1.out.keep kk) (show 3 ≤ 300 by decide) (show 0 ≤ 50 by decide) (show 0 ≤ 50 by decide) 0 2 3 (by decide) (by decide) (by decide) (q := ([0, 1], false, 0)) (k := 10) rfl)
  have F3 := Lib.hid (fun V (kk : Keeps W4 V) => show Calls Try.prog 13 #[.func (.func 17) #[.pointer (some ⟨w.heap.size + 1 + 1 + 1, 0, none⟩)] #[], .func (.func 15) #[.pointer (some ⟨w.heap.size + 1 + 1 + 1, 0, none⟩)] #[], .int .u32 0, .int .u32 2, .int .u64 4] V (fun e w' => e = .returned (.tuple #[.bool false, .int .i64 0]) ∧ Keeps V w') from netFind_is K (N2.out.keep kk) (O2.out.keep kk) (show 3 ≤ 300 by decide) (show 0 ≤ 50 by decide) (show 1 ≤ 50 by decide) 0 2 4 (by decide) (by decide) (by decide) (q := ([0], false, 0)) (k := 10) rfl)
  go_enter Try.func12, Try.ntmps12
  go_wp2_with fail
  rw [← HEQ.out]
  refine (F1.out _ (keeps_refl _)).mono ?_
  rintro e w5 ⟨rfl, k5⟩
  have K5 := Lib.hid k5
  clear k5
  go_wp2_with fail
  refine (F2.out _ K5.out).mono ?_
  rintro e w6 ⟨rfl, k6⟩
  have K6 := Lib.hid (keeps_trans K5.out k6)
  clear k6
  go_wp2_with fail
  refine (F3.out _ K6.out).mono ?_
  rintro e w7 ⟨rfl, k7⟩
  go_wp2_with fail
  go_ret
  exact ⟨rfl, keeps_trans KK.out (keeps_trans K6.out k7)⟩
end Go.Proofs.Ytkijfbnibfbldaa
