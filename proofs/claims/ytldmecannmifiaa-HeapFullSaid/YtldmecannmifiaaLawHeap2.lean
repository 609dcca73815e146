/- The walks of HeapFull and HeapApart. -/
import Derived.Test.YtldmecannmifiaaLawHeap
import Derived.Outline
namespace Go.Proofs.Ytldmecannmifiaa
open Go.RowKit
set_option linter.unusedSimpArgs false
set_option linter.unusedVariables false
set_option maxRecDepth 100000

theorem Turns.not {w w' : World} {S S' : Nat → Prop} (t : Turns w w' S S') {b : Nat} (hb : b < w.heap.size) (h : ¬ S b) : ¬ S' b := fun e => by
  rcases t.next b e with e | e
  · exact h e
  · omega
theorem Box.turn {w w' : World} {S S' : Nat → Prop} {b : Nat} {T : TypeId} {cs : Array Value} (B : Box w b T cs) (t : Turns w w' S S') (h : ¬ S b) : Box w' b T cs := (t.only.block b B.lt h).trans B
theorem ItBox.cells {W : World} {b : Nat} {T : TypeId} {k i : Nat} (h : Box W b T #[.int .u64 (k : Int), .int .u32 (i : Int)]) : W.cell? ⟨b, 0, none⟩ = some (.int .u64 (k : Int)) ∧ W.cell? ⟨b, 1, none⟩ = some (.int .u32 (i : Int)) := ⟨h.cell 0 rfl, h.cell 1 rfl⟩
/-- k items, each of them x -/
def Of (x : It) (k : Nat) (L : List It) : Prop := L = List.replicate k x
theorem Of.nil (x : It) : Of x 0 [] := rfl
theorem Of.push {x : It} {k : Nat} {L : List It} (h : Of x k L) : Of x (k + 1) (x :: L) := by unfold Of at *; rw [h, List.replicate_succ]
theorem Of.len {x : It} {k : Nat} {L : List It} (h : Of x k L) : L.length = k := by unfold Of at h; rw [h, List.length_replicate]
theorem Of.mem {x : It} {k : Nat} {L : List It} (h : Of x k L) {y : It} (hy : y ∈ L) : y = x := by unfold Of at h; rw [h] at hy; exact (List.mem_replicate.1 hy).2
theorem Of.least {x : It} {k : Nat} {L : List It} (h : Of x k L) (hk : 0 < k) : Least x L := ⟨by unfold Of at h; rw [h]; exact List.mem_replicate.2 ⟨by omega, rfl⟩, fun y hy => by
  obtain rfl := h.mem hy
  exact lessB_irr _⟩
theorem Of.erase {x : It} {k : Nat} {L : List It} (h : Of x k L) : Of x (k - 1) (L.erase x) := by unfold Of at *; rw [h, List.erase_replicate_self]

set_option maxHeartbeats 4000000 in
theorem full_walk (K : HeapOk) (x : It) (hx : ItOk x) (w : World) : Calls Try.prog 6 #[.agg #[.int .u64 (x.k : Int), .int .u32 (x.i : Int)]] w (Yes w) := by
  go_enter Try.func6, Try.ntmps6
  go_wp2_with fail
  have k0 := keeps_alloc w (.cells #[.int .u64 (x.k : Int), .int .u32 (x.i : Int)] 32)
  have B0 := Lib.hid (Box.new w 32 #[.int .u64 (x.k : Int), .int .u32 (x.i : Int)])
  generalize w.alloc (.cells #[.int .u64 (x.k : Int), .int .u32 (x.i : Int)] 32) = W0 at *
  refine (K.new W0).mono ?_
  rintro e w1 ⟨p, F, rfl, h1, hF, k1⟩
  have M1 : Mine K W0.heap.size w1 p F [] := ⟨h1, hF⟩
  clear h1 hF
  go_wp2_with fail
  go_loopw [4] (fun i wr => ∃ (k : Nat) (G : Nat → Prop) (L : List It), k ≤ 65536 ∧ i = .int .i64 k ∧ Mine K W0.heap.size wr p G L ∧ Of x k L ∧ Keeps W0 wr) (fun i _ => 65536 - (intOf i).toNat)
  case atStart => exact ⟨0, F, [], Nat.zero_le _, rfl, M1, Of.nil x, k1⟩
  case round =>
    obtain ⟨k, G, L, hk, rfl, hM, hL, hkp⟩ := hrel
    have HL := Lib.hid hL
    have HLn := Lib.hid hL.len
    clear hL
    have BX := B0.out.keep hkp
    obtain ⟨c0, c1⟩ := ItBox.cells BX
    have hsz := BX.lt
    by_cases hlt : k < 65536
    · have P := Lib.hid (K.push x hM.h hx (by rw [HLn.out]; exact hlt))
      have hd : decide ((k : Int) < 65536) = true := decide_eq_true (by omega)
      have HK := Lib.hid (And.intro hk hlt)
      have hi : (k : Int) ≤ 65536 := by omega
      clear hk hlt
      go_wp2_with fail
      refine P.out.mono ?_
      rintro e w2 ⟨G2, rfl, h2, t2⟩
      go_wp2_with fail
      go_roundw
      case rel => exact ⟨k + 1, G2, x :: L, by have := HK.out; omega, by go_num, hM.next h2 t2 hkp.size, HL.out.push, t2.keeps hkp hM.b⟩
      case measure => have := HK.out; simp only [intOf]; omega
    · obtain rfl : k = 65536 := by omega
      clear hlt hk
      obtain ⟨yk, hyk⟩ : ∃ yk : Nat, yk = (x.k + 1) % 18446744073709551616 := ⟨_, rfl⟩
      have hwr : IntKind.u64.wrap ((x.k : Int) + 1) = (yk : Int) := by rw [IntKind.wrap_u64]; omega
      have hy : ItOk ⟨yk, 0⟩ := ⟨by show yk < _; omega, by show 0 < _; decide⟩
      have kz := keeps_alloc wr (.cells #[.int .u64 (yk : Int), .int .u32 0] 32)
      have hMz := hM.keep kz
      have nz : ¬ G wr.heap.size := fun e => Nat.lt_irrefl _ (K.lt hM.h _ e)
      have nx : ¬ G w.heap.size := fun e => by have := hM.b _ e; have := B0.out.lt; omega
      have BXz := BX.keep kz
      have BY := Box.new wr 32 #[.int .u64 (yk : Int), .int .u32 ((0 : Nat) : Int)]
      have P := Lib.hid (K.full ⟨yk, 0⟩ hMz.h hy HLn.out)
      have hkz := keeps_trans hkp kz
      clear hyk hM kz BX
      go_wp2_with fail
      generalize hYW : wr.alloc (.cells #[.int .u64 (yk : Int), .int .u32 0] 32) = Wz at *
      have HYW := Lib.hid hYW
      clear hYW
      refine P.out.mono ?_
      rintro e w2 ⟨G2, rfl, h2, t2⟩
      have hM2 := hMz.next h2 t2 hkz.size
      have hk2 := t2.keeps hkz hMz.b
      have BY2 := Box.turn BY t2 nz
      have BX2 := Box.turn BXz t2 nx
      have ny2 := t2.not BY.lt nz
      have nx2 := t2.not BXz.lt nx
      clear h2 t2 hMz hkz BY BXz nz nx P c0 c1
      go_wp2_with fail
      refine (K.len hM2.h (by rw [HLn.out]; exact Nat.le_refl _)).mono ?_
      rintro e w3 ⟨rfl, k3⟩
      rw [HLn.out]
      have hM3 := hM2.keep k3
      have BY3 := BY2.keep k3
      have BX3 := BX2.keep k3
      have hk3 := keeps_trans hk2 k3
      clear hM2 BY2 BX2 hk2 k3
      have P := Lib.hid (K.pop x hM3.h (HL.out.least (by decide)) (fun y hy => by rw [HL.out.mem hy]; exact hx) (by rw [HLn.out]; exact Nat.le_refl _))
      go_wp2_with fail
      refine P.out.mono ?_
      rintro e w4 ⟨G4, rfl, h4, t4⟩
      have hM4 := hM3.next h4 t4 hk3.size
      have hk4 := t4.keeps hk3 hM3.b
      have BY4 := Box.turn BY3 t4 ny2
      have BX4 := Box.turn BX3 t4 nx2
      have ny4 := t4.not BY3.lt ny2
      have nx4 := t4.not BX3.lt nx2
      clear h4 t4 hM3 hk3 BY3 BX3 ny2 nx2 P
      have kz := keeps_alloc w4 (.cells #[.int .u64 (x.k : Int), .int .u32 (x.i : Int)] 32)
      have hM5 := hM4.keep kz
      have BY5 := BY4.keep kz
      have BX5 := BX4.keep kz
      have hk5 := keeps_trans hk4 kz
      obtain ⟨a0, a1⟩ := ItBox.cells BY4
      obtain ⟨b0, b1⟩ := ItBox.cells BX4
      have la := BY4.lt
      have lb := BX4.lt
      have P := Lib.hid (K.push ⟨yk, 0⟩ hM5.h hy (by rw [HL.out.erase.len]; decide))
      clear kz
      go_wp2_with fail
      refine P.out.mono ?_
      rintro e w6 ⟨G6, rfl, h6, t6⟩
      have hM6 := hM5.next h6 t6 hk5.size
      have hk6 := t6.keeps hk5 hM5.b
      clear h6 t6 P
      go_wp2_with fail
      refine (K.len hM6.h (by rw [List.length_cons, HL.out.erase.len]; decide)).mono ?_
      rintro e w7 ⟨rfl, k7⟩
      rw [List.length_cons, HL.out.erase.len]
      go_wp2_with fail
      refine (works_heap K _).mono ?_
      rintro e w8 ⟨rfl, k8⟩
      go_wp2_with fail
      go_ret
      exact ⟨rfl, keeps_trans k0 (keeps_trans hk6 (keeps_trans k7 k8))⟩
end Go.Proofs.Ytldmecannmifiaa
