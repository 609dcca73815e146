/- Package witness: the heap is thinned; a vertex is come to. -/
import Derived.Test.YtkijfbnibfbldaaWitB
namespace Go.Proofs.Ytkijfbnibfbldaa
open Go.RowKit
set_option linter.unusedSimpArgs false
set_option linter.unusedVariables false
set_option maxRecDepth 100000

/-- blocks that are none of the search's have turned -/
theorem SrAt.far {K : HeapOk} {w w' : World} {b mb : Nat} {p : Addr} {Fh : Nat → Prop} {sv : Value} {hp : List It} {W : Wt} {S : List Nat} (h : SrAt K w b mb p Fh sv hp W S) {T : Nat → Prop} (hT : ∀ i, SF b mb Fh sv i → ¬ T i) (o : Only w w' T) : SrAt K w' b mb p Fh sv hp W S :=
  h.same fun i hi => o.block i (h.lt i hi) (hT i hi)
/-- what thin leaves -/
def ThinD (K : HeapOk) (w : World) (b mb : Nat) (Fh : Nat → Prop) (sv : Value) (hp : List It) (W : Wt) (S : List Nat) (w' : World) : Prop :=
  ∃ p' F' G, SrAt K w' b mb p' F' sv G W S ∧ ThinS W hp G ∧ G.length ≤ 16 ∧ Turns w w' (SF b mb Fh sv) (SF b mb F' sv)
/-- while it is thinned: where all lies -/
structure ThinR (K : HeapOk) (w wr : World) (b mb : Nat) (p p1 : Addr) (Fh F1 G1 : Nat → Prop) (sv : Value) (m G : List It) (W : Wt) (S : List Nat) : Prop where
  at_ : SrAt K wr b mb p F1 sv m W S
  h : K.H wr p1 G1 G
  T : Turns w wr (SF b mb Fh sv) (SF b mb F1 sv)
  Th : Turns w wr Fh F1
  low : ∀ i, G1 i → w.heap.size ≤ i
  ap : ∀ i, G1 i → ¬ F1 i
/-- while it is thinned -/
structure ThinW (K : HeapOk) (w wr : World) (b mb : Nat) (p p1 : Addr) (Fh F1 G1 : Nat → Prop) (sv : Value) (hp m G : List It) (W : Wt) (S : List Nat) : Prop extends ThinR K w wr b mb p p1 Fh F1 G1 sv m G W S where
  I : ThinI W hp G m
theorem ThinR.no {K : HeapOk} {w wr : World} {b mb : Nat} {p p1 : Addr} {Fh F1 G1 : Nat → Prop} {sv : Value} {m G : List It} {W : Wt} {S : List Nat} (h : ThinR K w wr b mb p p1 Fh F1 G1 sv m G W S) (hl : ∀ i, SF b mb Fh sv i → i < w.heap.size) : ∀ i, SF b mb F1 sv i → ¬ G1 i :=
  fun i hi hg => SF.not hl (h.low i hg) (h.ap i hg) hi
/-- the search's own turn -/
theorem ThinR.next {K : HeapOk} {w wr w' : World} {b mb : Nat} {p p1 : Addr} {Fh F1 G1 : Nat → Prop} {sv : Value} {m G : List It} {W : Wt} {S : List Nat} (h : ThinR K w wr b mb p p1 Fh F1 G1 sv m G W S) (hl : ∀ i, SF b mb Fh sv i → i < w.heap.size)
    {F2 : Nat → Prop} (t : Turns wr w' (SF b mb F1 sv) (SF b mb F2 sv)) (th : Turns wr w' F1 F2) : K.H w' p1 G1 G ∧ Turns w w' (SF b mb Fh sv) (SF b mb F2 sv) ∧ Turns w w' Fh F2 ∧ ∀ i, G1 i → ¬ F2 i :=
  ⟨K.same h.h fun i hi => t.only.block i (K.lt h.h i hi) (fun e => h.no hl i e hi), h.T.trans t, h.Th.trans th, fun i hi e => by
    rcases th.next i e with e | e
    · exact h.ap i hi e
    · have := K.lt h.h i hi; omega⟩
theorem ThinR.put {K : HeapOk} {w wr w' : World} {b mb : Nat} {p p1 : Addr} {Fh F1 G1 G2 : Nat → Prop} {sv : Value} {m G G' : List It} {W : Wt} {S : List Nat} (h : ThinR K w wr b mb p p1 Fh F1 G1 sv m G W S) (hl : ∀ i, SF b mb Fh sv i → i < w.heap.size)
    (hh : K.H w' p1 G2 G') (t : Turns wr w' G1 G2) : ThinR K w w' b mb p p1 Fh F1 G2 sv m G' W S :=
  ⟨h.at_.far (h.no hl) t.only, hh, ⟨h.T.only.trans t.only (fun i hi => .inr (h.low i hi)), h.T.next⟩, ⟨h.Th.only.trans t.only (fun i hi => .inr (h.low i hi)), h.Th.next⟩, fun i hi => by
    rcases t.next i hi with e | e
    · exact h.low i e
    · exact Nat.le_trans h.T.only.size e, fun i hi e => by
    rcases t.next i hi with e2 | e2
    · exact h.ap i e2 e
    · have := h.at_.lt i (.inr (.inr (.inl e))); omega⟩
/-- the new heap is put in the old one's place -/
theorem ThinW.done {K : HeapOk} {w wr : World} {b mb : Nat} {p p1 : Addr} {Fh F1 G1 : Nat → Prop} {sv : Value} {hp m G : List It} {W : Wt} {S : List Nat} (h : ThinW K w wr b mb p p1 Fh F1 G1 sv hp m G W S) (hl : ∀ i, SF b mb Fh sv i → i < w.heap.size)
    (hf : ∀ x ∈ hp, ItOk x) (hG : G.length ≤ 16) (hT : ThinS W hp G) : ThinD K w b mb Fh sv hp W S (wr.setCell ⟨b, 2, none⟩ (.pointer (some p1))) := by
  have hb : Box (wr.setCell ⟨b, 2, none⟩ (.pointer (some p1))) b 77 #[sv, .map (some mb), .pointer (some p1)] := by simpa using h.at_.box.set 2 (.pointer (some p1))
  have ho : Only wr (wr.setCell ⟨b, 2, none⟩ (.pointer (some p1))) (fun c => c = b) := ⟨rfl, rfl, rfl, by simp, fun i hi hn => Below.heap_setCell _ ⟨b, 2, none⟩ _ i hn⟩
  have hbG : ∀ i, i < w.heap.size → ¬ G1 i := fun i hi e => by have := h.low i e; omega
  refine ⟨p1, G1, G, ⟨hb, h.at_.own.same fun g hg => ho.block g (h.at_.own.lt g hg).2 (h.at_.bs g hg).1, h.at_.map.same (ho.block mb h.at_.map.lt (fun e => h.at_.bm e.symm)), K.same h.h fun i hi => ho.block i (K.lt h.h i hi) (fun e => hbG b (hl b (.inl rfl)) (e ▸ hi)), hbG b (hl b (.inl rfl)), hbG mb (hl mb (.inr (.inl rfl))), fun g hg => hbG g (hl g (.inr (.inr (.inr hg)))), fun x hx => hf x (h.I.subF x hx).1, h.at_.fitW, by omega, h.at_.few⟩, hT, hG, ⟨h.T.only.trans ho (fun i hi => .inl (.inl hi)), ?_⟩⟩
  rintro i (e | e | e | e)
  · exact .inl (.inl e)
  · exact .inl (.inr (.inl e))
  · exact .inr (h.low i e)
  · exact .inl (.inr (.inr (.inr e)))

set_option maxHeartbeats 8000000 in
theorem thin_any {K : HeapOk} {w : World} {b mb : Nat} {p : Addr} {Fh : Nat → Prop} {sv : Value} {hp : List It} {W : Wt} {S : List Nat} (h : SrAt K w b mb p Fh sv hp W S) (hn : hp.Nodup) :
    Calls Try.prog 43 #[.pointer (some ⟨b, 0, none⟩)] w fun e w' => e = .returned (.tuple #[]) ∧ ThinD K w b mb Fh sv hp W S w' := by
  have HH := Lib.hid h
  have HN := Lib.hid hn
  have HLT := Lib.hid h.lt
  have NEW := Lib.hid (K.new w)
  clear h hn
  go_enter Try.func43, Try.ntmps43
  go_wp2_with fail
  refine NEW.out.mono ?_
  rintro e w1 ⟨p1, G0, rfl, h1, hG0, k1⟩
  have T0 := Lib.hid (show ThinW K w w1 b mb p p1 Fh Fh G0 sv hp hp [] W S from ⟨⟨HH.out.keep k1, h1, Turns.of_keeps k1, Turns.of_keeps k1, hG0, fun i hi e => by have := K.lt HH.out.heap i e; have := hG0 i hi; omega⟩, ThinI.start HN.out⟩)
  clear h1 hG0 k1 NEW
  go_wp2_with fail
  go_loopw [6] (fun t6 wr => ∃ (k : Nat) (m G : List It) (F1 G1 : Nat → Prop), k ≤ 16 ∧ t6 = .int .i64 (k : Int) ∧ G.length = k ∧ ThinW K w wr b mb p p1 Fh F1 G1 sv hp m G W S) (fun t6 _ => 16 - (intOf t6).toNat)
  case atStart => exact ⟨0, hp, [], Fh, G0, by omega, rfl, rfl, T0.out⟩
  case round =>
    obtain ⟨k, m, G, F1, G1, hk, rfl, hG, hT⟩ := hrel
    have HT := Lib.hid hT
    have HG := Lib.hid hG
    have HFIN := Lib.hid (fun V (kk : Keeps wr V) => show V.cell? ⟨b, 2, none⟩ = some (.pointer (some p)) ∧ V.frozen? ⟨b, 2, none⟩ = false from ⟨(hT.at_.box.keep kk).cell 2 rfl, (hT.at_.box.keep kk).frozen 2⟩)
    clear hT hG T0
    by_cases hk16 : k < 16
    · have hki : (k : Int) < 16 := by omega
      have PN := Lib.hid (next_any HT.out.at_ HT.out.I.once)
      have HK := Lib.hid hk16
      clear hk hk16
      go_wp2_with fail
      refine PN.out.mono ?_
      rintro e w4 (⟨rfl, F4, S4, T4, Th4, hno⟩ | ⟨x, rfl, F4, m4, S4, T4, Th4, hN4⟩)
      · obtain ⟨q1, q2, q3, q4⟩ := HT.out.next HLT.out T4 Th4
        have kx := keeps_alloc w4 (.cells #[.int .u64 0, .int .u32 0] 71)
        have D := Lib.hid (show ThinW K w (w4.alloc (.cells #[.int .u64 0, .int .u32 0] 71)) b mb p p1 Fh F4 G1 sv hp [] G W S from ⟨⟨S4.keep kx, K.same q1 (fun i hi => kx.block i (K.lt q1 i hi)), q2.keep2 kx, q3.keep2 kx, HT.out.low, q4⟩, ⟨HT.out.I.onceF, by simp, HT.out.I.subF, by simp, by simp, fun y hy ho => by
          rcases HT.out.I.all y hy ho with e | e
          · exact .inl e
          · exact absurd ho (hno y e)⟩⟩)
        have HGG := Lib.hid (HT.out.I.gone hno)
        have s2 := D.out.at_.box.cell 2 rfl
        have f2 := D.out.at_.box.frozen 2
        have l2 := D.out.at_.box.lt
        clear T4 Th4 S4 hno q1 q2 q3 q4 kx
        go_wp2_with fail
        go_returns
        exact ⟨rfl, D.out.done HLT.out HH.out.fit (by have := HG.out; have := HK.out; omega) HGG.out⟩
      · obtain ⟨q1, q2, q3, q4⟩ := HT.out.next HLT.out T4 Th4
        have kx := keeps_alloc w4 (.cells #[.int .u64 (x.k : Int), .int .u32 (x.i : Int)] 71)
        have D := Lib.hid (show K.H (w4.alloc (.cells #[.int .u64 (x.k : Int), .int .u32 (x.i : Int)] 71)) p1 G1 G ∧ SrAt K (w4.alloc (.cells #[.int .u64 (x.k : Int), .int .u32 (x.i : Int)] 71)) b mb p F4 sv m4 W S ∧ Turns w (w4.alloc (.cells #[.int .u64 (x.k : Int), .int .u32 (x.i : Int)] 71)) (SF b mb Fh sv) (SF b mb F4 sv) ∧ Turns w (w4.alloc (.cells #[.int .u64 (x.k : Int), .int .u32 (x.i : Int)] 71)) Fh F4 ∧ ∀ i, G1 i → ¬ F4 i from ⟨K.same q1 (fun i hi => kx.block i (K.lt q1 i hi)), S4.keep kx, q2.keep2 kx, q3.keep2 kx, q4⟩)
        have x0 : (w4.alloc (.cells #[.int .u64 (x.k : Int), .int .u32 (x.i : Int)] 71)).cell? ⟨w4.heap.size, 0, none⟩ = some (.int .u64 (x.k : Int)) := (Box.new w4 71 #[.int .u64 (x.k : Int), .int .u32 (x.i : Int)]).cell 0 rfl
        have x1 : (w4.alloc (.cells #[.int .u64 (x.k : Int), .int .u32 (x.i : Int)] 71)).cell? ⟨w4.heap.size, 1, none⟩ = some (.int .u32 (x.i : Int)) := (Box.new w4 71 #[.int .u64 (x.k : Int), .int .u32 (x.i : Int)]).cell 1 rfl
        have lx := (Box.new w4 71 #[.int .u64 (x.k : Int), .int .u32 (x.i : Int)]).lt
        have HN4 := Lib.hid hN4
        have PP := Lib.hid (K.push x D.out.1 (HH.out.fit x (HT.out.I.sub x hN4.mem)) (by have := HG.out; have := HK.out; omega))
        clear T4 Th4 S4 q1 q2 q3 q4 kx hN4
        go_wp2_with fail
        refine PP.out.mono ?_
        rintro e w5 ⟨G2, rfl, h5, t5⟩
        obtain ⟨d1, d2, d3, d4, d5⟩ := D.out
        have N5 := Lib.hid (show ThinW K w w5 b mb p p1 Fh F4 G2 sv hp m4 (x :: G) W S from ⟨(show ThinR K w (w4.alloc (.cells #[.int .u64 (x.k : Int), .int .u32 (x.i : Int)] 71)) b mb p p1 Fh F4 G1 sv m4 G W S from ⟨d2, d1, d3, d4, HT.out.low, d5⟩).put HLT.out h5 t5, HT.out.I.step HN4.out⟩)
        clear h5 t5 d1 d2 d3 d4 d5 x0 x1 lx D PP
        go_wp2_with fail
        go_roundw
        case rel => exact ⟨k + 1, m4, x :: G, F4, G2, by have := HK.out; omega, by go_num, by have := HG.out; simp; omega, N5.out⟩
        case measure => have := HK.out; simp [intOf]; omega
    · obtain rfl : k = 16 := by omega
      obtain ⟨s2, f2⟩ := HFIN.out wr (keeps_refl _)
      have l2 := HT.out.at_.box.lt
      clear hk hk16
      go_wp2_with fail
      go_returns
      exact ⟨rfl, HT.out.done HLT.out HH.out.fit (by have := HG.out; omega) (HT.out.I.done HG.out)⟩
end Go.Proofs.Ytkijfbnibfbldaa
