/- Package witness: a vertex is settled; a search begins. -/
import Derived.Test.YtkijfbnibfbldaaWitD
namespace Go.Proofs.Ytkijfbnibfbldaa
open Go.RowKit
set_option linter.unusedSimpArgs false
set_option linter.unusedVariables false
set_option maxRecDepth 100000

theorem info_u32w : (Try.prog.info? 26).map (fun i => (i.zero, i.size, i.bytes)) = some (some (.int .u32 0), 1, 4) := by kernel_rfl
theorem Box.grown {w w' : World} {b : Nat} {t : TypeId} {cs : Array Value} {row : Option Nat} (h : Box w b t cs) (hg : w.grownBy w' row) (hr : row ≠ some b) : Box w' b t cs := (hg.block b h.lt (fun e => hr e.symm)).trans h
/-- what settle leaves -/
def SetD (K : HeapOk) (w : World) (b mb : Nat) (p : Addr) (Fh : Nat → Prop) (sv : Value) (hp : List It) (W : Wt) (S : List Nat) (w' : World) : Prop :=
  ∃ sv', SrAt K w' b mb p Fh sv' hp W S ∧ Turns w w' (SF b mb Fh sv) (SF b mb Fh sv')
theorem SrAt.add {K : HeapOk} {w0 w w' : World} {b mb : Nat} {p : Addr} {Fh : Nat → Prop} {sv sv' : Value} {hp : List It} {W : Wt} {S : List Nat} {v : Nat} (h : SrAt K w b mb p Fh sv hp W S) (T : Turns w0 w (SF b mb Fh sv) (SF b mb Fh sv))
    (hown : Own w' 0 26 1 sv' (S.length + 1) (celU S ++ [.int .u32 (v : Int)])) (hg : w.grownBy w' sv.ownBlock) (hb : sv'.ownBlock = sv.ownBlock ∨ sv'.ownBlock = some w.heap.size) (hS : S.length < 1000) :
    SetD K w0 b mb p Fh sv hp W (S ++ [v]) (w'.setCell ⟨b, 0, none⟩ sv') := by
  have hlt := h.box.lt
  have hne : ∀ i, i < w.heap.size → sv.ownBlock ≠ some i → w'.heap[i]? = w.heap[i]? := fun i hi hn => hg.block i hi (fun e => hn e.symm)
  have hbs : sv.ownBlock ≠ some b := fun e => (h.bs b e).1 rfl
  have hms : sv.ownBlock ≠ some mb := fun e => (h.bs mb e).2 rfl
  have hbox : Box w' b 77 #[sv, .map (some mb), .pointer (some p)] := (hne b hlt hbs).trans h.box
  have hbox2 : Box (w'.setCell ⟨b, 0, none⟩ sv') b 77 #[sv', .map (some mb), .pointer (some p)] := by simpa using hbox.set 0 sv'
  have hfar : ∀ i, i ≠ b → (w'.setCell ⟨b, 0, none⟩ sv').heap[i]? = w'.heap[i]? := fun i hi => Below.heap_setCell _ ⟨b, 0, none⟩ _ i hi
  have hsb : ∀ g, sv'.ownBlock = some g → g ≠ b ∧ ¬ Fh g := fun g hg2 => by
    rcases hb with e | e
    · rw [e] at hg2
      exact ⟨(h.bs g hg2).1, h.ns g hg2⟩
    · rw [e] at hg2
      injection hg2 with hg2
      subst hg2
      exact ⟨by omega, fun e => by have := K.lt h.heap _ e; omega⟩
  have hmb := h.map.lt
  refine ⟨sv', ⟨hbox2, ?_, ?_, ?_, h.nb, h.nm, fun g hg2 => (hsb g hg2).2, h.fit, h.fitW, h.len, by simp only [List.length_append, List.length_singleton]; omega⟩, ⟨?_, ?_⟩⟩
  · have : celU (S ++ [v]) = celU S ++ [.int .u32 (v : Int)] := by simp [celU, u32V]
    rw [this, List.length_append, List.length_singleton]
    exact hown.same fun g hg2 => hfar g (hsb g hg2).1
  · exact h.map.same ((hfar mb (fun e => h.bm e.symm)).trans (hne mb hmb hms))
  · exact K.same h.heap fun i hi => (hfar i (fun e => h.nb (e ▸ hi))).trans (hne i (K.lt h.heap i hi) (fun e => h.ns i e hi))
  · refine T.only.trans (S1 := SF b mb Fh sv) ⟨hg.os, hg.tape, hg.output, by simpa using hg.size, fun i hi hn => ?_⟩ (fun i hi => .inl hi)
    exact (hfar i (fun e => hn (.inl e))).trans (hne i hi (fun e => hn (.inr (.inr (.inr e)))))
  · rintro i (e | e | e | e)
    · exact .inl (.inl e)
    · exact .inl (.inr (.inl e))
    · exact .inl (.inr (.inr (.inl e)))
    · rcases hb with e2 | e2
      · rw [e2] at e
        exact .inl (.inr (.inr (.inr e)))
      · rw [e2] at e
        injection e with e
        exact .inr (by have := T.only.size; omega)
set_option maxHeartbeats 8000000 in
theorem settle_any {K : HeapOk} {w : World} {b mb : Nat} {p : Addr} {Fh : Nat → Prop} {sv : Value} {hp : List It} {W : Wt} {S : List Nat} (h : SrAt K w b mb p Fh sv hp W S) (v : Nat) (hS : S.length < 100) :
    Calls Try.prog 31 #[.pointer (some ⟨b, 0, none⟩), .int .u32 (v : Int)] w fun e w' => e = .returned (.tuple #[]) ∧ SetD K w b mb p Fh sv hp (delM W v) (S ++ [v]) w' := by
  obtain ⟨i0, hi, hz0, hz1, hz2⟩ := info_parts info_u32w
  obtain ⟨A, cap, rfl, _⟩ := h.own.form
  have HH := Lib.hid h
  have HM := Lib.hid h.map
  have HS := Lib.hid hS
  have c1 : w.cell? ⟨b, 1, none⟩ = some (.map (some mb)) := h.box.cell 1 rfl
  have lb := h.box.lt
  have PUT := Lib.hid (fun w2 (hM2 : MapW u32V u64V w2 mb (delM W v)) (o : Only w w2 (fun c => c = mb)) => h.put hM2 o (fun u c hu => by
    rw [lookM_delW] at hu
    by_cases e : u = v
    · rw [if_pos e] at hu; cases hu
    · rw [if_neg e] at hu
      exact h.fitW u c hu))
  obtain ⟨w2, hdel, hM2, hO2⟩ := run_delV (P := Try.prog) waitT h.map v 0
  simp only [u32V] at hdel
  obtain ⟨S2, T2⟩ := PUT.out w2 hM2 hO2
  have c2 : w2.cell? ⟨b, 0, none⟩ = some (.slice A S.length cap) := S2.box.cell 0 rfl
  have l2 := S2.box.lt
  have S2H := Lib.hid S2
  have T2H := Lib.hid T2
  have K3 := Lib.hid (keeps_alloc w2 (.cells #[.int .u32 (v : Int)] 26))
  have HOX := Lib.hid (S2.own.keep K3.out)
  clear h hS S2 T2 hM2 hO2 PUT
  go_enter Try.func31, Try.ntmps31
  go_wp2_with (at_builtin; refine wpList_app _ rfl _ _ 23 rfl 0 26 i0 (.int .u32 0) 1 4 Try.underlying23 hi hz0 hz1 hz2 rfl (by decide) _ S.length (celU S) rfl HOX.out _ _ 1 1 [.int .u32 (v : Int)] rfl rfl (At.new _ _ _ _ (Nat.lt_succ_self _)) (by intro u hu; simp at hu; subst hu; rfl) (by have := HS.out; unfold maxLen; omega) (by have := HS.out; omega) (Nat.zero_le _) ?_; intro v4 w4 hown4 hgrow4 hblk4; obtain ⟨A4, cap4, rfl, _⟩ := hown4.form; have hgr : (w2.alloc (.cells #[.int .u32 (v : Int)] 26)).grownBy w4 (Value.slice A S.length cap).ownBlock := hgrow4; have bx4 := (S2H.out.keep K3.out).box.grown hgr (fun e => (S2H.out.bs b e).1 rfl); have c4 : w4.cell? ⟨b, 0, none⟩ = some (.slice A S.length cap) := bx4.cell 0 rfl; have f4 := bx4.frozen 0; have l4 := bx4.lt; have FIN := Lib.hid ((S2H.out.keep K3.out).add (T2H.out.keep2 K3.out) hown4 hgr hblk4 (by have := HS.out; omega)); clear hgr hgrow4 hown4 hblk4 bx4)
  go_returns
  exact ⟨rfl, FIN.out⟩
end Go.Proofs.Ytkijfbnibfbldaa
