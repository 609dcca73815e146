/- Package witness: the next one that waits is taken out of the heap. -/
import Derived.Test.YtkijfbnibfbldaaWitA
import Derived.Deep.RegionHeld3
import Derived.Deep.LoopGhost
namespace Go.Proofs.Ytkijfbnibfbldaa
open Go.RowKit
set_option linter.unusedSimpArgs false
set_option linter.unusedVariables false
set_option maxRecDepth 100000

theorem Only.keepsB {w w' : World} {S : Nat → Prop} (h : Only w w' S) {b : Nat} {t : TypeId} {cs : Array Value} (hb : Box w b t cs) (hn : ¬ S b) : Box w' b t cs := (h.block b hb.lt hn).trans hb
theorem SF.mono {b mb : Nat} {Fh Fh' : Nat → Prop} {sv : Value} (h : ∀ i, Fh i → Fh' i) : ∀ i, SF b mb Fh sv i → SF b mb Fh' sv i := by
  rintro i (e | e | e | e)
  · exact .inl e
  · exact .inr (.inl e)
  · exact .inr (.inr (.inl (h i e)))
  · exact .inr (.inr (.inr e))
/-- two cells of a fresh block -/
theorem two_set {w : World} {g : Nat} {T : TypeId} {x y : Value} (hb : Box w g T #[x, y]) (u v : Value) :
    Box ((w.setCell ⟨g, 0, none⟩ u).setCell ⟨g, 1, none⟩ v) g T #[u, v] ∧ Only w ((w.setCell ⟨g, 0, none⟩ u).setCell ⟨g, 1, none⟩ v) (fun c => c = g) := by
  refine ⟨by simpa using (hb.set 0 u).set 1 v, rfl, rfl, rfl, by simp, fun i hi hn => ?_⟩
  rw [Below.heap_setCell _ ⟨g, 1, none⟩ _ i hn, Below.heap_setCell _ ⟨g, 0, none⟩ _ i hn]
theorem look_wait {w : World} {mb : Nat} {W : Wt} (h : MapW u32V u64V w mb W) (v : Nat) (c : Bool) :
    (Instr.lookup 74 (.map (some mb)) (.int .u32 (v : Int)) c).run Try.prog w = .ok (if c then .tuple #[((lookM W v).map u64V).getD (.int .u64 0), .bool (lookM W v).isSome] else ((lookM W v).map u64V).getD (.int .u64 0)) w :=
  run_lookV (P := Try.prog) waitT zero_u64 h v c

/-- a block that is none of the search's has turned -/
theorem SrAt.fresh {K : HeapOk} {w w' : World} {b mb : Nat} {p : Addr} {Fh : Nat → Prop} {sv : Value} {hp : List It} {W : Wt} {S : List Nat} (h : SrAt K w b mb p Fh sv hp W S) {g : Nat} (hg : ¬ SF b mb Fh sv g) (o : Only w w' (fun c => c = g)) : SrAt K w' b mb p Fh sv hp W S :=
  h.same fun i hi => o.block i (h.lt i hi) (fun e => hg (e ▸ hi))
theorem SF.not {b mb g B : Nat} {Fh Fh' : Nat → Prop} {sv : Value} (h : ∀ i, SF b mb Fh sv i → i < B) (hg : B ≤ g) (hf : ¬ Fh' g) : ¬ SF b mb Fh' sv g := by
  rintro (e | e | e | e)
  · have := h g (.inl e); omega
  · have := h g (.inr (.inl e)); omega
  · exact hf e
  · have := h g (.inr (.inr (.inr e))); omega
/-- what next leaves: where nobody waits, and where x does -/
def NextNo (K : HeapOk) (w : World) (b mb : Nat) (Fh : Nat → Prop) (sv : Value) (p : Addr) (hp : List It) (W : Wt) (S : List Nat) (w' : World) : Prop :=
  ∃ Fh', SrAt K w' b mb p Fh' sv [] W S ∧ Turns w w' (SF b mb Fh sv) (SF b mb Fh' sv) ∧ Turns w w' Fh Fh' ∧ ∀ y ∈ hp, ¬ okI W y
def NextYes (K : HeapOk) (w : World) (b mb : Nat) (Fh : Nat → Prop) (sv : Value) (p : Addr) (hp : List It) (W : Wt) (S : List Nat) (x : It) (w' : World) : Prop :=
  ∃ Fh' m, SrAt K w' b mb p Fh' sv m W S ∧ Turns w w' (SF b mb Fh sv) (SF b mb Fh' sv) ∧ Turns w w' Fh Fh' ∧ NextV W hp x m

theorem Turns.keep2 {a b c : World} {S T : Nat → Prop} (h : Turns a b S T) (k : Keeps b c) : Turns a c S T := h.trans (Turns.of_keeps k)
/-- a block that was made behind the first world has turned -/
theorem Turns.fresh {a b c : World} {S T : Nat → Prop} (h : Turns a b S T) {g : Nat} (hg : a.heap.size ≤ g) (o : Only b c (fun i => i = g)) : Turns a c S T :=
  ⟨h.only.trans o (fun i e => .inr (by rw [e]; exact hg)), h.next⟩

set_option maxHeartbeats 8000000 in
theorem next_any {K : HeapOk} {w : World} {b mb : Nat} {p : Addr} {Fh : Nat → Prop} {sv : Value} {hp : List It} {W : Wt} {S : List Nat} (h : SrAt K w b mb p Fh sv hp W S) (hn : hp.Nodup) :
    Calls Try.prog 30 #[.pointer (some ⟨b, 0, none⟩)] w fun e w' =>
      (e = .returned (.tuple #[.agg #[.int .u64 0, .int .u32 0], .bool false]) ∧ NextNo K w b mb Fh sv p hp W S w') ∨
      ∃ x : It, e = .returned (.tuple #[.agg #[.int .u64 (x.k : Int), .int .u32 (x.i : Int)], .bool true]) ∧ NextYes K w b mb Fh sv p hp W S x w' := by
  have k0 := keeps_alloc w (.cells #[.int .u64 0, .int .u32 0] 71)
  have B0 := Lib.hid (Box.new w 71 #[.int .u64 0, .int .u32 0])
  have H0 := Lib.hid (h.keep k0)
  have HK0 := Lib.hid k0
  have HN := Lib.hid hn
  have hFlt := Lib.hid (show ¬ Fh w.heap.size from fun e => by have := K.lt h.heap _ e; omega)
  have HLT := Lib.hid h.lt
  have HMAP := Lib.hid h.map
  clear h hn k0
  go_enter Try.func30, Try.ntmps30
  go_wp2_with fail
  generalize hW0 : w.alloc (.cells #[.int .u64 0, .int .u32 0] 71) = W0 at *
  have HW0 := Lib.hid hW0
  clear hW0
  go_loopg [5] hp.length (fun g _ wr => ∃ (m : List It) (F1 : Nat → Prop), m.length ≤ g ∧ Rest W hp m ∧ SrAt K wr b mb p F1 sv m W S ∧ Turns w wr (SF b mb Fh sv) (SF b mb F1 sv) ∧ Turns w wr Fh F1 ∧ Box wr w.heap.size 71 #[.int .u64 0, .int .u32 0] ∧ ¬ F1 w.heap.size)
  case atStart => exact ⟨hp, Fh, Nat.le_refl _, Rest.refl HN.out, H0.out, Turns.of_keeps HK0.out, Turns.of_keeps HK0.out, B0.out, hFlt.out⟩
  case round =>
    clear H0 HK0 B0 hFlt
    obtain ⟨m, F1, hml, hR, hS, hT, hTh, hB, hF⟩ := hrel
    have HR := Lib.hid hR
    have HS := Lib.hid hS
    have HT := Lib.hid hT
    have HTh := Lib.hid hTh
    have HB := Lib.hid hB
    have HF := Lib.hid hF
    have HML := Lib.hid hml
    have c2 := hS.box.cell 2 rfl
    have lb := hS.box.lt
    have hr0 := hB.lt
    clear hR hS hT hTh hB hF hml
    by_cases hm : m = []
    · subst hm
      have PE := Lib.hid (K.empty HS.out.heap)
      go_wp2_with fail
      refine PE.out.mono ?_
      rintro e w4 ⟨F4, rfl, h4, t4⟩
      obtain ⟨S4, T4⟩ := HS.out.turn h4 t4 (by simp) (by simp)
      have B4 := (t4.only.keepsB HB.out HF.out)
      have F4n : ¬ F4 w.heap.size := fun e => by
        rcases t4.next _ e with e | e
        · exact HF.out e
        · have := HB.out.lt; omega
      have kx := keeps_alloc w4 (.cells #[.int .u64 0, .int .u32 0] 71)
      have B5 := B4.keep kx
      have y0 := B5.cell 0 rfl
      have y1 := B5.cell 1 rfl
      have g0 := B5.frozen 0
      have g1 := B5.frozen 1
      have l1 := B5.lt
      have FIN := Lib.hid (two_set B5 (.int .u64 0) (.int .u32 0))
      have S5 := Lib.hid (S4.keep kx)
      have T5 := Lib.hid ((HT.out.trans T4).keep2 kx)
      have T6 := Lib.hid ((HTh.out.trans t4).keep2 kx)
      have F4N := Lib.hid F4n
      clear h4 t4 S4 T4 B4 F4n B5
      go_wp2_with fail
      clear y0 y1 g0 g1
      obtain ⟨B6, O6⟩ := FIN.out
      have q0 := B6.cell 0 rfl
      have q1 := B6.cell 1 rfl
      clear FIN
      have SN := SF.not HLT.out (Nat.le_refl _) F4N.out
      have S6 := S5.out.fresh SN O6
      have T7 := T5.out.fresh (Nat.le_refl _) O6
      have T8 := T6.out.fresh (Nat.le_refl _) O6
      generalize ((w4.alloc (.cells #[.int .u64 0, .int .u32 0] 71)).setCell ⟨w.heap.size, 0, none⟩ (.int .u64 0)).setCell ⟨w.heap.size, 1, none⟩ (.int .u32 0) = w8 at *
      exact bodyPost_ret (v := .tuple #[.agg #[.int .u64 0, .int .u32 0], .bool false]) (by simp [results, Try.results30, go_sem, q0, q1]) rfl (.inl ⟨rfl, F4, S6, T7, T8, fun y hy ho => by have := HR.out.all y hy ho; simp at this⟩)
    · have hpos : 0 < m.length := List.length_pos_iff.2 hm
      obtain ⟨x, hx⟩ := least_of hm
      have hle : (m.erase x).length = m.length - 1 := List.length_erase_of_mem hx.mem
      have PS := Lib.hid (K.pop x HS.out.heap hx HS.out.fit HS.out.len)
      have HX := Lib.hid hx
      have HLE := Lib.hid (And.intro hle hpos)
      clear hm hx hle hpos
      obtain ⟨lv, hlv⟩ : ∃ lv, lookM W x.i = lv := ⟨_, rfl⟩
      have HLV := Lib.hid hlv
      clear hlv
      go_wp2_with fail
      refine PS.out.mono ?_
      rintro e w4 ⟨F4, rfl, h4, t4⟩
      obtain ⟨S4, T4⟩ := HS.out.turn h4 t4 (fun y hy => HS.out.fit y (List.mem_of_mem_erase hy)) (by have := HS.out.len; have := HLE.out; omega)
      have B4 := (t4.only.keepsB HB.out HF.out)
      have F4n : ¬ F4 w.heap.size := fun e => by
        rcases t4.next _ e with e | e
        · exact HF.out e
        · have := HB.out.lt; omega
      have kx := keeps_alloc w4 (.cells #[.int .u64 (x.k : Int), .int .u32 (x.i : Int)] 71)
      have BX := Box.new w4 71 #[.int .u64 (x.k : Int), .int .u32 (x.i : Int)]
      have S5 := S4.keep kx
      have B5 := Lib.hid (B4.keep kx)
      have T5 := Lib.hid ((HT.out.trans T4).keep2 kx)
      have T6 := Lib.hid ((HTh.out.trans t4).keep2 kx)
      have F4N := Lib.hid F4n
      have d1 : (w4.alloc (.cells #[.int .u64 (x.k : Int), .int .u32 (x.i : Int)] 71)).cell? ⟨b, 1, none⟩ = some (.map (some mb)) := S5.box.cell 1 rfl
      have x0 : (w4.alloc (.cells #[.int .u64 (x.k : Int), .int .u32 (x.i : Int)] 71)).cell? ⟨w4.heap.size, 0, none⟩ = some (.int .u64 (x.k : Int)) := BX.cell 0 rfl
      have x1 : (w4.alloc (.cells #[.int .u64 (x.k : Int), .int .u32 (x.i : Int)] 71)).cell? ⟨w4.heap.size, 1, none⟩ = some (.int .u32 (x.i : Int)) := BX.cell 1 rfl
      have lx := BX.lt
      have lb5 := S5.box.lt
      have HS5 := Lib.hid S5
      clear h4 t4 S4 T4 B4 F4n S5 kx BX c2
      go_wp2_with fail
      generalize hW5 : w4.alloc (.cells #[.int .u64 (x.k : Int), .int .u32 (x.i : Int)] 71) = w5 at *
      have HW5 := Lib.hid hW5
      clear hW5
      have LK := look_wait (HS5.out.map.keep (keeps_drew w5)) x.i true
      rw [HLV.out] at LK
      simp only [if_true] at LK
      cases lv with
      | none =>
        simp only [Option.map_none, Option.getD_none, Option.isSome_none] at LK
        go_region
        have NK := Lib.hid (show ¬ okI W x from by unfold okI; rw [HLV.out]; simp)
        go_wp2_with fail
        go_roundg (m.erase x).length
        case rel =>
          have hmg := HML.out
          have hle := HLE.out
          exact ⟨m.erase x, F4, Nat.le_refl _, HR.out.erase NK.out, HS5.out.keep (keeps_drew _), T5.out.keep2 (keeps_drew _), T6.out.keep2 (keeps_drew _), B5.out.keep (keeps_drew _), F4N.out⟩
        case measure =>
          have hmg := HML.out
          have hle := HLE.out
          omega
      | some c =>
        simp only [Option.map_some, Option.getD_some, Option.isSome_some, u64V] at LK
        by_cases hc : c = x.k
        · subst hc
          have y0 := B5.out.cell 0 rfl
          have y1 := B5.out.cell 1 rfl
          have g0 := B5.out.frozen 0
          have g1 := B5.out.frozen 1
          have l1 := B5.out.lt
          have FIN := Lib.hid (two_set B5.out (.int .u64 (x.k : Int)) (.int .u32 (x.i : Int)))
          go_region
          go_wp2_with fail
          clear y0 y1 g0 g1
          obtain ⟨B6, O6⟩ := FIN.out
          have q0 := B6.cell 0 rfl
          have q1 := B6.cell 1 rfl
          clear FIN
          have SN := SF.not HLT.out (Nat.le_refl _) F4N.out
          have S7 := HS5.out.fresh SN O6
          have T7 := T5.out.fresh (Nat.le_refl _) O6
          have T8 := T6.out.fresh (Nat.le_refl _) O6
          generalize (w5.setCell ⟨w.heap.size, 0, none⟩ (.int .u64 (x.k : Int))).setCell ⟨w.heap.size, 1, none⟩ (.int .u32 (x.i : Int)) = w8 at *
          exact bodyPost_ret (v := .tuple #[.agg #[.int .u64 (x.k : Int), .int .u32 (x.i : Int)], .bool true]) (by simp [results, Try.results30, go_sem, q0, q1]) rfl (.inr ⟨x, rfl, F4, m.erase x, S7.keep (keeps_drew _), T7.keep2 (keeps_drew _), T8.keep2 (keeps_drew _), HR.out.next HLV.out HX.out⟩)
        · have h4 : ((c : Int) == (x.k : Int)) = false := by simp only [beq_eq_false_iff_ne, ne_eq, Int.natCast_inj]; exact hc
          have HC := Lib.hid hc
          clear hc
          go_region
          have NK := Lib.hid (show ¬ okI W x from by unfold okI; rw [HLV.out]; intro e; injection e with e; exact HC.out e)
          go_wp2_with fail
          go_roundg (m.erase x).length
          case rel =>
            have hmg := HML.out
            have hle := HLE.out
            exact ⟨m.erase x, F4, Nat.le_refl _, HR.out.erase NK.out, HS5.out.keep (keeps_drew _), T5.out.keep2 (keeps_drew _), T6.out.keep2 (keeps_drew _), B5.out.keep (keeps_drew _), F4N.out⟩
          case measure =>
            have hmg := HML.out
            have hle := HLE.out
            omega
end Go.Proofs.Ytkijfbnibfbldaa
