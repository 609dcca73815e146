/- The contracts of package milepostref04: items in a slice, as they came. -/
import Derived.Test.YtldmecannmifiaaProg
import Derived.Test.YtldmecannmifiaaOnly
import Derived.Test.YtldmecannmifiaaHeapMath
import Derived.Deep.RegionHeld3
import Derived.Deep.RegionLaw
import Derived.Outline
namespace Go.Proofs.Ytldmecannmifiaa
open Go.RowKit
set_option linter.unusedSimpArgs false
set_option linter.unusedVariables false
set_option maxRecDepth 100000

/-- append onto a row of one's own, as one step of a region that draws its order -/
theorem step_app {P : Program} {ops : Array Oper} {o : Oper} {a : Act} {w : World} {K : Act → World → Prop} {Q : Exit → Act → World → Prop} {E : Prop} (hg : o.guard = none) (s x : Operand) (t : TypeId)
    (ho : o.op = .call { callee := .builtin .append, args := #[s, x], argTypes := #[t, t] })
    (base : Nat) (e : TypeId) (i : TypeInfo) (z : Value) (size bytes : Nat) (ht : P.underlying t = some (.slice e)) (hi : P.info? e = some i) (hz : i.zero = some z)
    (hsize : i.size = size) (hby : i.bytes = bytes) (hzs : z.cells.size = size) (hsz : 0 < size)
    (v : Value) (n : Nat) (xs : List Value) (hs : a.eval s = v) (hown : Own w base e size v n xs)
    (B : Nat) (A : Option Addr) (m c : Nat) (news : List Value) (hx : a.eval x = .slice A m c) (hm : news.length = m * size) (hr : At w B A news) (h1 : ∀ u ∈ news, u.oneCell' = true)
    (h63 : n + m ≤ maxLen) (hbytes : (n + m) * bytes ≤ 140737488355328) (hbase : base ≤ w.heap.size)
    (hK : ∀ v' w', Own w' base e size v' (n + m) (xs ++ news) → w.grownBy w' v.ownBlock → (v'.ownBlock = v.ownBlock ∨ v'.ownBlock = some w.heap.size) → K (a.put o.dst v') w') :
    if Region.wanted o (yielded ops a.tmps) = true then Oper.wp P o a w K Q else E := by
  have hw : Region.wanted o (yielded ops a.tmps) = true := by simp [Region.wanted, hg]
  rw [if_pos hw]
  exact wp_app w s x t ho base e i z size bytes ht hi hz hsize hby hzs hsz v n xs hs hown B A m c news hx hm hr h1 h63 hbytes hbase hK

/-- a heap of the reference: its block, and the row of its items -/
structure RefAt (B : Nat) (w : World) (rb : Nat) (v : Value) (l : List It) : Prop where
  box : Box w rb 28 #[v]
  own : Own w B 32 2 v l.length (l.flatMap itC)
  ne : v.ownBlock ≠ some rb
  b : B ≤ rb
/-- the blocks of a heap of the reference -/
def RS (rb : Nat) (v : Value) (b : Nat) : Prop := b = rb ∨ v.ownBlock = some b
theorem RefAt.lt {B : Nat} {w : World} {rb : Nat} {v : Value} {l : List It} (h : RefAt B w rb v l) : ∀ b, RS rb v b → B ≤ b ∧ b < w.heap.size := fun b hb => by
  rcases hb with rfl | hb
  · exact ⟨h.b, h.box.lt⟩
  · exact h.own.lt b hb
theorem RefAt.same {B : Nat} {w w' : World} {rb : Nat} {v : Value} {l : List It} (h : RefAt B w rb v l) (k : ∀ b, RS rb v b → w'.heap[b]? = w.heap[b]?) : RefAt B w' rb v l :=
  ⟨(k rb (.inl rfl)).trans h.box, h.own.same fun b hb => k b (.inr hb), h.ne, h.b⟩
theorem RefAt.keep {B : Nat} {w w' : World} {rb : Nat} {v : Value} {l : List It} (h : RefAt B w rb v l) (k : Keeps w w') : RefAt B w' rb v l := h.same fun b hb => k.block b (h.lt b hb).2
theorem info_item : (Try.prog.info? 32).map (fun i => (i.zero, i.size, i.bytes)) = some (some (.agg #[.int .u64 0, .int .u32 0]), 2, 16) := by kernel_rfl
theorem itC_one (x : It) : ∀ u ∈ itC x, u.oneCell' = true := by
  intro u hu
  simp only [itC, List.mem_cons, List.not_mem_nil, or_false] at hu
  rcases hu with rfl | rfl <;> rfl

theorem RefAt.pushed {B : Nat} {w : World} {rb : Nat} {v : Value} {l : List It} {x : It} (h : RefAt B w rb v l) {W w3 : World} (k : Keeps w W) {v' : Value} (hown : Own w3 B 32 2 v' (l.length + 1) (l.flatMap itC ++ itC x)) (hg : W.grownBy w3 v.ownBlock)
    (hblk : v'.ownBlock = v.ownBlock ∨ v'.ownBlock = some W.heap.size) : RefAt B (w3.setCell ⟨rb, 0, none⟩ v') rb v' (l ++ [x]) ∧ Turns w (w3.setCell ⟨rb, 0, none⟩ v') (RS rb v) (RS rb v') := by
  have hne : v'.ownBlock ≠ some rb := by
    rcases hblk with e | e
    · rw [e]; exact h.ne
    · rw [e]
      intro e
      have := h.box.lt
      have := k.size
      injection e with e
      omega
  have hrb : W.heap.size ≤ w3.heap.size := hg.size
  have hb : Box w3 rb 28 #[v] := (hg.block rb (by have := h.box.lt; have := k.size; omega) (fun e => h.ne e.symm)).trans (h.box.keep k)
  refine ⟨⟨by simpa using hb.set 0 v', ?_, hne, h.b⟩, ⟨⟨hg.os.trans k.os, hg.tape.trans k.tape, hg.output.trans k.output, ?_, fun i hi hn => ?_⟩, fun i hi => ?_⟩⟩
  · have e : (l ++ [x]).flatMap itC = l.flatMap itC ++ itC x := by simp
    rw [e, List.length_append]
    exact hown.same fun g hgg => Below.heap_setCell _ ⟨rb, 0, none⟩ _ g (fun e => hne (by rw [hgg, e]))
  · simp only [World.size_setCell]
    have := k.size
    omega
  · have h1 : i ≠ rb := fun e => hn (.inl e)
    have h2 : ¬ some i = v.ownBlock := fun e => hn (.inr e.symm)
    rw [Below.heap_setCell _ ⟨rb, 0, none⟩ _ i h1, hg.block i (by have := k.size; omega) h2]
    exact k.block i hi
  · rcases hi with rfl | hi
    · exact .inl (.inl rfl)
    · rcases hblk with e | e
      · exact .inl (.inr (by rw [← e]; exact hi))
      · rw [e] at hi
        injection hi with hi
        right
        have := k.size
        omega
theorem refLen_any {B : Nat} {w : World} {rb : Nat} {v : Value} {l : List It} (h : RefAt B w rb v l) (hl : l.length ≤ 100000) :
    Calls Try.prog 16 #[.pointer (some ⟨rb, 0, none⟩)] w fun e w' => e = .returned (.int .i64 (l.length : Int)) ∧ w = w' := by
  obtain ⟨A, cap, rfl, _⟩ := h.own.form
  have c0 := h.box.cell 0 rfl
  clear h
  go_enter Try.func16, Try.ntmps16
  go_wp2
  go_ret
  exact ⟨rfl, rfl⟩

set_option maxHeartbeats 1000000 in
theorem refPush_any {B : Nat} {w : World} {rb : Nat} {v : Value} {l : List It} (x : It) (h : RefAt B w rb v l) (hl : l.length ≤ 60000) (hB : B ≤ w.heap.size) :
    Calls Try.prog 14 #[.pointer (some ⟨rb, 0, none⟩), .agg #[.int .u64 (x.k : Int), .int .u32 (x.i : Int)]] w fun e w' => ∃ v', e = .returned (.int .i64 0) ∧ RefAt B w' rb v' (l ++ [x]) ∧ Turns w w' (RS rb v) (RS rb v') := by
  obtain ⟨i0, hi, hz0, hz1, hz2⟩ := info_parts info_item
  obtain ⟨A, cap, rfl, _⟩ := h.own.form
  have k1 := keeps_alloc w (.cells #[.int .u64 (x.k : Int), .int .u32 (x.i : Int)] 32)
  have h1 := h.keep k1
  have BX := Box.new w 32 #[.int .u64 (x.k : Int), .int .u32 (x.i : Int)]
  have c0 := h.box.cell 0 rfl
  have hrb := h.box.lt
  have hbig : decide ((65536 : Int) ≤ (l.length : Int)) = false := decide_eq_false (by omega)
  have HL := Lib.hid hl
  have HH := Lib.hid h1
  have HHB := Lib.hid hB
  have H0 := Lib.hid h
  have K1 := Lib.hid k1
  clear hl h h1 k1 hB
  go_enter Try.func14, Try.ntmps14
  go_wp2_with fail
  have c1 := HH.out.box.cell 0 rfl
  have f1 := HH.out.box.frozen 0
  have l1 := HH.out.box.lt
  have x0 := BX.cell 0 rfl
  have x1 := BX.cell 1 rfl
  have xl := BX.lt
  clear c0
  generalize w.alloc (.cells #[.int .u64 (x.k : Int), .int .u32 (x.i : Int)] 32) = W0 at *
  go_region_law ((refine step_app rfl (.tmp 17) (.tmp 19) 26 rfl B 32 i0 (.agg #[.int .u64 0, .int .u32 0]) 2 16 Try.underlying26 hi hz0 hz1 hz2 rfl (by decide) (.slice A l.length cap) l.length (l.flatMap itC) (by simp [Act.eval, Act.put]) (HH.out.own.keep (keeps_trans (keeps_drew _) (keeps_alloc _ _))) _ _ 1 1 (itC x) (by simp [Act.eval, Act.put]) rfl (At.new _ _ _ _ (Nat.lt_succ_self _)) (itC_one x) (by have := HL.out; unfold maxLen; omega) (by have := HL.out; omega) (by have := HHB.out; simp; omega) ?_); intro v' w3 hown' hgrow hblk; obtain ⟨A', cap', rfl, -⟩ := hown'.form; have hb3 : Box w3 rb 28 #[.slice A l.length cap] := (hgrow.block rb (by simp; omega) (fun e => HH.out.ne e.symm)).trans (HH.out.box.keep (keeps_trans (keeps_drew _) (keeps_alloc _ _))); have z0 := hb3.cell 0 rfl; have z1 := hb3.frozen 0)
  all_goals
    have FIN := Lib.hid (RefAt.pushed (x := x) H0.out (keeps_trans K1.out (keeps_trans (keeps_drew _) (keeps_alloc _ _))) hown' hgrow hblk)
    clear hown' hgrow hblk hb3 z0 z1 c1 f1 x0 x1
    go_wp2_with fail
    go_ret
    exact ⟨_, rfl, FIN.out⟩
end Go.Proofs.Ytldmecannmifiaa
