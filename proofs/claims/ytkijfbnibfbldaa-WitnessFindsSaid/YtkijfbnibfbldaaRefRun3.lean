/- The reference of layer 14: Run. -/
import Derived.Test.YtkijfbnibfbldaaRefRun2
import Derived.Test.YtkijfbnibfbldaaLawWit2
import Derived.Test.YtkijfbnibfbldaaNums
namespace Go.Proofs.Ytkijfbnibfbldaa
open Go.RowKit
set_option linter.unusedSimpArgs false
set_option linter.unusedVariables false
set_option maxRecDepth 100000

/-- both rows, while it runs -/
structure RunS (w wr : World) (S : List Nat) (l : List Rc) (ask : Value) (g n c : Nat) : Prop where
  oS : Own wr w.heap.size 26 1 ask S.length (celU S)
  oL : Own wr w.heap.size 83 3 (.slice (some ⟨g, 0, none⟩) n c) n (rcC l)
  ap : ∀ k, ask.ownBlock = some k → k ≠ g
  rk : Rk l S
  ks : Keeps w wr
  len : n = l.length
theorem RunS.keep {w wr w' : World} {S : List Nat} {l : List Rc} {ask : Value} {g n c : Nat} (h : RunS w wr S l ask g n c) (k : Keeps wr w') : RunS w w' S l ask g n c :=
  ⟨h.oS.keep k, h.oL.keep k, h.ap, h.rk, keeps_trans h.ks k, h.len⟩
theorem RunS.low {w wr : World} {S : List Nat} {l : List Rc} {ask : Value} {g n c : Nat} (h : RunS w wr S l ask g n c) : w.heap.size ≤ g ∧ g < wr.heap.size := h.oL.lt g rfl
theorem comeR_lenW (l : List Rc) (v d : Nat) : (comeR l v d).length ≤ l.length + 1 := by
  have := congrArg List.length (comeR_keys l v d)
  rw [List.length_map] at this
  rw [this]
  split <;> simp
theorem RunS.come {w wr w' : World} {S : List Nat} {l : List Rc} {ask sv : Value} {g n c v d : Nat} (h : RunS w wr S l ask g n c) (hc : ComR wr w.heap.size g l v d sv w') (hv : v < 4294967296) (hd : d < 9223372036854775808) :
    ∃ g' n' c', sv = .slice (some ⟨g', 0, none⟩) n' c' ∧ n' ≤ n + 1 ∧ RunS w w' S (comeR l v d) ask g' n' c' ∧ Turns wr w' (fun i => i = g) (fun i => i = g') := by
  obtain ⟨g', n', c', rfl, hn, ho, t⟩ := hc
  refine ⟨g', n', c', rfl, by have := comeR_lenW l v d; rw [hn, h.len]; exact this, ⟨h.oS.same (fun k hk => t.only.block k (h.oS.lt k hk).2 (h.ap k hk)), ho, fun k hk => ?_, h.rk.come hv hd, t.keeps h.ks (fun b hb => by rw [hb]; exact h.low.1), hn⟩, t⟩
  rcases t.next g' rfl with e | e
  · rw [e]; exact h.ap k hk
  · have := (h.oS.lt k hk).2; omega
/-- one of them is settled -/
theorem RunS.settle {w wr : World} {S : List Nat} {l : List Rc} {ask : Value} {g n c p v d : Nat} (h : RunS w wr S l ask g n c) (hp : l[p]? = some ⟨v, d, false⟩) :
    Own (wr.setCell ⟨g, p * 3 + 2, none⟩ (.bool true)) w.heap.size 83 3 (.slice (some ⟨g, 0, none⟩) n c) n (rcC (l.set p ⟨v, d, true⟩)) ∧
    Own (wr.setCell ⟨g, p * 3 + 2, none⟩ (.bool true)) w.heap.size 26 1 ask S.length (celU S) ∧ Keeps w (wr.setCell ⟨g, p * 3 + 2, none⟩ (.bool true)) ∧ g < (wr.setCell ⟨g, p * 3 + 2, none⟩ (.bool true)).heap.size := by
  have hl := (List.getElem?_eq_some_iff.1 hp).1
  refine ⟨?_, h.oS.same (fun k hk => (Only.cellW wr ⟨g, p * 3 + 2, none⟩ (.bool true)).block k (h.oS.lt k hk).2 (h.ap k hk)), h.ks.setCell (p := ⟨g, p * 3 + 2, none⟩) h.low.1 _, by have := h.low.2; simpa using this⟩
  rw [← rcC_setZ true hp]
  exact h.oL.store (by rw [rcC_len]; omega) _
theorem set_getW {l : List Rc} {p : Nat} {r s : Rc} (h : l[p]? = some r) : (l.set p s)[p]? = some s := by
  rw [List.getElem?_set_self (List.getElem?_eq_some_iff.1 h).1]
theorem folR_next {av : Nat → Bool} {d j : Nat} {es : List Ed} {e : Ed} (h : es[j]? = some e) (l : List Rc) : folR av d (es.take (j + 1)) l = if addB d e.x && !av e.h then comeR (folR av d (es.take j) l) e.h (d + e.x) else folR av d (es.take j) l := by
  rw [List.take_add_one, h, Option.toList_some, folR_append]
  rfl
theorem run_next {o : Outs} {av : Nat → Bool} {to most p v d : Nat} {S : List Nat} {l : List Rc} {q : Answ} (hr : Rk l S) (hp : l[p]? = some ⟨v, d, false⟩) (hl : LeastW v d (waitR l)) (h1 : d ≤ most) (h2 : S.length ≠ 16) (h3 : v ≠ to) (h4 : (o v).1 = 0) (hok : ∀ e ∈ (o v).2, EdOk e)
    (h : Ans o av to most (S ++ [v]) (waitR (folR av d (o v).2 (l.set p ⟨v, d, true⟩))) q) : Ans o av to most S (waitR l) q := by
  obtain ⟨r1, p1⟩ := hr.settle hp rfl
  have hw := folR_wait (S := S ++ [v]) av d (o v).2 r1 hok
  have hf := folW_perm av (S ++ [v]) d (o v).2 p1 (waitR_onces r1.once)
  exact .go hl h1 h2 h3 h4 (h.congr (hw.trans hf) (waitR_onces (r1.fol av d (o v).2 hok).once))
end Go.Proofs.Ytkijfbnibfbldaa
