/- DiskTorn: the parts of it. -/
import Derived.Test.YtjfnpfojboellaaGreatLawDisk6
import Derived.Test.YtjfnpfojboellaaGreatDiskTorn
namespace Go.Proofs.YtjfnpfojboellaaGreat
open Go.RowKit
set_option linter.unusedSimpArgs false
set_option linter.unusedVariables false
set_option maxRecDepth 100000

theorem contains_take (l : List Int) (x : Int) (j : Nat) (h : (l.take j).contains x = false) (y : Int) (hy : l[j]? = some y) : (l.take (j + 1)).contains x = decide (y = x) := by
  rw [List.take_add_one, hy]
  simp only [Option.toList_some]
  rw [List.contains_append, h]
  simp
  constructor
  · intro e; exact e.symm
  · intro e; exact e.symm
/-- a file a that lasts as it was first, and was written to so often -/
structure Tn (first : List UInt8) (i : Nat) (f : Fl) : Prop where
  name : f.name = [97]
  lasts : f.lasts = first
  ge : first.length ≤ f.now.length
  le : f.now.length ≤ 4096 + 1024 * i
theorem Tn.start (l : List UInt8) (h : l.length ≤ 4096) : Tn l 0 (fA l) := ⟨rfl, rfl, Nat.le_refl _, by show l.length ≤ _; omega⟩
theorem Tn.step {l : List UInt8} {i : Nat} {f : Fl} (h : Tn l i f) (x : Nat) (b : List UInt8) (hb : b.length ≤ 1024) : Tn l (i + 1) (writeF f (x % (f.now.length + 1)) b) := by
  have hx : x % (f.now.length + 1) ≤ f.now.length := by have := Nat.mod_lt x (show 0 < f.now.length + 1 by omega); omega
  have hl : (writeF f (x % (f.now.length + 1)) b).now.length = max f.now.length (x % (f.now.length + 1) + b.length) := layB_length _ _ _ hx
  refine ⟨h.name, h.lasts, ?_, ?_⟩
  · rw [hl]; have := h.ge; omega
  · rw [hl]; have := h.le; omega
theorem Tn.write {l : List UInt8} {i : Nat} {f : Fl} (h : Tn l i f) (hi : i < 40) (x : Nat) (b : List UInt8) (hb : b.length ≤ 1024) : writeS (D1 f) [97] ((x % (f.now.length + 1) : Nat) : Int) b = (D1 (writeF f (x % (f.now.length + 1)) b), 0) := by
  have hx : x % (f.now.length + 1) ≤ f.now.length := by have := Nat.mod_lt x (show 0 < f.now.length + 1 by omega); omega
  exact write1 h.name hx (by have := h.le; omega)
/-- append onto a row of one's own, behind a guard that lets it through -/
theorem wpList_app_g {P : Program} {w : World} {ops : Array Oper} {rest : List Oper} {o : Oper} {a : Act} {Q : Exit → Act → World → Prop} (hgd : Region.wanted o (yielded ops a.tmps) = true) (s x : Operand) (t : TypeId)
    (ho : o.op = .call { callee := .builtin .append, args := #[s, x], argTypes := #[t, t] })
    (base : Nat) (e : TypeId) (i : TypeInfo) (z : Value) (size bytes : Nat) (ht : P.underlying t = some (.slice e)) (hi : P.info? e = some i) (hz : i.zero = some z)
    (hsize : i.size = size) (hby : i.bytes = bytes) (hzs : z.cells.size = size) (hsz : 0 < size)
    (v : Value) (n : Nat) (xs : List Value) (hs : a.eval s = v) (hown : Own w base e size v n xs)
    (B : Nat) (A : Option Addr) (m c : Nat) (news : List Value) (hx : a.eval x = .slice A m c) (hm : news.length = m * size) (hr : At w B A news) (h1 : ∀ u ∈ news, u.oneCell' = true)
    (h63 : n + m ≤ maxLen) (hbytes : (n + m) * bytes ≤ 140737488355328) (hbase : base ≤ w.heap.size)
    (h : ∀ v' w', Own w' base e size v' (n + m) (xs ++ news) → w.grownBy w' v.ownBlock → (v'.ownBlock = v.ownBlock ∨ v'.ownBlock = some w.heap.size) → wpList P ops Q rest (a.put o.dst v') w') : wpList P ops Q (o :: rest) a w :=
  wpList_step fun _ hK => by
    rw [if_pos hgd]
    exact wp_app w s x t ho base e i z size bytes ht hi hz hsize hby hzs hsz v n xs hs hown B A m c news hx hm hr h1 h63 hbytes hbase fun v' w' h2 h3 h4 => hK _ _ (h v' w' h2 h3 h4)
/-- what the call itself has laid stays behind what is done with the disk -/
theorem Own.turn2 {w w' : World} {F F' : Nat → Prop} {base : Nat} {e : TypeId} {size : Nat} {v : Value} {n : Nat} {xs : List Value} (h : Own w base e size v n xs) (hA : ∀ k, v.ownBlock = some k → ¬ F k) (ht : Turns w w' F F') :
    Own w' base e size v n xs ∧ ∀ k, v.ownBlock = some k → ¬ F' k :=
  ⟨h.turns ht hA, fun k hk hf => by
    rcases ht.next k hf with h1 | h1
    · exact hA k hk h1
    · have := (h.lt k hk).2; omega⟩
section
variable {K : DiskOk} {w0 w : World} {b : Nat} {F : Nat → Prop} {s : Ds}
def WentT (K : DiskOk) (w0 w : World) (b : Nat) (F : Nat → Prop) (s' : Ds) (E : Nat) (e : Ending) (w' : World) : Prop := e = .returned (.int .i64 (E : Int)) ∧ ∃ F', Have K w0 w' b F' s' ∧ Turns w w' F F'
theorem Have.armT_ (h : Have K w0 w b F s) (hZ : K.Z w0) (n : Int) (hn : IsI n) {s' : Ds} {E : Nat} (hs : armS s n = (s', E)) :
    Calls Tryz.prog 27 #[.pointer (some ⟨b, 0, none⟩), .int .i64 n] w (WentT K w0 w b F s' E) := by
  have := K.arm n (h.z hZ) h.D hn.1 hn.2
  rw [hs] at this
  exact this.mono fun e w' q => by obtain ⟨he, F', hD, ht⟩ := q; exact ⟨he, F', h.step hD ht, ht⟩
theorem Have.createT_ (h : Have K w0 w b F s) (hZ : K.Z w0) (nm : List UInt8) (sv : ByteArray) (hv : sv = str nm) {s' : Ds} {E : Nat} (hs : createS s nm = (s', E)) (hnm : nm.length ≤ maxLen := by decide) :
    Calls Tryz.prog 15 #[.pointer (some ⟨b, 0, none⟩), .string sv] w (WentT K w0 w b F s' E) := by
  subst hv
  have := K.create nm (h.z hZ) h.D hnm
  rw [hs] at this
  exact this.mono fun e w' q => by obtain ⟨he, F', hD, ht⟩ := q; exact ⟨he, F', h.step hD ht, ht⟩
theorem Have.onT_ (h : Have K w0 w b F s) (hZ : K.Z w0) (A : Option Addr) (n c : Nat) (l : List Int) (hB : At w w.heap.size A (intC l)) (hF : ∀ ad, A = some ad → ¬ F ad.block) (hn : n = l.length) (hc : n ≤ c) (hm : n ≤ 70000) {s' : Ds} {E : Nat} (hs : onS s l = (s', E)) :
    Calls Tryz.prog 28 #[.pointer (some ⟨b, 0, none⟩), .slice A n c] w (WentT K w0 w b F s' E) := by
  have := K.on A n c l (h.z hZ) h.D hB hF hn hc hm
  rw [hs] at this
  exact this.mono fun e w' q => by obtain ⟨he, F', hD, ht⟩ := q; exact ⟨he, F', h.step hD ht, ht⟩
end
/-- does one of the first loose sectors, one that is kept, have this number? -/
def anyK (lf : List Nat) (keep : List Int) (s : Nat) : Nat → Bool
  | 0 => false
  | k + 1 => anyK lf keep s k || (decide (lf[k]? = some s) && keep.contains (k : Int))
theorem anyK_iff (lf : List Nat) (keep : List Int) (s m : Nat) : anyK lf keep s m = true ↔ ∃ k, k < m ∧ lf[k]? = some s ∧ keep.contains (k : Int) = true := by
  induction m with
  | zero => simp [anyK]
  | succ m ih =>
    unfold anyK
    rw [Bool.or_eq_true, ih, Bool.and_eq_true, decide_eq_true_iff]
    constructor
    · rintro (⟨k, h1, h2, h3⟩ | ⟨h2, h3⟩)
      · exact ⟨k, by omega, h2, h3⟩
      · exact ⟨m, by omega, h2, h3⟩
    · rintro ⟨k, h1, h2, h3⟩
      by_cases e : k = m
      · subst e; exact .inr ⟨h2, h3⟩
      · exact .inl ⟨k, by omega, h2, h3⟩
theorem anyK_kept (f : Fl) (h : ∀ k, f.loose k = true → k < sect f.now.length) (keep : List Int) (s : Nat) : anyK (looseF f) keep s (looseF f).length = keptF f 0 keep s := by
  rw [Bool.eq_iff_iff, anyK_iff, kept_iff f h keep s]
  constructor
  · rintro ⟨k, _, h2, h3⟩; exact ⟨k, h2, h3⟩
  · rintro ⟨k, h2, h3⟩; exact ⟨k, (List.getElem?_eq_some_iff.1 h2).1, h2, h3⟩
theorem place_cell (nm : List UInt8) (lf : List Nat) (i p : Nat) (hp : lf[i]? = some p) : ((lf.map fun k => (nm, k)).flatMap placeC)[i * 2 + 1]? = some (.int .i64 (p : Int)) := by
  have := flatMap_get placeC 2 (fun _ => rfl) (lf.map fun k => (nm, k)) (i := i) (j := 1) (by decide)
  rw [this, List.getElem?_map, hp]
  rfl
def u16C (l : List Nat) : List Value := l.map fun (x : Nat) => .int .u16 (x : Int)
theorem u16C_length (l : List Nat) : (u16C l).length = l.length := by simp [u16C]
end Go.Proofs.YtjfnpfojboellaaGreat
