/- DiskCuts. -/
import Derived.Test.YtmholhjdpkfleaaDoorQLawDisk
import Derived.Test.YtmholhjdpkfleaaDoorQDiskTorn
namespace Go.Proofs.YtmholhjdpkfleaaDoor
open Go.RowKit
set_option linter.unusedSimpArgs false
set_option linter.unusedVariables false
set_option maxRecDepth 100000

theorem sizeU8d : (Tryd.prog.info? 5).map (·.size) = some 1 := by kernel_rfl
/-- a file a that holds and keeps these bytes -/
def fA (l : List UInt8) : Fl := ⟨[97], l, l, fun _ => false⟩
theorem start_a (l : List UInt8) (h : l.length ≤ 262144) : writeS (D1 ⟨[97], [], [], fun _ => false⟩) [97] 0 l = (D1 (writeF ⟨[97], [], [], fun _ => false⟩ 0 l), 0) := by
  have := write1 (f := ⟨[97], [], [], fun _ => false⟩) rfl (off := 0) (b := l) (Nat.zero_le _) (by simp; omega)
  simpa using this
theorem start_b (l : List UInt8) : syncS (D1 (writeF ⟨[97], [], [], fun _ => false⟩ 0 l)) [97] = (D1 (fA l), 0) := by
  rw [sync1 (by rfl)]
  have : syncF (writeF ⟨[97], [], [], fun _ => false⟩ 0 l) = fA l := by simp [syncF, writeF, layB_nil, fA]
  rw [this]
def fC (l : List UInt8) (k : Nat) : Fl := cutF (fA l) k
theorem fC_now (l : List UInt8) (k : Nat) : (fC l k).now = l.take k := rfl
theorem fC_lasts (l : List UInt8) (k : Nat) : (fC l k).lasts = l.take k := rfl
theorem cuts_w (l more : List UInt8) (k : Nat) (hk : k ≤ l.length) (h : l.length + more.length ≤ 262144) : writeS (D1 (fC l k)) [97] (k : Int) more = (D1 (writeF (fC l k) k more), 0) :=
  write1 (f := fC l k) rfl (by rw [fC_now, List.length_take]; omega) (by rw [fC_now, List.length_take]; omega)
theorem cuts_now (l more : List UInt8) (k : Nat) (hk : k ≤ l.length) : (writeF (fC l k) k more).now = l.take k ++ more := by
  show layB (l.take k) k more = _
  have e : k = (l.take k).length := by rw [List.length_take]; omega
  have := layB_end (l.take k) more
  rw [← e] at this
  exact this
theorem cuts_on (l more : List UInt8) (k : Nat) : onS ⟨[writeF (fC l k) k more], 4096, 0, true⟩ [] = (D1 (fA (l.take k)), 0) := by
  rw [on1, backF_nil]
  rfl
theorem i0_ok : IsI 0 := ⟨by decide, by decide⟩
theorem i1_ok : IsI 1 := ⟨by decide, by decide⟩
theorem iM_ok : IsI 16777216 := ⟨by decide, by decide⟩

end Go.Proofs.YtmholhjdpkfleaaDoor
/- DiskTorn: the parts of it. -/
namespace Go.Proofs.YtmholhjdpkfleaaDoor
open Go.RowKit
set_option linter.unusedSimpArgs false
set_option linter.unusedVariables false
set_option maxRecDepth 100000

theorem contains_take (l : List Int) (x : Int) (j : Nat) (h : (l.take j).contains x = false) (y : Int) (hy : l[j]? = some y) : (l.take (j + 1)).contains x = decide (y = x) := by
  rw [List.take_add_one, hy]
  simp only [Option.toList_some]
  rw [List.contains_append, h]
  simp
  constructor
  · intro e; exact e.symm
  · intro e; exact e.symm
/-- a file a that lasts as it was first, and was written to so often -/
structure Tn (first : List UInt8) (i : Nat) (f : Fl) : Prop where
  name : f.name = [97]
  lasts : f.lasts = first
  ge : first.length ≤ f.now.length
  le : f.now.length ≤ 4096 + 1024 * i
theorem Tn.start (l : List UInt8) (h : l.length ≤ 4096) : Tn l 0 (fA l) := ⟨rfl, rfl, Nat.le_refl _, by show l.length ≤ _; omega⟩
theorem Tn.step {l : List UInt8} {i : Nat} {f : Fl} (h : Tn l i f) (x : Nat) (b : List UInt8) (hb : b.length ≤ 1024) : Tn l (i + 1) (writeF f (x % (f.now.length + 1)) b) := by
  have hx : x % (f.now.length + 1) ≤ f.now.length := by have := Nat.mod_lt x (show 0 < f.now.length + 1 by omega); omega
  have hl : (writeF f (x % (f.now.length + 1)) b).now.length = max f.now.length (x % (f.now.length + 1) + b.length) := layB_length _ _ _ hx
  refine ⟨h.name, h.lasts, ?_, ?_⟩
  · rw [hl]; have := h.ge; omega
  · rw [hl]; have := h.le; omega
theorem Tn.write {l : List UInt8} {i : Nat} {f : Fl} (h : Tn l i f) (hi : i < 40) (x : Nat) (b : List UInt8) (hb : b.length ≤ 1024) : writeS (D1 f) [97] ((x % (f.now.length + 1) : Nat) : Int) b = (D1 (writeF f (x % (f.now.length + 1)) b), 0) := by
  have hx : x % (f.now.length + 1) ≤ f.now.length := by have := Nat.mod_lt x (show 0 < f.now.length + 1 by omega); omega
  exact write1 h.name hx (by have := h.le; omega)
/-- append onto a row of one's own, behind a guard that lets it through -/
theorem wpList_app_g {P : Program} {w : World} {ops : Array Oper} {rest : List Oper} {o : Oper} {a : Act} {Q : Exit → Act → World → Prop} (hgd : Region.wanted o (yielded ops a.tmps) = true) (s x : Operand) (t : TypeId)
    (ho : o.op = .call { callee := .builtin .append, args := #[s, x], argTypes := #[t, t] })
    (base : Nat) (e : TypeId) (i : TypeInfo) (z : Value) (size bytes : Nat) (ht : P.underlying t = some (.slice e)) (hi : P.info? e = some i) (hz : i.zero = some z)
    (hsize : i.size = size) (hby : i.bytes = bytes) (hzs : z.cells.size = size) (hsz : 0 < size)
    (v : Value) (n : Nat) (xs : List Value) (hs : a.eval s = v) (hown : Own w base e size v n xs)
    (B : Nat) (A : Option Addr) (m c : Nat) (news : List Value) (hx : a.eval x = .slice A m c) (hm : news.length = m * size) (hr : At w B A news) (h1 : ∀ u ∈ news, u.oneCell' = true)
    (h63 : n + m ≤ maxLen) (hbytes : (n + m) * bytes ≤ 140737488355328) (hbase : base ≤ w.heap.size)
    (h : ∀ v' w', Own w' base e size v' (n + m) (xs ++ news) → w.grownBy w' v.ownBlock → (v'.ownBlock = v.ownBlock ∨ v'.ownBlock = some w.heap.size) → wpList P ops Q rest (a.put o.dst v') w') : wpList P ops Q (o :: rest) a w :=
  wpList_step fun _ hK => by
    rw [if_pos hgd]
    exact wp_app w s x t ho base e i z size bytes ht hi hz hsize hby hzs hsz v n xs hs hown B A m c news hx hm hr h1 h63 hbytes hbase fun v' w' h2 h3 h4 => hK _ _ (h v' w' h2 h3 h4)
/-- what the call itself has laid stays behind what is done with the disk -/
theorem Own.turn2 {w w' : World} {F F' : Nat → Prop} {base : Nat} {e : TypeId} {size : Nat} {v : Value} {n : Nat} {xs : List Value} (h : Own w base e size v n xs) (hA : ∀ k, v.ownBlock = some k → ¬ F k) (ht : Turns w w' F F') :
    Own w' base e size v n xs ∧ ∀ k, v.ownBlock = some k → ¬ F' k :=
  ⟨h.turns ht hA, fun k hk hf => by
    rcases ht.next k hf with h1 | h1
    · exact hA k hk h1
    · have := (h.lt k hk).2; omega⟩
section
variable {K : DiskOk} {w0 w : World} {b : Nat} {F : Nat → Prop} {s : Ds}
def WentT (K : DiskOk) (w0 w : World) (b : Nat) (F : Nat → Prop) (s' : Ds) (E : Nat) (e : Ending) (w' : World) : Prop := e = .returned (.int .i64 (E : Int)) ∧ ∃ F', Have K w0 w' b F' s' ∧ Turns w w' F F'
theorem Have.createT_ (h : Have K w0 w b F s) (hZ : K.Z w0) (nm : List UInt8) (sv : ByteArray) (hv : sv = str nm) {s' : Ds} {E : Nat} (hs : createS s nm = (s', E)) (hnm : nm.length ≤ maxLen := by decide) :
    Calls Tryd.prog 49 #[.pointer (some ⟨b, 0, none⟩), .string sv] w (WentT K w0 w b F s' E) := by
  subst hv
  have := K.create nm (h.z hZ) h.D hnm
  rw [hs] at this
  exact this.mono fun e w' q => by obtain ⟨he, F', hD, ht⟩ := q; exact ⟨he, F', h.step hD ht, ht⟩
end
/-- does one of the first loose sectors, one that is kept, have this number? -/
def anyK (lf : List Nat) (keep : List Int) (s : Nat) : Nat → Bool
  | 0 => false
  | k + 1 => anyK lf keep s k || (decide (lf[k]? = some s) && keep.contains (k : Int))
theorem anyK_iff (lf : List Nat) (keep : List Int) (s m : Nat) : anyK lf keep s m = true ↔ ∃ k, k < m ∧ lf[k]? = some s ∧ keep.contains (k : Int) = true := by
  induction m with
  | zero => simp [anyK]
  | succ m ih =>
    unfold anyK
    rw [Bool.or_eq_true, ih, Bool.and_eq_true, decide_eq_true_iff]
    constructor
    · rintro (⟨k, h1, h2, h3⟩ | ⟨h2, h3⟩)
      · exact ⟨k, by omega, h2, h3⟩
      · exact ⟨m, by omega, h2, h3⟩
    · rintro ⟨k, h1, h2, h3⟩
      by_cases e : k = m
      · subst e; exact .inr ⟨h2, h3⟩
      · exact .inl ⟨k, by omega, h2, h3⟩
theorem anyK_kept (f : Fl) (h : ∀ k, f.loose k = true → k < sect f.now.length) (keep : List Int) (s : Nat) : anyK (looseF f) keep s (looseF f).length = keptF f 0 keep s := by
  rw [Bool.eq_iff_iff, anyK_iff, kept_iff f h keep s]
  constructor
  · rintro ⟨k, _, h2, h3⟩; exact ⟨k, h2, h3⟩
  · rintro ⟨k, h2, h3⟩; exact ⟨k, (List.getElem?_eq_some_iff.1 h2).1, h2, h3⟩
theorem place_cell (nm : List UInt8) (lf : List Nat) (i p : Nat) (hp : lf[i]? = some p) : ((lf.map fun k => (nm, k)).flatMap placeC)[i * 2 + 1]? = some (.int .i64 (p : Int)) := by
  have := flatMap_get placeC 2 (fun _ => rfl) (lf.map fun k => (nm, k)) (i := i) (j := 1) (by decide)
  rw [this, List.getElem?_map, hp]
  rfl
def u16C (l : List Nat) : List Value := l.map fun (x : Nat) => .int .u16 (x : Int)
theorem u16C_length (l : List Nat) : (u16C l).length = l.length := by simp [u16C]
end Go.Proofs.YtmholhjdpkfleaaDoor
/- What is to be done, one behind the other: is it much; a disk behind it. -/
namespace Go.Proofs.YtmholhjdpkfleaaDoor
open Go.RowKit
set_option linter.unusedSimpArgs false
set_option linter.unusedVariables false
set_option maxRecDepth 100000

def opC (o : OpS) : List Value := [.int .i64 o.x.kind, strV o.x.name, strV o.x.to, .int .i64 o.x.off, .int .i64 o.x.n, .slice o.A o.len o.c, .int .u8 (o.x.mask.toNat : Int), .slice o.A2 o.len2 o.c2]
theorem opC_length (o : OpS) : (opC o).length = 8 := rfl
theorem OpOk.keep_ {W W' : World} {o : OpS} (h : OpOk W o) (k : Keeps W W') : OpOk W' o :=
  ⟨h.kind, h.nm, h.to, h.off, h.n, h.len, h.c, h.m, h.b.low k, h.len2, h.c2, h.m2, h.keep.low k⟩
/-- what is to be done lies there -/
structure OpsAt (W : World) (A : Option Addr) (l : List OpS) : Prop where
  cells : At W W.heap.size A (l.flatMap opC)
  ok : ∀ o ∈ l, OpOk W o
theorem OpsAt.keep {W W' : World} {A : Option Addr} {l : List OpS} (h : OpsAt W A l) (k : Keeps W W') : OpsAt W' A l :=
  ⟨h.cells.low k, fun o ho => (h.ok o ho).keep_ k⟩
theorem flatMap_len8 (l : List OpS) : (l.flatMap opC).length = l.length * 8 := by
  induction l with
  | nil => rfl
  | cons a l ih => rw [List.flatMap_cons, List.length_append, ih, opC_length, List.length_cons]; omega
theorem add_pos6 (p : Addr) (k : Nat) (hk : 0 < k) : p.add k = ⟨p.block, p.off + k, none⟩ := by unfold Addr.add; rw [if_neg (by omega)]
theorem OpsAt.cell0 {W : World} {A : Option Addr} {l : List OpS} (h : OpsAt W A l) {i : Nat} {o : OpS} (ho : l[i]? = some o) :
    ∃ ad, A = some ad ∧ ∀ j, j < 8 → W.cell? ((ad.add (i * 8)).add j) = (opC o)[j]? := by
  have hi : i < l.length := (List.getElem?_eq_some_iff.1 ho).1
  obtain ⟨ad, e, -, hc⟩ := At.get h.cells (k := i * 8) (by rw [flatMap_len8]; omega)
  refine ⟨ad, e, fun j hj => ?_⟩
  obtain ⟨ad', e', -, hc'⟩ := At.get h.cells (k := i * 8 + j) (by rw [flatMap_len8]; omega)
  obtain rfl := Option.some.inj (e.symm.trans e')
  rw [addr_add, hc', flatMap_get opC 8 opC_length l hj, ho]
  rfl
/-- a field of one of them -/
theorem OpsAt.cell {W : World} {A : Option Addr} {l : List OpS} (h : OpsAt W A l) {i j : Nat} {o : OpS} (ho : l[i]? = some o) (hj : j < 8) (h0 : 0 < j) :
    ∃ ad, A = some ad ∧ W.cell? ⟨(ad.add (i * 8)).block, (ad.add (i * 8)).off + j, none⟩ = (opC o)[j]? := by
  obtain ⟨ad, e, hc⟩ := h.cell0 ho
  exact ⟨ad, e, by rw [← hc j hj, add_pos6 _ _ h0]⟩
/-- not much -/
structure Few (l : List OpS) : Prop where
  most : l.length ≤ 150
  each : ∀ o ∈ l, o.len ≤ 65536 ∧ o.len2 ≤ 65536 ∧ o.x.name.length ≤ 65536 ∧ o.x.to.length ≤ 65536
def VastV (w : World) (l : List OpS) (e : Ending) (w' : World) : Prop := ∃ v : Bool, e = .returned (.bool v) ∧ Keeps w w' ∧ (v = false → Few l)
theorem min_nat (a : Nat) : (if (131072 : Int) < (a : Int) then (131072 : Int) else (a : Int)) = ((min a 131072 : Nat) : Int) := by split <;> omega
/-- a disk behind what is done -/
def runS (s : Ds) (l : List OpS) : Ds := l.foldl (fun s o => (doS s o.x).1) s
theorem runS_take (s : Ds) (l : List OpS) (j : Nat) (o : OpS) (ho : l[j]? = some o) : runS s (l.take (j + 1)) = (doS (runS s (l.take j)) o.x).1 := by
  unfold runS
  rw [List.take_add_one, ho, List.foldl_append]
  rfl
theorem putF_len (l : List Fl) (f : Fl) : (putF l f).length = l.length + 1 := by
  induction l with
  | nil => rfl
  | cons g l ih =>
    unfold putF
    split
    · simp [ih]
    · simp
theorem delF_len (l : List Fl) (nm : List UInt8) : (delF l nm).length ≤ l.length := List.length_filter_le _ _
theorem delF_len2 {l : List Fl} {nm : List UInt8} {f : Fl} (h : getF l nm = some f) : (delF l nm).length < l.length := by
  have h1 := List.mem_of_find?_eq_some h
  have h2 := List.find?_some h
  exact List.length_filter_lt_length_iff_exists.2 ⟨f, h1, by simpa using h2⟩
theorem setF_len (l : List Fl) (f : Fl) : (setF l f).length = l.length := by simp [setF]
theorem backL_len (keep : List Int) : ∀ (l : List Fl) (base : Nat), (backL keep l base).length = l.length
  | [], _ => rfl
  | f :: l, base => by simp [backL, backL_len keep l]
theorem gone_l6 (s : Ds) : (goneS s).l = s.l := by unfold goneS; split <;> rfl
theorem rename_len (s : Ds) (a b : List UInt8) : (renameS s a b).1.l.length ≤ s.l.length + 1 := by
  have g := gone_l6 s
  unfold renameS
  split
  · rw [g]; omega
  · split
    · rw [g]; omega
    · cases h : getF s.l a with
      | none => simp only [g]; omega
      | some f =>
        have h1 := delF_len2 h
        have h2 := delF_len (delF s.l a) b
        simp only [putF_len]
        omega
theorem create_len (s : Ds) (a : List UInt8) : (createS s a).1.l.length ≤ s.l.length + 1 := by
  have g := gone_l6 s
  unfold createS
  (repeat' split) <;> (try rw [g]) <;> (try rw [putF_len]) <;> omega
theorem remove_len (s : Ds) (a : List UInt8) : (removeS s a).1.l.length ≤ s.l.length + 1 := by
  have g := gone_l6 s
  have := delF_len s.l a
  unfold removeS
  (repeat' split) <;> (try rw [g]) <;> (try dsimp only) <;> omega
theorem write_len (s : Ds) (a : List UInt8) (i : Int) (b : List UInt8) : (writeS s a i b).1.l.length ≤ s.l.length + 1 := by
  have g := gone_l6 s
  unfold writeS
  (repeat' split) <;> (try rw [g]) <;> (try rw [setF_len]) <;> omega
theorem cut_len (s : Ds) (a : List UInt8) (i : Int) : (cutS s a i).1.l.length ≤ s.l.length + 1 := by
  have g := gone_l6 s
  unfold cutS
  (repeat' split) <;> (try rw [g]) <;> (try rw [setF_len]) <;> omega
theorem sync_len (s : Ds) (a : List UInt8) : (syncS s a).1.l.length ≤ s.l.length + 1 := by
  have g := gone_l6 s
  unfold syncS
  (repeat' split) <;> (try rw [g]) <;> (try rw [setF_len]) <;> omega
theorem flip_len (s : Ds) (a : List UInt8) (i : Int) (m : UInt8) : (flipS s a i m).1.l.length ≤ s.l.length + 1 := by
  unfold flipS
  (repeat' split) <;> (try dsimp only) <;> (try rw [setF_len]) <;> omega
theorem quota_len (s : Ds) (i : Int) : (quotaS s i).1.l.length ≤ s.l.length + 1 := by
  unfold quotaS
  split <;> (try dsimp only) <;> omega
theorem arm_len (s : Ds) (i : Int) : (armS s i).1.l.length ≤ s.l.length + 1 := by
  unfold armS
  (repeat' split) <;> (try dsimp only) <;> omega
theorem on_len (s : Ds) (k : List Int) : (onS s k).1.l.length ≤ s.l.length + 1 := by
  unfold onS
  split
  · dsimp only; omega
  · dsimp only; rw [backL_len]; omega
/-- there is at most one file more -/
theorem doS_len (s : Ds) (o : Opx) : (doS s o).1.l.length ≤ s.l.length + 1 := by
  unfold doS
  by_cases h0 : o.kind = 0
  · rw [if_pos h0]; exact create_len _ _
  rw [if_neg h0]
  by_cases h1 : o.kind = 1
  · rw [if_pos h1]; exact remove_len _ _
  rw [if_neg h1]
  by_cases h2 : o.kind = 2
  · rw [if_pos h2]; exact rename_len _ _ _
  rw [if_neg h2]
  by_cases h3 : o.kind = 3
  · rw [if_pos h3]; exact write_len _ _ _ _
  rw [if_neg h3]
  by_cases h4 : o.kind = 4
  · rw [if_pos h4]; exact cut_len _ _ _
  rw [if_neg h4]
  by_cases h5 : o.kind = 5
  · rw [if_pos h5]; exact sync_len _ _
  rw [if_neg h5]
  by_cases h6 : o.kind = 6
  · rw [if_pos h6]; exact Nat.le_succ _
  rw [if_neg h6]
  by_cases h7 : o.kind = 7
  · rw [if_pos h7]; exact Nat.le_succ _
  rw [if_neg h7]
  by_cases h8 : o.kind = 8
  · rw [if_pos h8]; exact quota_len _ _
  rw [if_neg h8]
  by_cases h9 : o.kind = 9
  · rw [if_pos h9]; exact arm_len _ _
  rw [if_neg h9]
  by_cases h10 : o.kind = 10
  · rw [if_pos h10]; exact on_len _ _
  rw [if_neg h10]
  by_cases h11 : o.kind = 11
  · rw [if_pos h11]; exact flip_len _ _ _ _
  rw [if_neg h11]
  exact Nat.le_succ _
theorem runS_len (s : Ds) (l : List OpS) : (runS s l).l.length ≤ s.l.length + l.length := by
  induction l generalizing s with
  | nil => simp [runS]
  | cons o l ih =>
    have h1 := ih (doS s o.x).1
    have h2 := doS_len s o.x
    have h3 : runS s (o :: l) = runS (doS s o.x).1 l := rfl
    rw [h3, List.length_cons]
    omega
def BehindV (K : DiskOk) (w : World) (q : Int) (l : List OpS) (e : Ending) (w' : World) : Prop :=
  (∃ b F, 0 ≤ q ∧ q ≤ 1048576 ∧ e = .returned (.pointer (some ⟨b, 0, none⟩)) ∧ Have K w w' b F (runS ⟨[], q.toNat, 0, false⟩ l)) ∨ ((q < 0 ∨ 1048576 < q) ∧ e = .returned (.pointer none) ∧ Keeps w w')
end Go.Proofs.YtmholhjdpkfleaaDoor
