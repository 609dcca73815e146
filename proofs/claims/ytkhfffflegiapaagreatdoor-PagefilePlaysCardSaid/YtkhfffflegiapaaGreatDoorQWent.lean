/- A call of a disk, and its turn: what is known before and behind. -/
import Derived.Test.YtkhfffflegiapaaGreatDoorQLawDisk
import Derived.Test.YtkhfffflegiapaaGreatDoorQOctet
import Derived.Test.YtkhfffflegiapaaGreatDoorQPageMath
import Derived.Test.YtkhfffflegiapaaGreatDoorQDiskMath
namespace Go.Proofs.YtkhfffflegiapaaGreatDoor
open Go.RowKit
set_option linter.unusedSimpArgs false
set_option linter.unusedVariables false
set_option maxRecDepth 100000

theorem sizes_have {K : DiskOk} {w0 w : World} {b : Nat} {F : Nat → Prop} {s : Ds} (hS : Sizes w0) (h : Have K w0 w b F s) : Sizes w := hS.keep h.kp

section
variable {K : DiskOk} {w0 w : World} {b : Nat} {F : Nat → Prop} {s : Ds}
/-- an error, and the disk's turn -/
def WentU (K : DiskOk) (w0 w : World) (b : Nat) (F : Nat → Prop) (s' : Ds) (E : Nat) (e : Ending) (w' : World) : Prop := e = .returned (.int .i64 (E : Int)) ∧ ∃ F', Have K w0 w' b F' s' ∧ Turns w w' F F'
theorem Have.went (h : Have K w0 w b F s) {fn : FuncId} {args : Array Value} {r : Ds × Nat} {s' : Ds} {E : Nat} (hr : r = (s', E))
    (c : Calls Tryz.prog fn args w fun e w' => e = .returned (.int .i64 (r.2 : Int)) ∧ ∃ F', K.D w' b F' r.1 ∧ Turns w w' F F') : Calls Tryz.prog fn args w (WentU K w0 w b F s' E) := by
  subst hr
  exact c.mono fun e w' q => by obtain ⟨he, F', hD, ht⟩ := q; exact ⟨he, F', h.step hD ht, ht⟩
theorem went_keep {w' : World} {E : Nat} (h : Have K w0 w b F s) (k : Keeps w w') : WentU K w0 w b F s E (.returned (.int .i64 (E : Int))) w' := ⟨rfl, F, h.keep k, Turns.of_keeps k⟩
end
end Go.Proofs.YtkhfffflegiapaaGreatDoor
/- Chapter 9 as functions: a record's sector, the records with which bytes begin, what a journal's calls do with a disk. -/
namespace Go.Proofs.YtkhfffflegiapaaGreatDoor
open Go.RowKit
set_option linter.unusedSimpArgs false
set_option linter.unusedVariables false
set_option maxRecDepth 100000

/-- a record: what was done, and how far -/
structure RecS where
  kind : Nat
  a : Nat
  b : Nat
theorem RecS.ext' {r q : RecS} (h1 : r.kind = q.kind) (h2 : r.a = q.a) (h3 : r.b = q.b) : r = q := by
  cases r; cases q; simp only at h1 h2 h3; subst h1; subst h2; subst h3; rfl
instance recDec : DecidableEq RecS := fun r q =>
  if h : r.kind = q.kind ∧ r.a = q.a ∧ r.b = q.b then isTrue (RecS.ext' h.1 h.2.1 h.2.2) else isFalse (fun e => h (by subst e; exact ⟨rfl, rfl, rfl⟩))
structure RecOk (r : RecS) : Prop where
  kind : r.kind < 4294967296
  a : r.a < 4294967296
  b : r.b < 4294967296
def recC (r : RecS) : List Value := [.int .u32 (r.kind : Int), .int .u32 (r.a : Int), .int .u32 (r.b : Int)]
theorem recC_length (r : RecS) : (recC r).length = 3 := rfl
def headR (n : Nat) (r : RecS) : List UInt8 := nb 4 n ++ nb 4 r.kind ++ nb 4 r.a ++ nb 4 r.b
theorem headR_length (n : Nat) (r : RecS) : (headR n r).length = 16 := by simp [headR, nb_length]
def bodyR (n : Nat) (r : RecS) : List UInt8 := headR n r ++ noughts 44
theorem bodyR_length (n : Nat) (r : RecS) : (bodyR n r).length = 60 := by simp [bodyR, headR_length, noughts_length]
/-- the sector of a record with that number -/
def sectB (n : Nat) (r : RecS) : List UInt8 := bodyR n r ++ nb 4 (extC 0 (bodyR n r))
theorem sectB_length (n : Nat) (r : RecS) : (sectB n r).length = 64 := by rw [sectB, List.length_append, bodyR_length, nb_length]
/-- the record that a sector says -/
def saidR (s : List UInt8) : RecS := ⟨numAt s 4 4, numAt s 8 4, numAt s 12 4⟩
theorem numAt_lt4 (s : List UInt8) (a : Nat) : numAt s a 4 < 4294967296 := by
  unfold numAt
  have h := le_lt ((s.drop a).take 4)
  refine Nat.lt_of_lt_of_le h ?_
  have : ((s.drop a).take 4).length ≤ 4 := by rw [List.length_take]; omega
  exact Nat.pow_le_pow_right (n := 256) (by decide) this
theorem saidR_ok (s : List UInt8) : RecOk (saidR s) := ⟨numAt_lt4 s 4, numAt_lt4 s 8, numAt_lt4 s 12⟩
def IsRec (s : List UInt8) (n : Nat) : Prop := (saidR s).kind ≠ 0 ∧ s = sectB n (saidR s)
instance isRecDec (s : List UInt8) (n : Nat) : Decidable (IsRec s n) := by unfold IsRec; infer_instance
theorem IsRec.length {s : List UInt8} {n : Nat} (h : IsRec s n) : s.length = 64 := by rw [h.2, sectB_length]
theorem numAt_head (n : Nat) (r : RecS) (t : List UInt8) : numAt (headR n r ++ t) 0 4 = n % 4294967296 ∧ numAt (headR n r ++ t) 4 4 = r.kind % 4294967296 ∧ numAt (headR n r ++ t) 8 4 = r.a % 4294967296 ∧ numAt (headR n r ++ t) 12 4 = r.b % 4294967296 := by
  have h := headR_length n r
  have e4 : ∀ x, (nb 4 x).take 4 = nb 4 x := fun x => List.take_of_length_le (by rw [nb_length]; omega)
  refine ⟨?_, ?_, ?_, ?_⟩
  · rw [numAt_append _ _ _ _ (by omega), headR, List.append_assoc, List.append_assoc, numAt_append _ _ _ _ (by rw [nb_length]; omega)]
    unfold numAt
    rw [List.drop_zero, e4, le_nb]
  · rw [numAt_append _ _ _ _ (by omega), headR, numAt_append _ _ _ _ (by simp [nb_length]), numAt_append _ _ _ _ (by simp [nb_length]), numAt_behind _ _ _ _ (by simp [nb_length]), e4, le_nb]
  · rw [numAt_append _ _ _ _ (by omega), headR, numAt_append _ _ _ _ (by simp [nb_length]), numAt_behind _ _ _ _ (by simp [nb_length]), e4, le_nb]
  · rw [numAt_append _ _ _ _ (by omega), headR, numAt_behind _ _ _ _ (by simp [nb_length]), e4, le_nb]
theorem sectB_split (n : Nat) (r : RecS) : sectB n r = headR n r ++ (noughts 44 ++ nb 4 (extC 0 (bodyR n r))) := by rw [sectB, bodyR, List.append_assoc]
theorem saidR_sectB (n : Nat) {r : RecS} (h : RecOk r) : saidR (sectB n r) = r := by
  obtain ⟨-, h1, h2, h3⟩ := numAt_head n r (noughts 44 ++ nb 4 (extC 0 (bodyR n r)))
  rw [← sectB_split] at h1 h2 h3
  refine RecS.ext' ?_ ?_ ?_
  · show numAt _ 4 4 = _
    rw [h1, Nat.mod_eq_of_lt h.kind]
  · show numAt _ 8 4 = _
    rw [h2, Nat.mod_eq_of_lt h.a]
  · show numAt _ 12 4 = _
    rw [h3, Nat.mod_eq_of_lt h.b]
theorem number_sectB (n : Nat) (r : RecS) : numAt (sectB n r) 0 4 = n % 4294967296 := by
  rw [sectB_split]; exact (numAt_head n r _).1
theorem isRec_sectB (n : Nat) {r : RecS} (h : RecOk r) (hk : r.kind ≠ 0) : IsRec (sectB n r) n := by
  unfold IsRec
  rw [saidR_sectB n h]
  exact ⟨hk, rfl⟩
/-- at another place it is none -/
theorem isRec_moved {n m : Nat} (hn : n < 4294967296) (hm : m < 4294967296) (r : RecS) (hne : n ≠ m) : ¬ IsRec (sectB n r) m := by
  intro h
  have e := congrArg (fun p => numAt p 0 4) h.2
  simp only [number_sectB, Nat.mod_eq_of_lt hn, Nat.mod_eq_of_lt hm] at e
  exact hne e
/-- the sum stands behind what it sums: so a burst is told -/
theorem isRec_burst {n n' : Nat} (r : RecS) {a m : Nat} (ha : a < 512) (hm : m.testBit 0 = true) : ¬ IsRec (turnC (sectB n r) a m 32) n' := by
  have hne : ¬ sectB n r = turnC (sectB n r) a m 32 := fun e => by
    have hl := sectB_length n r
    have h1 := turnC_bit (sectB n r) a m 32 a (by omega)
    rw [← e, Nat.sub_self, hm, decide_eq_true (show a ≤ a ∧ a < a + 32 by omega)] at h1
    cases h2 : bitAt (sectB n r) a <;> rw [h2] at h1 <;> cases h1
  intro hp
  refine extC_burst 0 (sectB n r) a m hne ?_
  rw [hp.2]
  generalize saidR (turnC (sectB n r) a m 32) = q
  unfold sectB
  rw [extC_rest, extC_rest]

/-! ### The records with which bytes begin -/
/-- at most so many, from a number on -/
def recsJ : Nat → Nat → List UInt8 → List RecS
  | 0, _, _ => []
  | m + 1, n, b => if IsRec (b.take 64) n then saidR (b.take 64) :: recsJ m (n + 1) (b.drop 64) else []
def recsOf (b : List UInt8) : List RecS := recsJ 65536 1 b
def fileR : Nat → List RecS → List UInt8
  | _, [] => []
  | n, r :: l => sectB n r ++ fileR (n + 1) l
theorem fileR_length (n : Nat) (l : List RecS) : (fileR n l).length = 64 * l.length := by
  induction l generalizing n with
  | nil => rfl
  | cons r l ih => rw [fileR, List.length_append, sectB_length, ih]; simp; omega
theorem fileR_append (n : Nat) (l m : List RecS) : fileR n (l ++ m) = fileR n l ++ fileR (n + l.length) m := by
  induction l generalizing n with
  | nil => simp [fileR]
  | cons r l ih => rw [List.cons_append, fileR, fileR, ih, List.append_assoc]; simp [Nat.add_assoc, Nat.add_comm 1]
theorem fileR_snoc (n : Nat) (l : List RecS) (r : RecS) : fileR n (l ++ [r]) = fileR n l ++ sectB (n + l.length) r := by rw [fileR_append]; simp [fileR]
theorem fileR_take (n : Nat) (l : List RecS) (k : Nat) (hk : k ≤ l.length) : (fileR n l).take (64 * k) = fileR n (l.take k) := by
  have e : fileR n l = fileR n (l.take k) ++ fileR (n + k) (l.drop k) := by
    conv => lhs; rw [← List.take_append_drop k l]
    rw [fileR_append, List.length_take, Nat.min_eq_left hk]
  rw [e, List.take_left' (by rw [fileR_length, List.length_take, Nat.min_eq_left hk])]
theorem fileR_drop (n : Nat) (l : List RecS) (k : Nat) (hk : k ≤ l.length) : (fileR n l).drop (64 * k) = fileR (n + k) (l.drop k) := by
  have e : fileR n l = fileR n (l.take k) ++ fileR (n + k) (l.drop k) := by
    conv => lhs; rw [← List.take_append_drop k l]
    rw [fileR_append, List.length_take, Nat.min_eq_left hk]
  rw [e, List.drop_left' (by rw [fileR_length, List.length_take, Nat.min_eq_left hk])]
/-- records that may be noted -/
def Fine (l : List RecS) : Prop := ∀ r ∈ l, RecOk r ∧ r.kind ≠ 0
theorem Fine.nil : Fine [] := fun _ h => by simp at h
theorem Fine.snoc {l : List RecS} {r : RecS} (h : Fine l) (h1 : RecOk r) (h2 : r.kind ≠ 0) : Fine (l ++ [r]) := fun q hq => by
  rcases List.mem_append.1 hq with h3 | h3
  · exact h q h3
  · rw [List.mem_singleton.1 h3]; exact ⟨h1, h2⟩
theorem Fine.take {l : List RecS} (h : Fine l) (k : Nat) : Fine (l.take k) := fun q hq => h q (List.mem_of_mem_take hq)
theorem recsJ_len (m n : Nat) (b : List UInt8) : (recsJ m n b).length ≤ m := by
  induction m generalizing n b with
  | zero => simp [recsJ]
  | succ m ih =>
    rw [recsJ]
    split
    · have := ih (n + 1) (b.drop 64); simp; omega
    · simp
theorem recsJ_fine (m n : Nat) (b : List UInt8) : Fine (recsJ m n b) := by
  induction m generalizing n b with
  | zero => exact Fine.nil
  | succ m ih =>
    rw [recsJ]
    split
    · rename_i h
      intro r hr
      rcases List.mem_cons.1 hr with rfl | hr
      · exact ⟨saidR_ok _, h.1⟩
      · exact ih _ _ r hr
    · exact Fine.nil
/-- they are the bytes' own -/
theorem recsJ_file (m n : Nat) (b : List UInt8) : b.take (64 * (recsJ m n b).length) = fileR n (recsJ m n b) ∧ 64 * (recsJ m n b).length ≤ b.length := by
  induction m generalizing n b with
  | zero => simp [recsJ, fileR]
  | succ m ih =>
    rw [recsJ]
    split
    · rename_i h
      obtain ⟨h1, h2⟩ := ih (n + 1) (b.drop 64)
      have hl := h.length
      rw [List.length_take] at hl
      rw [List.length_drop] at h2
      constructor
      · rw [fileR, ← h.2, ← h1, List.length_cons, show 64 * ((recsJ m (n + 1) (b.drop 64)).length + 1) = 64 + 64 * (recsJ m (n + 1) (b.drop 64)).length by omega, List.take_add]
      · simp only [List.length_cons]; omega
    · simp [fileR]
theorem recsJ_more (m n : Nat) (l : List RecS) (t : List UInt8) (h : Fine l) (hm : l.length ≤ m) : recsJ m n (fileR n l ++ t) = l ++ recsJ (m - l.length) (n + l.length) t := by
  induction l generalizing m n with
  | nil => simp [fileR]
  | cons r l ih =>
    obtain ⟨h1, h2⟩ := h r (by simp)
    cases m with
    | zero => simp at hm
    | succ m =>
      rw [fileR, List.append_assoc, recsJ, List.take_left' (sectB_length n r), List.drop_left' (sectB_length n r), if_pos (isRec_sectB n h1 h2), saidR_sectB n h1, ih m (n + 1) (fun q hq => h q (by simp [hq])) (by simp at hm; omega)]
      simp [Nat.add_assoc, Nat.add_comm 1]
theorem recsJ_none (m n : Nat) (b : List UInt8) (h : ¬ IsRec (b.take 64) n) : recsJ m n b = [] := by
  cases m with
  | zero => rfl
  | succ m => rw [recsJ, if_neg h]
theorem recsJ_short (m n : Nat) (b : List UInt8) (h : b.length < 64) : recsJ m n b = [] := by
  refine recsJ_none m n b fun hh => ?_
  have := hh.length
  rw [List.length_take] at this
  omega
theorem recsOf_len (b : List UInt8) : (recsOf b).length ≤ 65536 := recsJ_len _ _ _
theorem recsOf_fit (b : List UInt8) : 64 * (recsOf b).length ≤ b.length := (recsJ_file _ _ _).2
theorem recsOf_more (l : List RecS) (t : List UInt8) (h : Fine l) (hm : l.length ≤ 65536) (ht : ¬ IsRec (t.take 64) (1 + l.length)) : recsOf (fileR 1 l ++ t) = l := by
  unfold recsOf
  rw [recsJ_more _ _ _ _ h hm, recsJ_none _ _ _ ht, List.append_nil]
theorem notRec_short {t : List UInt8} {n : Nat} (h : t.length < 64) : ¬ IsRec (t.take 64) n := fun hh => by
  have := hh.length
  rw [List.length_take] at this
  omega
theorem recsOf_file (l : List RecS) (h : Fine l) (hm : l.length ≤ 65536) : recsOf (fileR 1 l) = l := by
  have := recsOf_more l [] h hm (notRec_short (by simp))
  rwa [List.append_nil] at this
theorem recsOf_take (b : List UInt8) : recsOf (b.take (64 * (recsOf b).length)) = recsOf b := by
  have h := (recsJ_file 65536 1 b).1
  unfold recsOf
  rw [h]
  exact recsOf_file _ (recsJ_fine _ _ _) (recsJ_len _ _ _)

/-! ### What the calls do -/
def nmJ : List UInt8 := [106, 111, 117, 114, 110, 97, 108]
theorem ok_j : nameOk nmJ = true := by decide
/-- the file is found, or made: what is told of it, and its bytes -/
def openP (s : Ds) : Ds × Nat × List UInt8 :=
  if (sizeS s nmJ).2 = 3 then ((createS s nmJ).1, (createS s nmJ).2, []) else (s, (sizeS s nmJ).2, (readS s nmJ 0 ((sizeS s nmJ).1 : Int)).1)
/-- so many records are left in the file, if it has more -/
def trimS (s : Ds) (b : List UInt8) (n : Nat) : Ds × Nat := if 64 * n < b.length then cutS s nmJ ((64 * n : Nat) : Int) else (s, 0)
def openJ (s : Ds) : Ds × Nat × List RecS :=
  if (openP s).2.1 ≠ 0 then ((openP s).1, (openP s).2.1, [])
  else if (trimS (openP s).1 (openP s).2.2 (recsOf (openP s).2.2).length).2 ≠ 0 then ((trimS (openP s).1 (openP s).2.2 (recsOf (openP s).2.2).length).1, (trimS (openP s).1 (openP s).2.2 (recsOf (openP s).2.2).length).2, [])
  else ((syncS (trimS (openP s).1 (openP s).2.2 (recsOf (openP s).2.2).length).1 nmJ).1, (syncS (trimS (openP s).1 (openP s).2.2 (recsOf (openP s).2.2).length).1 nmJ).2, recsOf (openP s).2.2)
def addJ (s : Ds) (l : List RecS) (r : RecS) : Ds × Nat :=
  if r.kind = 0 then (s, 1) else if 65536 ≤ l.length then (s, 9)
  else if (writeS s nmJ ((64 * l.length : Nat) : Int) (sectB (l.length + 1) r)).2 ≠ 0 then writeS s nmJ ((64 * l.length : Nat) : Int) (sectB (l.length + 1) r)
  else syncS (writeS s nmJ ((64 * l.length : Nat) : Int) (sectB (l.length + 1) r)).1 nmJ
def backJ (s : Ds) (l : List RecS) (n : Int) : Ds × Nat :=
  if n < 0 ∨ (l.length : Int) < n then (s, 1)
  else if (cutS s nmJ ((64 * n.toNat : Nat) : Int)).2 ≠ 0 then cutS s nmJ ((64 * n.toNat : Nat) : Int)
  else syncS (cutS s nmJ ((64 * n.toNat : Nat) : Int)).1 nmJ
section
variable {s s1 s2 s3 : Ds} {b : List UInt8} {E : Nat} {l : List RecS} {r : RecS} {n : Int}
theorem openJ_no (h : openP s = (s1, E, b)) (hE : E ≠ 0) : openJ s = (s1, E, []) := by unfold openJ; rw [h]; simp only; rw [if_pos hE]
theorem openJ_trim (h : openP s = (s1, 0, b)) (h2 : trimS s1 b (recsOf b).length = (s2, E)) (hE : E ≠ 0) : openJ s = (s2, E, []) := by
  unfold openJ; rw [h]; simp only; rw [h2]; simp only; rw [if_neg (fun q => q rfl), if_pos hE]
theorem openJ_go (h : openP s = (s1, 0, b)) (h2 : trimS s1 b (recsOf b).length = (s2, 0)) (h3 : syncS s2 nmJ = (s3, E)) : openJ s = (s3, E, recsOf b) := by
  unfold openJ; rw [h]; simp only; rw [h2]; simp only; rw [h3]; simp only; rw [if_neg (fun q => q rfl), if_neg (fun q => q rfl)]
theorem addJ_no (hk : r.kind ≠ 0) (hm : l.length < 65536) (h : writeS s nmJ ((64 * l.length : Nat) : Int) (sectB (l.length + 1) r) = (s1, E)) (hE : E ≠ 0) : addJ s l r = (s1, E) := by
  unfold addJ; rw [h]; simp only; rw [if_neg hk, if_neg (by omega), if_pos hE]
theorem addJ_go (hk : r.kind ≠ 0) (hm : l.length < 65536) (h : writeS s nmJ ((64 * l.length : Nat) : Int) (sectB (l.length + 1) r) = (s1, 0)) (h2 : syncS s1 nmJ = (s2, E)) : addJ s l r = (s2, E) := by
  unfold addJ; rw [h]; simp only; rw [h2, if_neg hk, if_neg (by omega), if_neg (fun q => q rfl)]
theorem addJ_many (hk : r.kind ≠ 0) (hm : 65536 ≤ l.length) : addJ s l r = (s, 9) := by unfold addJ; rw [if_neg hk, if_pos hm]
theorem addJ_none (hk : r.kind = 0) : addJ s l r = (s, 1) := by unfold addJ; rw [if_pos hk]
theorem backJ_none (hn : n < 0 ∨ (l.length : Int) < n) : backJ s l n = (s, 1) := by unfold backJ; rw [if_pos hn]
theorem backJ_no (hn : ¬ (n < 0 ∨ (l.length : Int) < n)) (h : cutS s nmJ ((64 * n.toNat : Nat) : Int) = (s1, E)) (hE : E ≠ 0) : backJ s l n = (s1, E) := by
  unfold backJ; rw [h]; simp only; rw [if_neg hn, if_pos hE]
theorem backJ_go (hn : ¬ (n < 0 ∨ (l.length : Int) < n)) (h : cutS s nmJ ((64 * n.toNat : Nat) : Int) = (s1, 0)) (h2 : syncS s1 nmJ = (s2, E)) : backJ s l n = (s2, E) := by
  unfold backJ; rw [h]; simp only; rw [h2, if_neg hn, if_neg (fun q => q rfl)]
end
/-- the file's bytes, where there is one -/
theorem getF_putJ (l : List Fl) (f : Fl) (h : getF l f.name = none) : getF (putF l f) f.name = some f := by
  induction l with
  | nil => simp [putF, getF]
  | cons g l ih =>
    unfold getF at h ih ⊢
    rw [List.find?_cons] at h
    by_cases e : g.name = f.name
    · rw [decide_eq_true e] at h; cases h
    · rw [decide_eq_false e] at h
      rw [putF]
      split
      · rw [List.find?_cons, decide_eq_false e]
        exact ih h
      · rw [List.find?_cons, decide_eq_true rfl]
theorem made_read {s : Ds} {nm : List UInt8} (h : (createS s nm).2 = 0) : sizeS (createS s nm).1 nm = (0, 0) ∧ readS (createS s nm).1 nm 0 0 = ([], 0) := by
  unfold createS at h ⊢
  by_cases h1 : (goneS s).off = true
  · rw [if_pos h1] at h; simp at h
  · rw [if_neg h1] at h ⊢
    by_cases h2 : nameOk nm = false
    · rw [if_pos h2] at h; simp at h
    · rw [if_neg h2] at h ⊢
      by_cases h3 : (getF s.l nm).isSome = true
      · rw [if_pos h3] at h; simp at h
      · rw [if_neg h3]
        have h4 : getF s.l nm = none := by
          cases e : getF s.l nm with
          | none => rfl
          | some x => rw [e] at h3; simp at h3
        have hg := getF_putJ s.l ⟨nm, [], [], fun _ => false⟩ h4
        have h1' : (goneS s).off = false := by simpa using h1
        have h2' : nameOk nm = true := by simpa using h2
        constructor
        · simp [sizeS, h1', h2', hg]
        · simp [readS, h1', h2', hg]
theorem sizeJ_le {s : Ds} (h : DsOk s) (nm : List UInt8) : (sizeS s nm).1 ≤ 16777216 := by
  unfold sizeS
  split
  · simp
  · split
    · simp
    · cases e : getF s.l nm with
      | none => simp
      | some f => exact (h.files f (List.mem_of_find?_eq_some e)).size
theorem sizeJ_ok {s : Ds} {nm : List UInt8} (h : (sizeS s nm).2 = 0) : ∃ f, getF s.l nm = some f ∧ (sizeS s nm).1 = f.now.length ∧ ∀ off n : Int, 0 ≤ off → 0 ≤ n → readS s nm off n = ((f.now.drop off.toNat).take n.toNat, 0) := by
  unfold sizeS at h ⊢
  unfold readS
  by_cases h1 : s.off = true
  · rw [if_pos h1] at h; simp at h
  · rw [if_neg h1] at h ⊢
    by_cases h2 : nameOk nm = false
    · rw [if_pos h2] at h; simp at h
    · rw [if_neg h2] at h ⊢
      cases e : getF s.l nm with
      | none => rw [e] at h; simp at h
      | some f =>
        refine ⟨f, rfl, rfl, fun off n h3 h4 => ?_⟩
        rw [if_neg h1, if_neg (by rintro (h5 | h5 | h5); exact h2 h5; omega; omega)]

end Go.Proofs.YtkhfffflegiapaaGreatDoor
