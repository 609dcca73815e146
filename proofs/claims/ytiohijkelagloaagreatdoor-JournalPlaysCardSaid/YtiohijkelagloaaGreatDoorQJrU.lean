/- Calls of a disk, and its turn, by name. -/
import Derived.Test.YtiohijkelagloaaGreatDoorQJr4
import Derived.Test.YtiohijkelagloaaGreatDoorQJrMath
import Derived.Test.YtiohijkelagloaaGreatDoorQLawDisk6
import Derived.Deep.RegionHeld3
namespace Go.Proofs.YtiohijkelagloaaGreatDoor
open Go.RowKit
set_option linter.unusedSimpArgs false
set_option linter.unusedVariables false
set_option maxRecDepth 100000

section
variable {K : DiskOk} {w0 w : World} {b : Nat} {F : Nat → Prop} {s s' : Ds} {E : Nat}
theorem Have.armU_ (h : Have K w0 w b F s) (hZ : K.Z w0) (n : Int) (hn : IsI n) (hs : armS s n = (s', E)) :
    Calls Tryz.prog 26 #[.pointer (some ⟨b, 0, none⟩), .int .i64 n] w (WentU K w0 w b F s' E) := h.went hs (K.arm n (h.z hZ) h.D hn.1 hn.2)
theorem Have.createU_ (h : Have K w0 w b F s) (hZ : K.Z w0) (nm : List UInt8) (sv : ByteArray) (hv : sv = str nm) (hs : createS s nm = (s', E)) (hnm : nm.length ≤ maxLen := by decide) :
    Calls Tryz.prog 94 #[.pointer (some ⟨b, 0, none⟩), .string sv] w (WentU K w0 w b F s' E) := by subst hv; exact h.went hs (K.create nm (h.z hZ) h.D hnm)
theorem Have.syncU_ (h : Have K w0 w b F s) (hZ : K.Z w0) (nm : List UInt8) (sv : ByteArray) (hv : sv = str nm) (hs : syncS s nm = (s', E)) (hnm : nm.length ≤ maxLen := by decide) :
    Calls Tryz.prog 69 #[.pointer (some ⟨b, 0, none⟩), .string sv] w (WentU K w0 w b F s' E) := by subst hv; exact h.went hs (K.sync nm (h.z hZ) h.D hnm)
theorem Have.flipU_ (h : Have K w0 w b F s) (hZ : K.Z w0) (nm : List UInt8) (i : Int) (hi : IsI i) (m : UInt8) (sv : ByteArray) (hv : sv = str nm) (hs : flipS s nm i m = (s', E)) (hnm : nm.length ≤ maxLen := by decide) :
    Calls Tryz.prog 30 #[.pointer (some ⟨b, 0, none⟩), .string sv, .int .i64 i, .int .u8 (m.toNat : Int)] w (WentU K w0 w b F s' E) := by subst hv; exact h.went hs (K.flip nm i m (h.z hZ) h.D hnm hi.1 hi.2)
theorem Have.onU_ (h : Have K w0 w b F s) (hZ : K.Z w0) (A : Option Addr) (n c : Nat) (l : List Int) (hB : At w w.heap.size A (intC l)) (hF : ∀ ad, A = some ad → ¬ F ad.block) (hn : n = l.length) (hc : n ≤ c) (hm : n ≤ 70000) (hs : onS s l = (s', E)) :
    Calls Tryz.prog 27 #[.pointer (some ⟨b, 0, none⟩), .slice A n c] w (WentU K w0 w b F s' E) := h.went hs (K.on A n c l (h.z hZ) h.D hB hF hn hc hm)
end
variable {q : Nat}
def nmX : List UInt8 := [120]
theorem createX (f : Fl) : createS (DJ q f 1 false) nmX = (DJ q f 0 true, 6) := by unfold createS DJ; rw [gone_on]; rfl
theorem own_emptyJ (w : World) (e : TypeId) (size : Nat) : Own (w.alloc (.cells #[] e)) w.heap.size e size (.slice (some ⟨w.heap.size, 0, none⟩) 0 0) 0 [] :=
  ⟨by simp, .inr ⟨w.heap.size, 0, #[], (0, 0), rfl, Nat.le_refl _, heap_alloc_new w _, .inl rfl, Nat.le_refl _, by simp [maxLen], by simp, by simp⟩⟩
theorem At.ofRecs {w : World} {B : Nat} {A : Option Addr} {l : List RecS} (h : At w B A (rowsC l)) (k : Nat) : At w B A (rowsC (l.take k)) := by rw [rowsC_take]; exact h.take _
end Go.Proofs.YtiohijkelagloaaGreatDoor
/- What is done with a journal: eight cells each; and what the chapter says of it. -/
namespace Go.Proofs.YtiohijkelagloaaGreatDoor
open Go.RowKit
set_option linter.unusedSimpArgs false
set_option linter.unusedVariables false
set_option maxRecDepth 100000

structure Op9 where
  kind : Int
  r : RecS
  n : Int
  KA : Option Addr
  kl : Nat
  kc : Nat
  ks : List Int
  BA : Option Addr
  bl : Nat
  bc : Nat
  bs : List UInt8
  m : UInt8
def op9C (o : Op9) : List Value := [.int .i64 o.kind, .int .u32 (o.r.kind : Int), .int .u32 (o.r.a : Int), .int .u32 (o.r.b : Int), .int .i64 o.n, .slice o.KA o.kl o.kc, .slice o.BA o.bl o.bc, .int .u8 (o.m.toNat : Int)]
theorem op9C_length (o : Op9) : (op9C o).length = 8 := rfl
structure Op9Ok (W : World) (o : Op9) : Prop where
  kind : IsI o.kind
  r : RecOk o.r
  n : IsI o.n
  kl : o.kl = o.ks.length
  kc : o.kl ≤ o.kc
  km : o.kc ≤ maxLen
  k : At W W.heap.size o.KA (intC o.ks)
  bl : o.bl = o.bs.length
  bc : o.bl ≤ o.bc
  bm : o.bc ≤ maxLen
  b : At W W.heap.size o.BA (cel o.bs)
theorem Op9Ok.keep_ {W W' : World} {o : Op9} (h : Op9Ok W o) (k : Keeps W W') : Op9Ok W' o := ⟨h.kind, h.r, h.n, h.kl, h.kc, h.km, h.k.low k, h.bl, h.bc, h.bm, h.b.low k⟩
structure Ops9At (W : World) (A : Option Addr) (l : List Op9) : Prop where
  cells : At W W.heap.size A (l.flatMap op9C)
  ok : ∀ o ∈ l, Op9Ok W o
theorem Ops9At.keep {W W' : World} {A : Option Addr} {l : List Op9} (h : Ops9At W A l) (k : Keeps W W') : Ops9At W' A l :=
  ⟨h.cells.low k, fun o ho => (h.ok o ho).keep_ k⟩
theorem Ops9At.cell0 {W : World} {A : Option Addr} {l : List Op9} (h : Ops9At W A l) {i : Nat} {o : Op9} (ho : l[i]? = some o) :
    ∃ ad, A = some ad ∧ ∀ j, j < 8 → W.cell? ((ad.add (i * 8)).add j) = (op9C o)[j]? := by
  have hi : i < l.length := (List.getElem?_eq_some_iff.1 ho).1
  have hlen := flatMap_length op9C 8 op9C_length l
  obtain ⟨ad, e, -, hc⟩ := At.get h.cells (k := i * 8) (by rw [hlen]; omega)
  refine ⟨ad, e, fun j hj => ?_⟩
  obtain ⟨ad', e', -, hc'⟩ := At.get h.cells (k := i * 8 + j) (by rw [hlen]; omega)
  obtain rfl := Option.some.inj (e.symm.trans e')
  rw [addr_add, hc', flatMap_get op9C 8 op9C_length l hj, ho]
  rfl
theorem Ops9At.cell {W : World} {A : Option Addr} {l : List Op9} (h : Ops9At W A l) {i j : Nat} {o : Op9} (ho : l[i]? = some o) (hj : j < 8) (h0 : 0 < j) :
    ∃ ad, A = some ad ∧ W.cell? ⟨(ad.add (i * 8)).block, (ad.add (i * 8)).off + j, none⟩ = (op9C o)[j]? := by
  obtain ⟨ad, e, hc⟩ := h.cell0 ho
  exact ⟨ad, e, by rw [← hc j hj, add_pos6 _ _ h0]⟩
/-- not much -/
structure Few9 (l : List Op9) : Prop where
  most : l.length ≤ 80
  each : ∀ o ∈ l, o.kl ≤ 32768 ∧ o.bl ≤ 32768
def Vast9V (w : World) (l : List Op9) (e : Ending) (w' : World) : Prop := ∃ v : Bool, e = .returned (.bool v) ∧ Keeps w w' ∧ (v = false → Few9 l)
/-- the chapter's answer: the disk, the error, the journal that is held -/
def doJ (s : Ds) (j : Option (List RecS)) (o : Op9) : Ds × Nat × Option (List RecS) :=
  if o.kind = 0 then ((openJ s).1, (openJ s).2.1, if (openJ s).2.1 = 0 then some (openJ s).2.2 else none)
  else if o.kind = 1 then (match j with | none => (s, 2, none) | some l => ((addJ s l o.r).1, (addJ s l o.r).2, some (if (addJ s l o.r).2 = 0 then l ++ [o.r] else l)))
  else if o.kind = 2 then (match j with | none => (s, 2, none) | some l => ((backJ s l o.n).1, (backJ s l o.n).2, some (if (backJ s l o.n).2 = 0 then l.take o.n.toNat else l)))
  else if o.kind = 3 then ((armS s o.n).1, (armS s o.n).2, j)
  else if o.kind = 4 then ((onS s o.ks).1, (onS s o.ks).2, j)
  else if o.kind = 5 then ((writeS s nmJ o.n o.bs).1, (writeS s nmJ o.n o.bs).2, j)
  else if o.kind = 6 then ((flipS s nmJ o.n o.m).1, (flipS s nmJ o.n o.m).2, j)
  else if o.kind = 7 then ((quotaS s o.n).1, (quotaS s o.n).2, j)
  else (s, 0, j)
theorem doJ_0 {s s' : Ds} {E : Nat} {l : List RecS} {j : Option (List RecS)} {o : Op9} (hk : o.kind = 0) (h : openJ s = (s', E, l)) : doJ s j o = (s', E, if E = 0 then some l else none) := by unfold doJ; rw [if_pos hk, h]
theorem doJ_1n {s : Ds} {o : Op9} (hk : o.kind = 1) : doJ s none o = (s, 2, none) := by unfold doJ; rw [if_neg (by omega), if_pos hk]
theorem doJ_1 {s s' : Ds} {E : Nat} {l : List RecS} {o : Op9} (hk : o.kind = 1) (h : addJ s l o.r = (s', E)) : doJ s (some l) o = (s', E, some (if E = 0 then l ++ [o.r] else l)) := by unfold doJ; rw [if_neg (by omega), if_pos hk]; simp only; rw [h]
theorem doJ_2n {s : Ds} {o : Op9} (hk : o.kind = 2) : doJ s none o = (s, 2, none) := by unfold doJ; rw [if_neg (by omega), if_neg (by omega), if_pos hk]
theorem doJ_2 {s s' : Ds} {E : Nat} {l : List RecS} {o : Op9} (hk : o.kind = 2) (h : backJ s l o.n = (s', E)) : doJ s (some l) o = (s', E, some (if E = 0 then l.take o.n.toNat else l)) := by unfold doJ; rw [if_neg (by omega), if_neg (by omega), if_pos hk]; simp only; rw [h]
section
variable {s s' : Ds} {E : Nat} {j : Option (List RecS)} {o : Op9}
theorem doJ_3 (hk : o.kind = 3) (h : armS s o.n = (s', E)) : doJ s j o = (s', E, j) := by unfold doJ; rw [if_neg (by omega), if_neg (by omega), if_neg (by omega), if_pos hk, h]
theorem doJ_4 (hk : o.kind = 4) (h : onS s o.ks = (s', E)) : doJ s j o = (s', E, j) := by unfold doJ; rw [if_neg (by omega), if_neg (by omega), if_neg (by omega), if_neg (by omega), if_pos hk, h]
theorem doJ_5 (hk : o.kind = 5) (h : writeS s nmJ o.n o.bs = (s', E)) : doJ s j o = (s', E, j) := by unfold doJ; rw [if_neg (by omega), if_neg (by omega), if_neg (by omega), if_neg (by omega), if_neg (by omega), if_pos hk, h]
theorem doJ_6 (hk : o.kind = 6) (h : flipS s nmJ o.n o.m = (s', E)) : doJ s j o = (s', E, j) := by unfold doJ; rw [if_neg (by omega), if_neg (by omega), if_neg (by omega), if_neg (by omega), if_neg (by omega), if_neg (by omega), if_pos hk, h]
theorem doJ_7 (hk : o.kind = 7) (h : quotaS s o.n = (s', E)) : doJ s j o = (s', E, j) := by unfold doJ; rw [if_neg (by omega), if_neg (by omega), if_neg (by omega), if_neg (by omega), if_neg (by omega), if_neg (by omega), if_neg (by omega), if_pos hk, h]
theorem doJ_8 (hk : ¬ (0 ≤ o.kind ∧ o.kind ≤ 7)) : doJ s j o = (s, 0, j) := by unfold doJ; rw [if_neg (by omega), if_neg (by omega), if_neg (by omega), if_neg (by omega), if_neg (by omega), if_neg (by omega), if_neg (by omega), if_neg (by omega)]
end
end Go.Proofs.YtiohijkelagloaaGreatDoor
/- Is it much that is done with a journal? The files there may be after it. -/
namespace Go.Proofs.YtiohijkelagloaaGreatDoor
open Go.RowKit
set_option linter.unusedSimpArgs false
set_option linter.unusedVariables false
set_option maxRecDepth 100000

theorem openJ_len (s : Ds) : (openJ s).1.l.length ≤ s.l.length + 3 := by
  have h1 : (openP s).1.l.length ≤ s.l.length + 1 := by
    unfold openP
    split
    · exact create_len _ _
    · exact Nat.le_succ _
  have h2 : ∀ (t : Ds) (b : List UInt8) (n : Nat), (trimS t b n).1.l.length ≤ t.l.length + 1 := fun t b n => by
    unfold trimS
    split
    · exact cut_len _ _ _
    · exact Nat.le_succ _
  have h3 := h2 (openP s).1 (openP s).2.2 (recsOf (openP s).2.2).length
  have h4 := sync_len (trimS (openP s).1 (openP s).2.2 (recsOf (openP s).2.2).length).1 nmJ
  unfold openJ
  split
  · simp only; omega
  · split
    · simp only; omega
    · simp only; omega
theorem addJ_len (s : Ds) (l : List RecS) (r : RecS) : (addJ s l r).1.l.length ≤ s.l.length + 3 := by
  have h1 := write_len s nmJ ((64 * l.length : Nat) : Int) (sectB (l.length + 1) r)
  have h2 := sync_len (writeS s nmJ ((64 * l.length : Nat) : Int) (sectB (l.length + 1) r)).1 nmJ
  unfold addJ
  split
  · simp only; omega
  · split
    · simp only; omega
    · split <;> omega
theorem backJ_len (s : Ds) (l : List RecS) (n : Int) : (backJ s l n).1.l.length ≤ s.l.length + 3 := by
  have h1 := cut_len s nmJ ((64 * n.toNat : Nat) : Int)
  have h2 := sync_len (cutS s nmJ ((64 * n.toNat : Nat) : Int)).1 nmJ
  unfold backJ
  split
  · simp only; omega
  · split <;> omega
theorem doJ_len (s : Ds) (j : Option (List RecS)) (o : Op9) : (doJ s j o).1.l.length ≤ s.l.length + 3 := by
  by_cases h0 : o.kind = 0
  · rw [doJ_0 h0 (s' := (openJ s).1) (E := (openJ s).2.1) (l := (openJ s).2.2) rfl]; exact openJ_len s
  by_cases h1 : o.kind = 1
  · rcases j with _ | l
    · rw [doJ_1n h1]; simp only; omega
    · rw [doJ_1 h1 (s' := (addJ s l o.r).1) (E := (addJ s l o.r).2) rfl]; exact addJ_len s l o.r
  by_cases h2 : o.kind = 2
  · rcases j with _ | l
    · rw [doJ_2n h2]; simp only; omega
    · rw [doJ_2 h2 (s' := (backJ s l o.n).1) (E := (backJ s l o.n).2) rfl]; exact backJ_len s l o.n
  by_cases h3 : o.kind = 3
  · rw [doJ_3 h3 (s' := (armS s o.n).1) (E := (armS s o.n).2) rfl]; have := arm_len s o.n; simp only; omega
  by_cases h4 : o.kind = 4
  · rw [doJ_4 h4 (s' := (onS s o.ks).1) (E := (onS s o.ks).2) rfl]; have := on_len s o.ks; simp only; omega
  by_cases h5 : o.kind = 5
  · rw [doJ_5 h5 (s' := (writeS s nmJ o.n o.bs).1) (E := (writeS s nmJ o.n o.bs).2) rfl]; have := write_len s nmJ o.n o.bs; simp only; omega
  by_cases h6 : o.kind = 6
  · rw [doJ_6 h6 (s' := (flipS s nmJ o.n o.m).1) (E := (flipS s nmJ o.n o.m).2) rfl]; have := flip_len s nmJ o.n o.m; simp only; omega
  by_cases h7 : o.kind = 7
  · rw [doJ_7 h7 (s' := (quotaS s o.n).1) (E := (quotaS s o.n).2) rfl]; have := quota_len s o.n; simp only; omega
  · rw [doJ_8 (by omega)]; simp only; omega
set_option maxHeartbeats 8000000 in
theorem vast9_any (A : Option Addr) (n c : Nat) (l : List Op9) (w : World) (h : Ops9At w A l) (hn : n = l.length) (hm : n ≤ 9223372036854775807) :
    Calls Tryz.prog 5 #[.slice A n c] w (Vast9V w l) := by
  by_cases hb : 80 < n
  · have hbi : (80 : Int) < (n : Int) := by omega
    clear h hn hb
    go_enter Tryz.func5, Tryz.ntmps5
    go_wp2_with fail
    go_ret
    exact ⟨true, rfl, keeps_refl _, fun h => by cases h⟩
  · have hbi : (n : Int) ≤ 80 := by omega
    have H := Lib.hid h
    have HN := Lib.hid hn
    clear h hn hb
    go_enter Tryz.func5, Tryz.ntmps5
    go_wp2_with fail
    go_loopw [3, 4] (fun t i wr => ∃ (j s : Nat), j ≤ n ∧ i = .int .i64 j ∧ t = .int .i64 (s : Int) ∧ s ≤ 32768 ∧ (∀ o ∈ l.take j, o.kl ≤ 32768 ∧ o.bl ≤ 32768) ∧ Keeps w wr) (fun _ i _ => n - (intOf i).toNat)
    case atStart => exact ⟨0, 0, Nat.zero_le _, rfl, rfl, by omega, by simp, keeps_refl _⟩
    case round =>
      obtain ⟨j, s, hj, rfl, rfl, hs, hpre, kr⟩ := hrel
      have HP := Lib.hid hpre
      have KR := Lib.hid kr
      clear hpre kr
      have hsi : (s : Int) ≤ 32768 := by omega
      by_cases hlt : j < n
      · have hjn : (j : Int) < (n : Int) := by omega
        obtain ⟨o, ho⟩ : ∃ o, l[j]? = some o := ⟨_, List.getElem?_eq_getElem (by have := HN.out; omega)⟩
        have HO := Lib.hid ho
        have G := H.out.keep KR.out
        obtain ⟨ad, rfl, q5⟩ := G.cell ho (j := 5) (by decide) (by decide)
        obtain ⟨a6, h6, q6⟩ := G.cell ho (j := 6) (by decide) (by decide)
        obtain rfl := Option.some.inj h6
        simp only [op9C, List.getElem?_cons_zero, List.getElem?_cons_succ] at q5 q6
        obtain ⟨x5, hx5⟩ : ∃ x, min o.kl 131072 = x := ⟨_, rfl⟩
        obtain ⟨x6, hx6⟩ : ∃ x, min o.bl 131072 = x := ⟨_, rfl⟩
        have m5 := min_nat o.kl
        have m6 := min_nat o.bl
        rw [hx5] at m5
        rw [hx6] at m6
        have X5 := Lib.hid hx5
        have X6 := Lib.hid hx6
        have b5 : (x5 : Int) ≤ 131072 := by omega
        have b6 : (x6 : Int) ≤ 131072 := by omega
        clear ho G h6 hx5 hx6 hs
        go_wp2_with fail
        go_quiet (fail)
        have k2 := Lib.hid (keeps_trans KR.out (keeps_drewN wr nq))
        by_cases big : 32768 < s + x6 + x5
        · have hbig : (32768 : Int) < (s : Int) + x6 + x5 := by omega
          clear big
          go_wp2_with fail
          go_ret
          exact ⟨true, rfl, k2.out, fun h => by cases h⟩
        · have hbig : (s : Int) + x6 + x5 ≤ 32768 := by omega
          obtain ⟨t, ht⟩ : ∃ t, s + x6 + x5 = t := ⟨_, rfl⟩
          have hti : (s : Int) + x6 + x5 = (t : Int) := by omega
          rw [hti] at hbig
          have ht2 : t ≤ 32768 := by omega
          have NX := Lib.hid (show ∀ o ∈ l.take (j + 1), o.kl ≤ 32768 ∧ o.bl ≤ 32768 by
            intro o' ho'
            rw [List.take_add_one, HO.out, List.mem_append] at ho'
            rcases ho' with h | h
            · exact HP.out o' h
            · obtain rfl : o' = o := by simpa using h
              have := X5.out; have := X6.out
              omega)
          clear big
          have hbig2 : decide ((32768 : Int) < (t : Int)) = false := decide_eq_false (by omega)
          rw [hti]
          clear ht hti
          go_wp2_with fail
          go_roundw
          case rel => exact ⟨j + 1, t, by omega, by go_num, rfl, ht2, NX.out, k2.out⟩
          case measure => simp [intOf]; omega
      · obtain rfl : j = n := by omega
        have FEW := Lib.hid (show Few9 l from ⟨by have := HN.out; omega, fun o ho => HP.out o (by rw [HN.out, List.take_length]; exact ho)⟩)
        clear hlt hj
        go_wp2_with fail
        go_ret
        exact ⟨false, rfl, KR.out, fun _ => FEW.out⟩
end Go.Proofs.YtiohijkelagloaaGreatDoor
/- What milepostlaw09.does does, kind by kind. (Written by mkdo9.py.) -/
namespace Go.Proofs.YtiohijkelagloaaGreatDoor
open Go.RowKit
set_option linter.unusedSimpArgs false
set_option linter.unusedVariables false
set_option maxRecDepth 100000

/-- the journal that is held, or none -/
def JH (w : World) (base b : Nat) (F G : Nat → Prop) (v : Value) (j : Option (List RecS)) : Prop :=
  (v = .pointer none ∧ j = none ∧ ∀ i, ¬ G i) ∨ ∃ a l, v = .pointer (some ⟨a, 0, none⟩) ∧ j = some l ∧ JrAt w base a b G l ∧ ∀ i, G i → ¬ F i
section
variable {w w' : World} {base b : Nat} {F F' G : Nat → Prop} {v : Value} {j : Option (List RecS)}
theorem JH.lt (h : JH w base b F G v j) : ∀ i, G i → i < w.heap.size := fun i hi => by
  rcases h with ⟨-, -, h⟩ | ⟨a, l, -, -, h, -⟩
  · exact absurd hi (h i)
  · exact h.lt i hi
theorem JH.ge (h : JH w base b F G v j) : ∀ i, G i → base ≤ i := fun i hi => by
  rcases h with ⟨-, -, h⟩ | ⟨a, l, -, -, h, -⟩
  · exact absurd hi (h i)
  · exact h.ge i hi
theorem JH.keep (h : JH w base b F G v j) (k : Keeps w w') : JH w' base b F G v j := by
  rcases h with h | ⟨a, l, hv, hj, h, hd⟩
  · exact .inl h
  · exact .inr ⟨a, l, hv, hj, h.keep k, hd⟩
theorem JH.turn (h : JH w base b F G v j) (t : Turns w w' F F') : JH w' base b F' G v j := by
  rcases h with h | ⟨a, l, hv, hj, h, hd⟩
  · exact .inl h
  · exact .inr ⟨a, l, hv, hj, (h.turn t hd).1, (h.turn t hd).2⟩
theorem JH.far {S S' : Nat → Prop} (h : JH w base b F G v j) (t : Turns w w' S S') (hd : ∀ i, G i → ¬ S i) : JH w' base b F G v j := by
  rcases h with h | ⟨a, l, hv, hj, h, hF⟩
  · exact .inl h
  · exact .inr ⟨a, l, hv, hj, h.same (fun i hi => t.only.block i (h.lt i hi) (hd i hi)), hF⟩
end
theorem turn_new {w w' : World} {F F' G G' : Nat → Prop} (t : Turns w w' F F') (hG : ∀ i, G' i → w.heap.size ≤ i) : Turns w w' (fun i => F i ∨ G i) (fun i => F' i ∨ G' i) :=
  ⟨⟨t.only.os, t.only.tape, t.only.output, t.only.size, fun i hi hn => t.only.block i hi (fun e => hn (.inl e))⟩, fun i hi => by
    rcases hi with hi | hi
    · rcases t.next i hi with h | h
      · exact .inl (.inl h)
      · exact .inr h
    · exact .inr (hG i hi)⟩
section
variable {K : DiskOk} {w0 w : World} {b : Nat} {F G : Nat → Prop} {s : Ds} {v : Value} {jl : Option (List RecS)}
def Done9 (K : DiskOk) (w0 w : World) (b : Nat) (F G : Nat → Prop) (r : Ds × Nat × Option (List RecS)) (e : Ending) (w' : World) : Prop :=
  ∃ F' G' v', e = .returned (.tuple #[.int .i64 (r.2.1 : Int), v']) ∧ Have K w0 w' b F' r.1 ∧ JH w' w0.heap.size b F' G' v' r.2.2 ∧ Turns w w' (fun i => F i ∨ G i) (fun i => F' i ∨ G' i)
set_option maxHeartbeats 8000000 in
theorem does9_0 (hZ : K.Z w0) (hS : Sizes w0) (h : Have K w0 w b F s) (hj : JH w w0.heap.size b F G v jl) (o : Op9) (ho : Op9Ok w0 o) (hk : o.kind = 0) :
    Calls Tryz.prog 9 #[.pointer (some ⟨b, 0, none⟩), v, .agg (op9C o).toArray] w (Done9 K w0 w b F G (doJ s jl o)) := by
  have k0 := keeps_alloc w (.cells (op9C o).toArray 42)
  have hk0 := h.keep k0
  have K0 := Lib.hid k0
  obtain ⟨s1, E1, l1, hs⟩ : ∃ s1 E1 l1, openJ s = (s1, E1, l1) := ⟨_, _, _, rfl⟩
  rw [doJ_0 hk hs]
  have C := Lib.hid (jrOpen_any hk0 hZ hS hs)
  have KP := Lib.hid hk0.kp
  obtain ⟨RES, hRES⟩ : ∃ R : Option (List RecS), (if E1 = 0 then some l1 else none) = R := ⟨_, rfl⟩
  rw [hRES]
  have RE := Lib.hid hRES
  clear hRES
  unfold op9C at *
  rw [hk] at *
  clear hs h hj k0 hk0 ho hZ hS
  go_enter Tryz.func9, Tryz.ntmps9
  go_wp2_with fail
  refine C.out.mono ?_
  rintro e w1 ⟨F1, h1, t1, ⟨hE, a, G1, rfl, j1, d1⟩ | ⟨hE, rfl⟩⟩
  · subst hE
    have H1 := Lib.hid (And.intro h1 (And.intro t1 (And.intro j1 d1)))
    clear h1 t1 j1 d1
    go_wp2_with fail
    go_returns
    exact ⟨F1, G1, .pointer (some ⟨a, 0, none⟩), rfl, H1.out.1, .inr ⟨a, l1, rfl, by rw [← RE.out]; rfl, H1.out.2.2.1.base_le KP.out.size, H1.out.2.2.2⟩, (Turns.of_keeps K0.out).trans (turn_new H1.out.2.1 H1.out.2.2.1.ge)⟩
  · have H1 := Lib.hid (And.intro h1 (And.intro t1 hE))
    clear h1 t1 hE
    go_wp2_with fail
    go_returns
    exact ⟨F1, fun _ => False, .pointer none, rfl, H1.out.1, .inl ⟨rfl, by rw [← RE.out, if_neg H1.out.2.2], fun _ h => h⟩, (Turns.of_keeps K0.out).trans (turn_new H1.out.2.1 (fun _ h => h.elim))⟩
set_option maxHeartbeats 8000000 in
theorem does9_1n (hZ : K.Z w0) (hS : Sizes w0) (h : Have K w0 w b F s) (hG : ∀ i, ¬ G i) (o : Op9) (ho : Op9Ok w0 o) (hk : o.kind = 1) :
    Calls Tryz.prog 9 #[.pointer (some ⟨b, 0, none⟩), .pointer none, .agg (op9C o).toArray] w (Done9 K w0 w b F G (doJ s none o)) := by
  have k0 := keeps_alloc w (.cells (op9C o).toArray 42)
  have hk0 := h.keep k0
  have K0 := Lib.hid k0
  rw [doJ_1n hk]
  have C := Lib.hid (jrAdd_nil o.r (w.alloc (.cells (op9C o).toArray 42)))
  have HH := Lib.hid hk0
  have HG := Lib.hid hG
  unfold recC at C
  unfold op9C at *
  rw [hk] at *
  clear h k0 hk0 ho hZ hG hS
  go_enter Tryz.func9, Tryz.ntmps9
  go_wp2_with fail
  refine C.out.mono ?_
  rintro e w1 ⟨rfl, k1⟩
  have K1 := Lib.hid k1
  clear k1
  go_wp2_with fail
  go_returns
  exact ⟨F, G, .pointer none, rfl, HH.out.keep K1.out, .inl ⟨rfl, rfl, HG.out⟩, Turns.of_keeps (keeps_trans K0.out K1.out)⟩
set_option maxHeartbeats 8000000 in
theorem does9_1 (hZ : K.Z w0) (hS : Sizes w0) (h : Have K w0 w b F s) {a : Nat} {l : List RecS} (ja : JrAt w w0.heap.size a b G l) (da : ∀ i, G i → ¬ F i) (o : Op9) (ho : Op9Ok w0 o) (hk : o.kind = 1) :
    Calls Tryz.prog 9 #[.pointer (some ⟨b, 0, none⟩), .pointer (some ⟨a, 0, none⟩), .agg (op9C o).toArray] w (Done9 K w0 w b F G (doJ s (some l) o)) := by
  have k0 := keeps_alloc w (.cells (op9C o).toArray 42)
  have hk0 := h.keep k0
  have K0 := Lib.hid k0
  obtain ⟨s1, E1, hs⟩ : ∃ s1 E1, addJ s l o.r = (s1, E1) := ⟨_, _, rfl⟩
  rw [doJ_1 hk hs]
  have C := Lib.hid (jrAdd_any hk0 hZ hS (ja.keep k0) da (Nat.le_refl _) o.r ho.r hs)
  obtain ⟨RES, hRES⟩ : ∃ R, (if E1 = 0 then l ++ [o.r] else l) = R := ⟨_, rfl⟩
  rw [hRES] at C ⊢
  unfold recC at C
  unfold op9C at *
  rw [hk] at *
  clear hRES hs h ja da k0 hk0 ho hZ hS
  go_enter Tryz.func9, Tryz.ntmps9
  go_wp2_with fail
  refine C.out.mono ?_
  rintro e w1 ⟨rfl, F1, G1, h1, j1, d1, t1⟩
  have H1 := Lib.hid (And.intro h1 (And.intro j1 (And.intro d1 t1)))
  clear h1 j1 d1 t1
  go_wp2_with fail
  go_returns
  exact ⟨F1, G1, _, rfl, H1.out.1, .inr ⟨a, RES, rfl, rfl, H1.out.2.1, H1.out.2.2.1⟩, (Turns.of_keeps K0.out).trans H1.out.2.2.2⟩
set_option maxHeartbeats 8000000 in
theorem does9_2n (hZ : K.Z w0) (hS : Sizes w0) (h : Have K w0 w b F s) (hG : ∀ i, ¬ G i) (o : Op9) (ho : Op9Ok w0 o) (hk : o.kind = 2) :
    Calls Tryz.prog 9 #[.pointer (some ⟨b, 0, none⟩), .pointer none, .agg (op9C o).toArray] w (Done9 K w0 w b F G (doJ s none o)) := by
  have k0 := keeps_alloc w (.cells (op9C o).toArray 42)
  have hk0 := h.keep k0
  have K0 := Lib.hid k0
  rw [doJ_2n hk]
  have C := Lib.hid (jrBack_nil o.n (w.alloc (.cells (op9C o).toArray 42)))
  have HH := Lib.hid hk0
  have HG := Lib.hid hG
  
  unfold op9C at *
  rw [hk] at *
  clear h k0 hk0 ho hZ hG hS
  go_enter Tryz.func9, Tryz.ntmps9
  go_wp2_with fail
  refine C.out.mono ?_
  rintro e w1 ⟨rfl, k1⟩
  have K1 := Lib.hid k1
  clear k1
  go_wp2_with fail
  go_returns
  exact ⟨F, G, .pointer none, rfl, HH.out.keep K1.out, .inl ⟨rfl, rfl, HG.out⟩, Turns.of_keeps (keeps_trans K0.out K1.out)⟩
set_option maxHeartbeats 8000000 in
theorem does9_2 (hZ : K.Z w0) (hS : Sizes w0) (h : Have K w0 w b F s) {a : Nat} {l : List RecS} (ja : JrAt w w0.heap.size a b G l) (da : ∀ i, G i → ¬ F i) (o : Op9) (ho : Op9Ok w0 o) (hk : o.kind = 2) :
    Calls Tryz.prog 9 #[.pointer (some ⟨b, 0, none⟩), .pointer (some ⟨a, 0, none⟩), .agg (op9C o).toArray] w (Done9 K w0 w b F G (doJ s (some l) o)) := by
  have k0 := keeps_alloc w (.cells (op9C o).toArray 42)
  have hk0 := h.keep k0
  have K0 := Lib.hid k0
  obtain ⟨s1, E1, hs⟩ : ∃ s1 E1, backJ s l o.n = (s1, E1) := ⟨_, _, rfl⟩
  rw [doJ_2 hk hs]
  have C := Lib.hid (jrBack_any hk0 hZ (ja.keep k0) da (Nat.le_refl _) o.n ho.n hs)
  obtain ⟨RES, hRES⟩ : ∃ R, (if E1 = 0 then l.take o.n.toNat else l) = R := ⟨_, rfl⟩
  rw [hRES] at C ⊢
  
  unfold op9C at *
  rw [hk] at *
  clear hRES hs h ja da k0 hk0 ho hZ hS
  go_enter Tryz.func9, Tryz.ntmps9
  go_wp2_with fail
  refine C.out.mono ?_
  rintro e w1 ⟨rfl, F1, G1, h1, j1, d1, t1⟩
  have H1 := Lib.hid (And.intro h1 (And.intro j1 (And.intro d1 t1)))
  clear h1 j1 d1 t1
  go_wp2_with fail
  go_returns
  exact ⟨F1, G1, _, rfl, H1.out.1, .inr ⟨a, RES, rfl, rfl, H1.out.2.1, H1.out.2.2.1⟩, (Turns.of_keeps K0.out).trans H1.out.2.2.2⟩
set_option maxHeartbeats 8000000 in
theorem does9_3 (hZ : K.Z w0) (hS : Sizes w0) (h : Have K w0 w b F s) (hj : JH w w0.heap.size b F G v jl) (o : Op9) (ho : Op9Ok w0 o) (hk : o.kind = 3) :
    Calls Tryz.prog 9 #[.pointer (some ⟨b, 0, none⟩), v, .agg (op9C o).toArray] w (Done9 K w0 w b F G (doJ s jl o)) := by
  have k0 := keeps_alloc w (.cells (op9C o).toArray 42)
  have hk0 := h.keep k0
  have K0 := Lib.hid k0
  obtain ⟨s1, E1, hs⟩ : ∃ s1 E1, armS s o.n = (s1, E1) := ⟨_, _, rfl⟩
  rw [doJ_3 hk hs]
  have C := Lib.hid (hk0.went hs (K.arm o.n (hk0.z hZ) hk0.D ho.n.1 ho.n.2))
  have HJ := Lib.hid (hj.keep k0)
  unfold op9C dpt at *
  rw [hk] at *
  clear hs h hj k0 hk0 ho hZ hS
  go_enter Tryz.func9, Tryz.ntmps9
  go_wp2_with fail
  refine C.out.mono ?_
  rintro e w1 ⟨rfl, F1, h1, t1⟩
  have H1 := Lib.hid (And.intro h1 t1)
  clear h1 t1
  go_wp2_with fail
  go_returns
  exact ⟨F1, G, v, rfl, H1.out.1, HJ.out.turn H1.out.2, (Turns.of_keeps K0.out).trans (both_turn H1.out.2)⟩
set_option maxHeartbeats 8000000 in
theorem does9_7 (hZ : K.Z w0) (hS : Sizes w0) (h : Have K w0 w b F s) (hj : JH w w0.heap.size b F G v jl) (o : Op9) (ho : Op9Ok w0 o) (hk : o.kind = 7) :
    Calls Tryz.prog 9 #[.pointer (some ⟨b, 0, none⟩), v, .agg (op9C o).toArray] w (Done9 K w0 w b F G (doJ s jl o)) := by
  have k0 := keeps_alloc w (.cells (op9C o).toArray 42)
  have hk0 := h.keep k0
  have K0 := Lib.hid k0
  obtain ⟨s1, E1, hs⟩ : ∃ s1 E1, quotaS s o.n = (s1, E1) := ⟨_, _, rfl⟩
  rw [doJ_7 hk hs]
  have C := Lib.hid (hk0.went hs (K.quota o.n (hk0.z hZ) hk0.D ho.n.1 ho.n.2))
  have HJ := Lib.hid (hj.keep k0)
  unfold op9C dpt at *
  rw [hk] at *
  clear hs h hj k0 hk0 ho hZ hS
  go_enter Tryz.func9, Tryz.ntmps9
  go_wp2_with fail
  refine C.out.mono ?_
  rintro e w1 ⟨rfl, F1, h1, t1⟩
  have H1 := Lib.hid (And.intro h1 t1)
  clear h1 t1
  go_wp2_with fail
  go_returns
  exact ⟨F1, G, v, rfl, H1.out.1, HJ.out.turn H1.out.2, (Turns.of_keeps K0.out).trans (both_turn H1.out.2)⟩
set_option maxHeartbeats 8000000 in
theorem does9_6 (hZ : K.Z w0) (hS : Sizes w0) (h : Have K w0 w b F s) (hj : JH w w0.heap.size b F G v jl) (o : Op9) (ho : Op9Ok w0 o) (hk : o.kind = 6) :
    Calls Tryz.prog 9 #[.pointer (some ⟨b, 0, none⟩), v, .agg (op9C o).toArray] w (Done9 K w0 w b F G (doJ s jl o)) := by
  have k0 := keeps_alloc w (.cells (op9C o).toArray 42)
  have hk0 := h.keep k0
  have K0 := Lib.hid k0
  obtain ⟨s1, E1, hs⟩ : ∃ s1 E1, flipS s nmJ o.n o.m = (s1, E1) := ⟨_, _, rfl⟩
  rw [doJ_6 hk hs]
  have C := Lib.hid (hk0.went hs (K.flip nmJ o.n o.m (hk0.z hZ) hk0.D (by decide) ho.n.1 ho.n.2))
  have HJ := Lib.hid (hj.keep k0)
  unfold op9C dpt strV at *
  rw [strJ] at C
  rw [hk] at *
  clear hs h hj k0 hk0 ho hZ hS
  go_enter Tryz.func9, Tryz.ntmps9
  go_wp2_with fail
  refine C.out.mono ?_
  rintro e w1 ⟨rfl, F1, h1, t1⟩
  have H1 := Lib.hid (And.intro h1 t1)
  clear h1 t1
  go_wp2_with fail
  go_returns
  exact ⟨F1, G, v, rfl, H1.out.1, HJ.out.turn H1.out.2, (Turns.of_keeps K0.out).trans (both_turn H1.out.2)⟩
set_option maxHeartbeats 8000000 in
theorem does9_4 (hZ : K.Z w0) (hS : Sizes w0) (h : Have K w0 w b F s) (hj : JH w w0.heap.size b F G v jl) (o : Op9) (ho : Op9Ok w0 o) (hk : o.kind = 4) (hfew : o.kl ≤ 32768) :
    Calls Tryz.prog 9 #[.pointer (some ⟨b, 0, none⟩), v, .agg (op9C o).toArray] w (Done9 K w0 w b F G (doJ s jl o)) := by
  have k0 := keeps_alloc w (.cells (op9C o).toArray 42)
  have hk0 := h.keep k0
  have K0 := Lib.hid k0
  obtain ⟨s1, E1, hs⟩ : ∃ s1 E1, onS s o.ks = (s1, E1) := ⟨_, _, rfl⟩
  rw [doJ_4 hk hs]
  obtain ⟨i1, hi1, hy0, hy1, hy2⟩ := info_parts info_int
  have HH := Lib.hid hk0
  have HJ := Lib.hid (hj.keep k0)
  have kE := keeps_trans k0 (keeps_alloc (w.alloc (.cells (op9C o).toArray 42)) (.cells #[] 3))
  have KE := Lib.hid kE
  have O0 := Lib.hid (show Own ((w.alloc (.cells (op9C o).toArray 42)).alloc (.cells #[] 3)) (w.heap.size + 1) 3 1 (.slice (some ⟨w.heap.size + 1, 0, none⟩) 0 0) 0 [] by
    have e : (w.alloc (.cells (op9C o).toArray 42)).heap.size = w.heap.size + 1 := by simp
    have q := own_emptyJ (w.alloc (.cells (op9C o).toArray 42)) 3 1
    rw [e] at q
    exact q)
  have AT := Lib.hid (ho.k.low (keeps_trans h.kp kE))
  have LEN := Lib.hid (show (intC o.ks).length = o.kl * 1 by rw [intC_length, ← ho.kl, Nat.mul_one])
  have KL := Lib.hid ho.kl
  have HSS := Lib.hid hs
  have HZ := Lib.hid hZ
  have ONE := Lib.hid (show ∀ u ∈ intC o.ks, u.oneCell' = true from fun u hu => by
    simp only [intC, List.mem_map] at hu
    obtain ⟨x, -, rfl⟩ := hu
    rfl)
  have hfi : (o.kl : Int) ≤ 32768 := by omega
  have S0 := Lib.hid (show w.heap.size ≤ (w.alloc (.cells (op9C o).toArray 42)).heap.size from k0.size)
  unfold op9C at *
  rw [hk] at *
  clear hs h hj k0 hk0 ho hZ hS kE
  go_enter Tryz.func9, Tryz.ntmps9
  go_wp2_with (at_builtin; refine wpList_app _ rfl _ _ 39 rfl (w.heap.size + 1) 3 i1 (.int .i64 0) 1 8 Tryz.underlying39 hi1 hy0 hy1 hy2 rfl (by decide) _ 0 [] rfl O0.out _ o.KA o.kl o.kc (intC o.ks) rfl LEN.out AT.out ONE.out (by unfold maxLen; omega) (by omega) (by simp) ?_; intro v20 w20 hown20 hgrow20 hblk20; obtain ⟨A20, c20, rfl, -⟩ := hown20.form)
  have k20 : Keeps w w20 := Below.grown KE.out hgrow20 KE.out.size (fun g hg => Nat.le_trans (Nat.le_succ _) (O0.out.lt g hg).1)
  have k21 := Below.grown (keeps_alloc _ (.cells #[] 3)) hgrow20 (keeps_alloc _ (.cells #[] 3)).size (fun g hg => by have := (O0.out.lt g hg).1; simpa using this)
  have O20 := Lib.hid (show Own w20 (w.heap.size + 1) 3 1 (.slice A20 o.kl c20) o.kl (intC o.ks) by simpa using hown20)
  have H20 := Lib.hid (HH.out.keep k21)
  have J20 := Lib.hid (HJ.out.keep k21)
  have K20 := Lib.hid k20
  have C := Lib.hid (H20.out.onU_ HZ.out A20 o.kl c20 o.ks O20.out.at_ (fun ad ha hf => by
    subst ha
    have h1 := (O20.out.lt ad.block rfl).1
    have h2 := K.lt HH.out.D _ hf
    simp at h2
    omega) KL.out O20.out.capj.1 (by omega) HSS.out)
  clear hown20 hgrow20 hblk20 k20 k21
  have K0 := K20
  have HJ := J20
  go_wp2_with fail
  refine C.out.mono ?_
  rintro e w1 ⟨rfl, F1, h1, t1⟩
  have H1 := Lib.hid (And.intro h1 t1)
  clear h1 t1
  go_wp2_with fail
  go_returns
  exact ⟨F1, G, v, rfl, H1.out.1, J20.out.turn H1.out.2, (Turns.of_keeps K20.out).trans (both_turn H1.out.2)⟩
set_option maxHeartbeats 8000000 in
theorem does9_5 (hZ : K.Z w0) (hS : Sizes w0) (h : Have K w0 w b F s) (hj : JH w w0.heap.size b F G v jl) (o : Op9) (ho : Op9Ok w0 o) (hk : o.kind = 5) (hfew : o.bl ≤ 32768) :
    Calls Tryz.prog 9 #[.pointer (some ⟨b, 0, none⟩), v, .agg (op9C o).toArray] w (Done9 K w0 w b F G (doJ s jl o)) := by
  have k0 := keeps_alloc w (.cells (op9C o).toArray 42)
  have hk0 := h.keep k0
  have K0 := Lib.hid k0
  obtain ⟨s1, E1, hs⟩ : ∃ s1 E1, writeS s nmJ o.n o.bs = (s1, E1) := ⟨_, _, rfl⟩
  rw [doJ_5 hk hs]
  have BX := Lib.hid (Box.new w 42 (op9C o).toArray)
  have HH := Lib.hid hk0
  have HJ := Lib.hid (hj.keep k0)
  have CB := Lib.hid (fun (V : World) (kk : Keeps w V) => copyBytes_any o.BA o.bl o.bc o.bs V (ho.b.low (keeps_trans h.kp kk)) ho.bl (by have := ho.bc; have := ho.bm; omega))
  have BL := Lib.hid ho.bl
  have WR := Lib.hid (fun (V : World) (kk : Keeps (w.alloc (.cells (op9C o).toArray 42)) V) (A3 : Option Addr) (c3 : Nat) (q : Own V w.heap.size 5 1 (.slice A3 o.bl c3) o.bl (cel o.bs)) =>
    (hk0.keep kk).went hs (K.write nmJ o.n A3 o.bl c3 o.bs ((hk0.keep kk).z hZ) (hk0.keep kk).D (by decide) ho.n.1 ho.n.2 q.at_ (fun ad ha hf => by
      obtain ⟨A', c', hv, hc', hm', -, hb'⟩ := q.form
      injection hv with h3 h4 h5
      subst h3
      have h6 := (hb' ad ha).2.1
      have h7 := K.lt h.D _ hf
      omega) ho.bl q.capj.1 (by omega)))
  have CF := Lib.hid (show ∀ V : World, Box V w.heap.size 42 (op9C o).toArray → V.cell? ⟨w.heap.size, 4, none⟩ = some (.int .i64 o.n) ∧ V.cell? ⟨w.heap.size, 6, none⟩ = some (.slice o.BA o.bl o.bc) from fun V h2 => ⟨h2.cell 4 rfl, h2.cell 6 rfl⟩)
  have NX := Lib.hid (show ¬ F w.heap.size from fun e => by have := K.lt h.D _ e; omega)
  unfold dpt strV at WR
  rw [strJ] at WR
  unfold op9C at *
  rw [hk] at *
  clear hs h hj k0 hk0 ho hZ hS
  go_enter Tryz.func9, Tryz.ntmps9
  go_wp2_with fail
  go_region_held3 (fun V => V.cell? ⟨w.heap.size, 4, none⟩ = some (.int .i64 o.n) ∧ V.cell? ⟨w.heap.size, 6, none⟩ = some (.slice o.BA o.bl o.bc)) (first | assumption | exact CF.out _ (BX.out.keep (keeps_drew _))) (first
    | (go_at_call 29; refine (CB.out _ (keeps_trans K0.out (keeps_drew _))).mono ?_; rintro ee w2 ⟨v2, rfl, o2, k2⟩; rw [← BL.out] at o2; obtain ⟨A2, c2, rfl, -⟩ := o2.form; have K2 := Lib.hid (keeps_trans (keeps_drew (w.alloc (.cells #[.int .i64 5, .int .u32 (o.r.kind : Int), .int .u32 (o.r.a : Int), .int .u32 (o.r.b : Int), .int .i64 o.n, .slice o.KA o.kl o.kc, .slice o.BA o.bl o.bc, .int .u8 (o.m.toNat : Int)] 42))) k2); have O2 := Lib.hid (o2.base_le (keeps_trans K0.out (keeps_drew _)).size); have s2 := CF.out w2 (BX.out.keep K2.out); clear k2 o2)
    | (go_at_call 28; refine (WR.out _ K2.out _ _ O2.out).mono ?_; rintro ee w3 ⟨rfl, F3, h3, t3⟩; have s3 := CF.out w3 (Box.turned (BX.out.keep K2.out) t3 NX.out); have H3 := Lib.hid h3; have T3 := Lib.hid t3; clear h3 t3))
  go_wp2_with fail
  go_returns
  exact ⟨F3, G, v, rfl, H3.out, (HJ.out.keep K2.out).turn T3.out, (Turns.of_keeps (keeps_trans K0.out K2.out)).trans (both_turn T3.out)⟩
set_option maxHeartbeats 8000000 in
theorem does9_8 (hZ : K.Z w0) (hS : Sizes w0) (h : Have K w0 w b F s) (hj : JH w w0.heap.size b F G v jl) (o : Op9) (ho : Op9Ok w0 o) (hk : ¬ (0 ≤ o.kind ∧ o.kind ≤ 7)) :
    Calls Tryz.prog 9 #[.pointer (some ⟨b, 0, none⟩), v, .agg (op9C o).toArray] w (Done9 K w0 w b F G (doJ s jl o)) := by
  have k0 := keeps_alloc w (.cells (op9C o).toArray 42)
  have hk0 := h.keep k0
  have K0 := Lib.hid k0
  rw [doJ_8 hk]
  have HH := Lib.hid hk0
  have HJ := Lib.hid (hj.keep k0)
  have e0 : (o.kind == 0) = false := by rw [beq_eq_false_iff_ne]; omega
  have e1 : (o.kind == 1) = false := by rw [beq_eq_false_iff_ne]; omega
  have e2 : (o.kind == 2) = false := by rw [beq_eq_false_iff_ne]; omega
  have e3 : (o.kind == 3) = false := by rw [beq_eq_false_iff_ne]; omega
  have e4 : (o.kind == 4) = false := by rw [beq_eq_false_iff_ne]; omega
  have e5 : (o.kind == 5) = false := by rw [beq_eq_false_iff_ne]; omega
  have e6 : (o.kind == 6) = false := by rw [beq_eq_false_iff_ne]; omega
  have e7 : (o.kind == 7) = false := by rw [beq_eq_false_iff_ne]; omega
  unfold op9C at *
  clear hk h hj k0 hk0 ho hZ hS
  go_enter Tryz.func9, Tryz.ntmps9
  go_wp2_with fail
  go_returns
  exact ⟨F, G, v, rfl, HH.out, HJ.out, Turns.of_keeps K0.out⟩
theorem does9_any (hZ : K.Z w0) (hS : Sizes w0) (h : Have K w0 w b F s) (hj : JH w w0.heap.size b F G v jl) (o : Op9) (ho : Op9Ok w0 o) (hkl : o.kl ≤ 32768) (hbl : o.bl ≤ 32768) :
    Calls Tryz.prog 9 #[.pointer (some ⟨b, 0, none⟩), v, .agg (op9C o).toArray] w (Done9 K w0 w b F G (doJ s jl o)) := by
  by_cases h0 : o.kind = 0
  · exact does9_0 hZ hS h hj o ho h0
  by_cases h1 : o.kind = 1
  · rcases hj with ⟨rfl, rfl, hG⟩ | ⟨a, l, rfl, rfl, ja, da⟩
    · exact does9_1n hZ hS h hG o ho h1
    · exact does9_1 hZ hS h ja da o ho h1
  by_cases h2 : o.kind = 2
  · rcases hj with ⟨rfl, rfl, hG⟩ | ⟨a, l, rfl, rfl, ja, da⟩
    · exact does9_2n hZ hS h hG o ho h2
    · exact does9_2 hZ hS h ja da o ho h2
  by_cases h3 : o.kind = 3
  · exact does9_3 hZ hS h hj o ho h3
  by_cases h4 : o.kind = 4
  · exact does9_4 hZ hS h hj o ho h4 hkl
  by_cases h5 : o.kind = 5
  · exact does9_5 hZ hS h hj o ho h5 hbl
  by_cases h6 : o.kind = 6
  · exact does9_6 hZ hS h hj o ho h6
  by_cases h7 : o.kind = 7
  · exact does9_7 hZ hS h hj o ho h7
  · exact does9_8 hZ hS h hj o ho (by omega)
end
end Go.Proofs.YtiohijkelagloaaGreatDoor
