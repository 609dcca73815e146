/- What is to be done, one behind the other: is it much; a disk behind it. -/
import Derived.Test.YtjfnpfojboellaaGreatLawDisk9
namespace Go.Proofs.YtjfnpfojboellaaGreat
open Go.RowKit
set_option linter.unusedSimpArgs false
set_option linter.unusedVariables false
set_option maxRecDepth 100000

def opC (o : OpS) : List Value := [.int .i64 o.x.kind, strV o.x.name, strV o.x.to, .int .i64 o.x.off, .int .i64 o.x.n, .slice o.A o.len o.c, .int .u8 (o.x.mask.toNat : Int), .slice o.A2 o.len2 o.c2]
theorem opC_length (o : OpS) : (opC o).length = 8 := rfl
theorem OpOk.keep_ {W W' : World} {o : OpS} (h : OpOk W o) (k : Keeps W W') : OpOk W' o :=
  ⟨h.kind, h.nm, h.to, h.off, h.n, h.len, h.c, h.m, h.b.low k, h.len2, h.c2, h.m2, h.keep.low k⟩
/-- what is to be done lies there -/
structure OpsAt (W : World) (A : Option Addr) (l : List OpS) : Prop where
  cells : At W W.heap.size A (l.flatMap opC)
  ok : ∀ o ∈ l, OpOk W o
theorem OpsAt.keep {W W' : World} {A : Option Addr} {l : List OpS} (h : OpsAt W A l) (k : Keeps W W') : OpsAt W' A l :=
  ⟨h.cells.low k, fun o ho => (h.ok o ho).keep_ k⟩
theorem flatMap_len8 (l : List OpS) : (l.flatMap opC).length = l.length * 8 := by
  induction l with
  | nil => rfl
  | cons a l ih => rw [List.flatMap_cons, List.length_append, ih, opC_length, List.length_cons]; omega
theorem add_pos6 (p : Addr) (k : Nat) (hk : 0 < k) : p.add k = ⟨p.block, p.off + k, none⟩ := by unfold Addr.add; rw [if_neg (by omega)]
theorem OpsAt.cell0 {W : World} {A : Option Addr} {l : List OpS} (h : OpsAt W A l) {i : Nat} {o : OpS} (ho : l[i]? = some o) :
    ∃ ad, A = some ad ∧ ∀ j, j < 8 → W.cell? ((ad.add (i * 8)).add j) = (opC o)[j]? := by
  have hi : i < l.length := (List.getElem?_eq_some_iff.1 ho).1
  obtain ⟨ad, e, -, hc⟩ := At.get h.cells (k := i * 8) (by rw [flatMap_len8]; omega)
  refine ⟨ad, e, fun j hj => ?_⟩
  obtain ⟨ad', e', -, hc'⟩ := At.get h.cells (k := i * 8 + j) (by rw [flatMap_len8]; omega)
  obtain rfl := Option.some.inj (e.symm.trans e')
  rw [addr_add, hc', flatMap_get opC 8 opC_length l hj, ho]
  rfl
/-- a field of one of them -/
theorem OpsAt.cell {W : World} {A : Option Addr} {l : List OpS} (h : OpsAt W A l) {i j : Nat} {o : OpS} (ho : l[i]? = some o) (hj : j < 8) (h0 : 0 < j) :
    ∃ ad, A = some ad ∧ W.cell? ⟨(ad.add (i * 8)).block, (ad.add (i * 8)).off + j, none⟩ = (opC o)[j]? := by
  obtain ⟨ad, e, hc⟩ := h.cell0 ho
  exact ⟨ad, e, by rw [← hc j hj, add_pos6 _ _ h0]⟩
/-- not much -/
structure Few (l : List OpS) : Prop where
  most : l.length ≤ 150
  each : ∀ o ∈ l, o.len ≤ 65536 ∧ o.len2 ≤ 65536 ∧ o.x.name.length ≤ 65536 ∧ o.x.to.length ≤ 65536
def VastV (w : World) (l : List OpS) (e : Ending) (w' : World) : Prop := ∃ v : Bool, e = .returned (.bool v) ∧ Keeps w w' ∧ (v = false → Few l)
theorem min_nat (a : Nat) : (if (131072 : Int) < (a : Int) then (131072 : Int) else (a : Int)) = ((min a 131072 : Nat) : Int) := by split <;> omega
set_option maxHeartbeats 8000000 in
theorem vast_any (A : Option Addr) (n c : Nat) (l : List OpS) (w : World) (h : OpsAt w A l) (hn : n = l.length) (hm : n ≤ 9223372036854775807) :
    Calls Tryz.prog 4 #[.slice A n c] w (VastV w l) := by
  by_cases hb : 150 < n
  · have hbi : (150 : Int) < (n : Int) := by omega
    clear h hn hb
    go_enter Tryz.func4, Tryz.ntmps4
    go_wp2_with fail
    go_ret
    exact ⟨true, rfl, keeps_refl _, fun h => by cases h⟩
  · have hbi : (n : Int) ≤ 150 := by omega
    have H := Lib.hid h
    have HN := Lib.hid hn
    clear h hn hb
    go_enter Tryz.func4, Tryz.ntmps4
    go_wp2_with fail
    go_loopw [3, 4] (fun t i wr => ∃ (j s : Nat), j ≤ n ∧ i = .int .i64 j ∧ t = .int .i64 (s : Int) ∧ s ≤ 65536 ∧ (∀ o ∈ l.take j, o.len ≤ 65536 ∧ o.len2 ≤ 65536 ∧ o.x.name.length ≤ 65536 ∧ o.x.to.length ≤ 65536) ∧ Keeps w wr) (fun _ i _ => n - (intOf i).toNat)
    case atStart => exact ⟨0, 0, Nat.zero_le _, rfl, rfl, by omega, by simp, keeps_refl _⟩
    case round =>
      obtain ⟨j, s, hj, rfl, rfl, hs, hpre, kr⟩ := hrel
      have HP := Lib.hid hpre
      have KR := Lib.hid kr
      clear hpre kr
      have hsi : (s : Int) ≤ 65536 := by omega
      by_cases hlt : j < n
      · have hjn : (j : Int) < (n : Int) := by omega
        obtain ⟨o, ho⟩ : ∃ o, l[j]? = some o := ⟨_, List.getElem?_eq_getElem (by have := HN.out; omega)⟩
        have HO := Lib.hid ho
        have G := H.out.keep KR.out
        obtain ⟨ad, rfl, q1⟩ := G.cell ho (j := 1) (by decide) (by decide)
        obtain ⟨a2, h2, q2⟩ := G.cell ho (j := 2) (by decide) (by decide)
        obtain ⟨a5, h5, q5⟩ := G.cell ho (j := 5) (by decide) (by decide)
        obtain ⟨a7, h7, q7⟩ := G.cell ho (j := 7) (by decide) (by decide)
        obtain rfl := Option.some.inj h2
        obtain rfl := Option.some.inj h5
        obtain rfl := Option.some.inj h7
        simp only [opC, List.getElem?_cons_zero, List.getElem?_cons_succ] at q1 q2 q5 q7
        unfold strV at q1 q2
        have z1 := str_size o.x.name
        have z2 := str_size o.x.to
        obtain ⟨x5, hx5⟩ : ∃ x, min o.len 131072 = x := ⟨_, rfl⟩
        obtain ⟨x7, hx7⟩ : ∃ x, min o.len2 131072 = x := ⟨_, rfl⟩
        obtain ⟨x1, hx1⟩ : ∃ x, min o.x.name.length 131072 = x := ⟨_, rfl⟩
        obtain ⟨x2, hx2⟩ : ∃ x, min o.x.to.length 131072 = x := ⟨_, rfl⟩
        have m5 := min_nat o.len
        have m7 := min_nat o.len2
        have m1 := min_nat o.x.name.length
        have m2 := min_nat o.x.to.length
        rw [hx5] at m5
        rw [hx7] at m7
        rw [hx1] at m1
        rw [hx2] at m2
        have X5 := Lib.hid hx5
        have X7 := Lib.hid hx7
        have X1 := Lib.hid hx1
        have X2 := Lib.hid hx2
        have b5 : (x5 : Int) ≤ 131072 := by omega
        have b7 : (x7 : Int) ≤ 131072 := by omega
        have b1 : (x1 : Int) ≤ 131072 := by omega
        have b2 : (x2 : Int) ≤ 131072 := by omega
        generalize str o.x.name = s1 at *
        generalize str o.x.to = s2 at *
        clear ho G h2 h5 h7 hx5 hx7 hx1 hx2 hs
        go_wp2_with fail
        go_quiet (fail)
        have k2 := Lib.hid (keeps_trans KR.out (keeps_drewN wr nq))
        by_cases big : 65536 < s + x5 + x7 + x1 + x2
        · have hbig : (65536 : Int) < (s : Int) + x5 + x7 + x1 + x2 := by omega
          clear big
          go_wp2_with fail
          go_ret
          exact ⟨true, rfl, k2.out, fun h => by cases h⟩
        · have hbig : (s : Int) + x5 + x7 + x1 + x2 ≤ 65536 := by omega
          obtain ⟨t, ht⟩ : ∃ t, s + x5 + x7 + x1 + x2 = t := ⟨_, rfl⟩
          have hti : (s : Int) + x5 + x7 + x1 + x2 = (t : Int) := by omega
          rw [hti] at hbig
          have ht2 : t ≤ 65536 := by omega
          have NX := Lib.hid (show ∀ o ∈ l.take (j + 1), o.len ≤ 65536 ∧ o.len2 ≤ 65536 ∧ o.x.name.length ≤ 65536 ∧ o.x.to.length ≤ 65536 by
            intro o' ho'
            rw [List.take_add_one, HO.out, List.mem_append] at ho'
            rcases ho' with h | h
            · exact HP.out o' h
            · obtain rfl : o' = o := by simpa using h
              have := X5.out; have := X7.out; have := X1.out; have := X2.out
              omega)
          clear big
          have hbig2 : decide ((65536 : Int) < (t : Int)) = false := decide_eq_false (by omega)
          rw [hti]
          clear ht hti
          go_wp2_with fail
          go_roundw
          case rel => exact ⟨j + 1, t, by omega, by go_num, rfl, ht2, NX.out, k2.out⟩
          case measure => simp [intOf]; omega
      · obtain rfl : j = n := by omega
        have FEW := Lib.hid (show Few l from ⟨by have := HN.out; omega, fun o ho => HP.out o (by rw [HN.out, List.take_length]; exact ho)⟩)
        clear hlt hj
        go_wp2_with fail
        go_ret
        exact ⟨false, rfl, KR.out, fun _ => FEW.out⟩
/-- a disk behind what is done -/
def runS (s : Ds) (l : List OpS) : Ds := l.foldl (fun s o => (doS s o.x).1) s
theorem runS_take (s : Ds) (l : List OpS) (j : Nat) (o : OpS) (ho : l[j]? = some o) : runS s (l.take (j + 1)) = (doS (runS s (l.take j)) o.x).1 := by
  unfold runS
  rw [List.take_add_one, ho, List.foldl_append]
  rfl
theorem putF_len (l : List Fl) (f : Fl) : (putF l f).length = l.length + 1 := by
  induction l with
  | nil => rfl
  | cons g l ih =>
    unfold putF
    split
    · simp [ih]
    · simp
theorem delF_len (l : List Fl) (nm : List UInt8) : (delF l nm).length ≤ l.length := List.length_filter_le _ _
theorem delF_len2 {l : List Fl} {nm : List UInt8} {f : Fl} (h : getF l nm = some f) : (delF l nm).length < l.length := by
  have h1 := List.mem_of_find?_eq_some h
  have h2 := List.find?_some h
  exact List.length_filter_lt_length_iff_exists.2 ⟨f, h1, by simpa using h2⟩
theorem setF_len (l : List Fl) (f : Fl) : (setF l f).length = l.length := by simp [setF]
theorem backL_len (keep : List Int) : ∀ (l : List Fl) (base : Nat), (backL keep l base).length = l.length
  | [], _ => rfl
  | f :: l, base => by simp [backL, backL_len keep l]
theorem gone_l6 (s : Ds) : (goneS s).l = s.l := by unfold goneS; split <;> rfl
theorem rename_len (s : Ds) (a b : List UInt8) : (renameS s a b).1.l.length ≤ s.l.length + 1 := by
  have g := gone_l6 s
  unfold renameS
  split
  · rw [g]; omega
  · split
    · rw [g]; omega
    · cases h : getF s.l a with
      | none => simp only [g]; omega
      | some f =>
        have h1 := delF_len2 h
        have h2 := delF_len (delF s.l a) b
        simp only [putF_len]
        omega
theorem create_len (s : Ds) (a : List UInt8) : (createS s a).1.l.length ≤ s.l.length + 1 := by
  have g := gone_l6 s
  unfold createS
  (repeat' split) <;> (try rw [g]) <;> (try rw [putF_len]) <;> omega
theorem remove_len (s : Ds) (a : List UInt8) : (removeS s a).1.l.length ≤ s.l.length + 1 := by
  have g := gone_l6 s
  have := delF_len s.l a
  unfold removeS
  (repeat' split) <;> (try rw [g]) <;> (try dsimp only) <;> omega
theorem write_len (s : Ds) (a : List UInt8) (i : Int) (b : List UInt8) : (writeS s a i b).1.l.length ≤ s.l.length + 1 := by
  have g := gone_l6 s
  unfold writeS
  (repeat' split) <;> (try rw [g]) <;> (try rw [setF_len]) <;> omega
theorem cut_len (s : Ds) (a : List UInt8) (i : Int) : (cutS s a i).1.l.length ≤ s.l.length + 1 := by
  have g := gone_l6 s
  unfold cutS
  (repeat' split) <;> (try rw [g]) <;> (try rw [setF_len]) <;> omega
theorem sync_len (s : Ds) (a : List UInt8) : (syncS s a).1.l.length ≤ s.l.length + 1 := by
  have g := gone_l6 s
  unfold syncS
  (repeat' split) <;> (try rw [g]) <;> (try rw [setF_len]) <;> omega
theorem flip_len (s : Ds) (a : List UInt8) (i : Int) (m : UInt8) : (flipS s a i m).1.l.length ≤ s.l.length + 1 := by
  unfold flipS
  (repeat' split) <;> (try dsimp only) <;> (try rw [setF_len]) <;> omega
theorem quota_len (s : Ds) (i : Int) : (quotaS s i).1.l.length ≤ s.l.length + 1 := by
  unfold quotaS
  split <;> (try dsimp only) <;> omega
theorem arm_len (s : Ds) (i : Int) : (armS s i).1.l.length ≤ s.l.length + 1 := by
  unfold armS
  (repeat' split) <;> (try dsimp only) <;> omega
theorem on_len (s : Ds) (k : List Int) : (onS s k).1.l.length ≤ s.l.length + 1 := by
  unfold onS
  split
  · dsimp only; omega
  · dsimp only; rw [backL_len]; omega
/-- there is at most one file more -/
theorem doS_len (s : Ds) (o : Opx) : (doS s o).1.l.length ≤ s.l.length + 1 := by
  unfold doS
  by_cases h0 : o.kind = 0
  · rw [if_pos h0]; exact create_len _ _
  rw [if_neg h0]
  by_cases h1 : o.kind = 1
  · rw [if_pos h1]; exact remove_len _ _
  rw [if_neg h1]
  by_cases h2 : o.kind = 2
  · rw [if_pos h2]; exact rename_len _ _ _
  rw [if_neg h2]
  by_cases h3 : o.kind = 3
  · rw [if_pos h3]; exact write_len _ _ _ _
  rw [if_neg h3]
  by_cases h4 : o.kind = 4
  · rw [if_pos h4]; exact cut_len _ _ _
  rw [if_neg h4]
  by_cases h5 : o.kind = 5
  · rw [if_pos h5]; exact sync_len _ _
  rw [if_neg h5]
  by_cases h6 : o.kind = 6
  · rw [if_pos h6]; exact Nat.le_succ _
  rw [if_neg h6]
  by_cases h7 : o.kind = 7
  · rw [if_pos h7]; exact Nat.le_succ _
  rw [if_neg h7]
  by_cases h8 : o.kind = 8
  · rw [if_pos h8]; exact quota_len _ _
  rw [if_neg h8]
  by_cases h9 : o.kind = 9
  · rw [if_pos h9]; exact arm_len _ _
  rw [if_neg h9]
  by_cases h10 : o.kind = 10
  · rw [if_pos h10]; exact on_len _ _
  rw [if_neg h10]
  by_cases h11 : o.kind = 11
  · rw [if_pos h11]; exact flip_len _ _ _ _
  rw [if_neg h11]
  exact Nat.le_succ _
theorem runS_len (s : Ds) (l : List OpS) : (runS s l).l.length ≤ s.l.length + l.length := by
  induction l generalizing s with
  | nil => simp [runS]
  | cons o l ih =>
    have h1 := ih (doS s o.x).1
    have h2 := doS_len s o.x
    have h3 : runS s (o :: l) = runS (doS s o.x).1 l := rfl
    rw [h3, List.length_cons]
    omega
def BehindV (K : DiskOk) (w : World) (q : Int) (l : List OpS) (e : Ending) (w' : World) : Prop :=
  (∃ b F, 0 ≤ q ∧ q ≤ 1048576 ∧ e = .returned (.pointer (some ⟨b, 0, none⟩)) ∧ Have K w w' b F (runS ⟨[], q.toNat, 0, false⟩ l)) ∨ ((q < 0 ∨ 1048576 < q) ∧ e = .returned (.pointer none) ∧ Keeps w w')
end Go.Proofs.YtjfnpfojboellaaGreat
