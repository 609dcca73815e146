/- What the calls of package disk answer; the anchor of layer 6's statements. -/
import Derived.Test.YtjfnpfojboellaaGreatProg
import Derived.Test.YtjfnpfojboellaaGreatDiskMath
import Derived.Test.YtjfnpfojboellaaGreatOnly
import Derived.Test.YtjfnpfojboellaaGreatDiskOne
import Derived.Test.YtjfnpfojboellaaGreatBox
import Derived.Deep.RegionHeld3
namespace Go.Proofs.YtjfnpfojboellaaGreat
open Go.RowKit
set_option linter.unusedSimpArgs false
set_option linter.unusedVariables false
set_option maxRecDepth 100000

/-- What a law leaves. -/
def Yes (w : World) (e : Ending) (w' : World) : Prop := e = .returned (.bool true) ∧ Keeps w w'
def dpt (b : Nat) : Value := .pointer (some ⟨b, 0, none⟩)
def strV (l : List UInt8) : Value := .string (str l)
/-- numbers as a slice of int has them -/
def intC (l : List Int) : List Value := l.map fun x => .int .i64 x
def placeC (p : List UInt8 × Nat) : List Value := [strV p.1, .int .i64 (p.2 : Int)]
/-- files in new memory: each its name and its bytes -/
def FilesAt (w : World) (base : Nat) (v : Value) (l : List (List UInt8 × List UInt8)) : Prop :=
  ∃ vs : List Value, vs.length = l.length ∧ Own w base 75 2 v l.length ((l.zip vs).flatMap fun p => [strV p.1.1, p.2]) ∧
    ∀ (i : Nat) (b : List UInt8) (x : Value), (l[i]?).map Prod.snd = some b → vs[i]? = some x → Own w base 5 1 x b.length (cel b)
/-- What the calls of package disk answer; D: the object in block b, made of blocks F, is a disk of this state. -/
structure DiskOk where
  Z : World → Prop
  keep : ∀ {w w' : World}, Z w → Keeps w w' → Z w'
  D : World → Nat → (Nat → Prop) → Ds → Prop
  lt : ∀ {w : World} {b : Nat} {F : Nat → Prop} {s : Ds}, D w b F s → ∀ i, F i → i < w.heap.size
  same : ∀ {w w' : World} {b : Nat} {F : Nat → Prop} {s : Ds}, D w b F s → (∀ i, F i → w'.heap[i]? = w.heap[i]?) → w.heap.size ≤ w'.heap.size → D w' b F s
  ok : ∀ {w : World} {b : Nat} {F : Nat → Prop} {s : Ds}, D w b F s → DsOk s
  new : ∀ (q : Int) (w : World), Z w → -9223372036854775808 ≤ q → q ≤ 9223372036854775807 →
    Calls Tryz.prog 6 #[.int .i64 q] w fun e w' =>
      (0 ≤ q ∧ q ≤ 1048576 ∧ ∃ b F, e = .returned (.tuple #[dpt b, .int .i64 0]) ∧ D w' b F ⟨[], q.toNat, 0, false⟩ ∧ (∀ i, F i → w.heap.size ≤ i) ∧ Keeps w w') ∨
      ((q < 0 ∨ 1048576 < q) ∧ e = .returned (.tuple #[.pointer none, .int .i64 1]) ∧ Keeps w w')
  create : ∀ {w : World} {b : Nat} {F : Nat → Prop} {s : Ds} (nm : List UInt8), Z w → D w b F s → nm.length ≤ maxLen →
    Calls Tryz.prog 15 #[dpt b, strV nm] w fun e w' => e = .returned (.int .i64 ((createS s nm).2 : Int)) ∧ ∃ F', D w' b F' (createS s nm).1 ∧ Turns w w' F F'
  remove : ∀ {w : World} {b : Nat} {F : Nat → Prop} {s : Ds} (nm : List UInt8), Z w → D w b F s → nm.length ≤ maxLen →
    Calls Tryz.prog 21 #[dpt b, strV nm] w fun e w' => e = .returned (.int .i64 ((removeS s nm).2 : Int)) ∧ ∃ F', D w' b F' (removeS s nm).1 ∧ Turns w w' F F'
  rename : ∀ {w : World} {b : Nat} {F : Nat → Prop} {s : Ds} (nm to : List UInt8), Z w → D w b F s → nm.length ≤ maxLen → to.length ≤ maxLen →
    Calls Tryz.prog 22 #[dpt b, strV nm, strV to] w fun e w' => e = .returned (.int .i64 ((renameS s nm to).2 : Int)) ∧ ∃ F', D w' b F' (renameS s nm to).1 ∧ Turns w w' F F'
  write : ∀ {w : World} {b : Nat} {F : Nat → Prop} {s : Ds} (nm : List UInt8) (off : Int) (A : Option Addr) (n c : Nat) (l : List UInt8), Z w → D w b F s → nm.length ≤ maxLen → -9223372036854775808 ≤ off → off ≤ 9223372036854775807 →
    Bs w A l → (∀ ad, A = some ad → ¬ F ad.block) → n = l.length → n ≤ c → n ≤ 70000 →
    Calls Tryz.prog 16 #[dpt b, strV nm, .int .i64 off, .slice A n c] w fun e w' => e = .returned (.int .i64 ((writeS s nm off l).2 : Int)) ∧ ∃ F', D w' b F' (writeS s nm off l).1 ∧ Turns w w' F F'
  cut : ∀ {w : World} {b : Nat} {F : Nat → Prop} {s : Ds} (nm : List UInt8) (n : Int), Z w → D w b F s → nm.length ≤ maxLen → -9223372036854775808 ≤ n → n ≤ 9223372036854775807 →
    Calls Tryz.prog 24 #[dpt b, strV nm, .int .i64 n] w fun e w' => e = .returned (.int .i64 ((cutS s nm n).2 : Int)) ∧ ∃ F', D w' b F' (cutS s nm n).1 ∧ Turns w w' F F'
  sync : ∀ {w : World} {b : Nat} {F : Nat → Prop} {s : Ds} (nm : List UInt8), Z w → D w b F s → nm.length ≤ maxLen →
    Calls Tryz.prog 17 #[dpt b, strV nm] w fun e w' => e = .returned (.int .i64 ((syncS s nm).2 : Int)) ∧ ∃ F', D w' b F' (syncS s nm).1 ∧ Turns w w' F F'
  read : ∀ {w : World} {b : Nat} {F : Nat → Prop} {s : Ds} (nm : List UInt8) (off n : Int), Z w → D w b F s → nm.length ≤ maxLen → -9223372036854775808 ≤ off → off ≤ 9223372036854775807 → -9223372036854775808 ≤ n → n ≤ 9223372036854775807 →
    Calls Tryz.prog 18 #[dpt b, strV nm, .int .i64 off, .int .i64 n] w fun e w' => ∃ v, e = .returned (.tuple #[v, .int .i64 ((readS s nm off n).2 : Int)]) ∧ Own w' w.heap.size 5 1 v (readS s nm off n).1.length (cel (readS s nm off n).1) ∧ Keeps w w'
  size : ∀ {w : World} {b : Nat} {F : Nat → Prop} {s : Ds} (nm : List UInt8), Z w → D w b F s → nm.length ≤ maxLen →
    Calls Tryz.prog 25 #[dpt b, strV nm] w fun e w' => e = .returned (.tuple #[.int .i64 ((sizeS s nm).1 : Int), .int .i64 ((sizeS s nm).2 : Int)]) ∧ Keeps w w'
  names : ∀ {w : World} {b : Nat} {F : Nat → Prop} {s : Ds}, Z w → D w b F s → s.l.length ≤ 70000 →
    Calls Tryz.prog 42 #[dpt b] w fun e w' => ∃ v, e = .returned v ∧ Own w' w.heap.size 9 1 v s.l.length (s.l.map fun f => strV f.name) ∧ Keeps w w'
  used : ∀ {w : World} {b : Nat} {F : Nat → Prop} {s : Ds}, Z w → D w b F s →
    Calls Tryz.prog 19 #[dpt b] w fun e w' => e = .returned (.int .i64 (usedL s.l : Int)) ∧ Keeps w w'
  quota : ∀ {w : World} {b : Nat} {F : Nat → Prop} {s : Ds} (n : Int), Z w → D w b F s → -9223372036854775808 ≤ n → n ≤ 9223372036854775807 →
    Calls Tryz.prog 26 #[dpt b, .int .i64 n] w fun e w' => e = .returned (.int .i64 ((quotaS s n).2 : Int)) ∧ ∃ F', D w' b F' (quotaS s n).1 ∧ Turns w w' F F'
  arm : ∀ {w : World} {b : Nat} {F : Nat → Prop} {s : Ds} (n : Int), Z w → D w b F s → -9223372036854775808 ≤ n → n ≤ 9223372036854775807 →
    Calls Tryz.prog 27 #[dpt b, .int .i64 n] w fun e w' => e = .returned (.int .i64 ((armS s n).2 : Int)) ∧ ∃ F', D w' b F' (armS s n).1 ∧ Turns w w' F F'
  dead : ∀ {w : World} {b : Nat} {F : Nat → Prop} {s : Ds}, Z w → D w b F s →
    Calls Tryz.prog 47 #[dpt b] w fun e w' => e = .returned (.bool s.off) ∧ Keeps w w'
  loose : ∀ {w : World} {b : Nat} {F : Nat → Prop} {s : Ds}, Z w → D w b F s →
    Calls Tryz.prog 44 #[dpt b] w fun e w' => ∃ v, e = .returned v ∧ Own w' w.heap.size 73 2 v (placesL s.l).length ((placesL s.l).flatMap placeC) ∧ Keeps w w'
  on : ∀ {w : World} {b : Nat} {F : Nat → Prop} {s : Ds} (A : Option Addr) (n c : Nat) (l : List Int), Z w → D w b F s → At w w.heap.size A (intC l) → (∀ ad, A = some ad → ¬ F ad.block) → n = l.length → n ≤ c → n ≤ 70000 →
    Calls Tryz.prog 28 #[dpt b, .slice A n c] w fun e w' => e = .returned (.int .i64 ((onS s l).2 : Int)) ∧ ∃ F', D w' b F' (onS s l).1 ∧ Turns w w' F F'
  flip : ∀ {w : World} {b : Nat} {F : Nat → Prop} {s : Ds} (nm : List UInt8) (i : Int) (m : UInt8), Z w → D w b F s → nm.length ≤ maxLen → -9223372036854775808 ≤ i → i ≤ 9223372036854775807 →
    Calls Tryz.prog 29 #[dpt b, strV nm, .int .i64 i, .int .u8 (m.toNat : Int)] w fun e w' => e = .returned (.int .i64 ((flipS s nm i m).2 : Int)) ∧ ∃ F', D w' b F' (flipS s nm i m).1 ∧ Turns w w' F F'
  files : ∀ {w : World} {b : Nat} {F : Nat → Prop} {s : Ds}, Z w → D w b F s → s.l.length ≤ 70000 →
    Calls Tryz.prog 13 #[dpt b] w fun e w' => ∃ v, e = .returned v ∧ FilesAt w' w.heap.size v (s.l.map fun f => (f.name, f.now)) ∧ Keeps w w'

/-- a disk that came of this call, made since w0 -/
structure Have (K : DiskOk) (w0 w : World) (b : Nat) (F : Nat → Prop) (s : Ds) : Prop where
  D : K.D w b F s
  low : ∀ i, F i → w0.heap.size ≤ i
  kp : Keeps w0 w
theorem Have.step {K : DiskOk} {w0 w w' : World} {b : Nat} {F F' : Nat → Prop} {s s' : Ds} (h : Have K w0 w b F s) (hD : K.D w' b F' s') (ht : Turns w w' F F') : Have K w0 w' b F' s' :=
  ⟨hD, fun i hi => by
    rcases ht.next i hi with h1 | h1
    · exact h.low i h1
    · exact Nat.le_trans h.kp.size h1, ht.keeps h.kp h.low⟩
theorem Have.keep {K : DiskOk} {w0 w w' : World} {b : Nat} {F : Nat → Prop} {s : Ds} (h : Have K w0 w b F s) (k : Keeps w w') : Have K w0 w' b F s :=
  ⟨K.same h.D (fun i hi => k.block i (K.lt h.D i hi)) k.size, h.low, keeps_trans h.kp k⟩
theorem Have.z {K : DiskOk} {w0 w : World} {b : Nat} {F : Nat → Prop} {s : Ds} (h : Have K w0 w b F s) (hZ : K.Z w0) : K.Z w := K.keep hZ h.kp
/-- bytes that lie elsewhere stay -/
theorem Turns.at_ {w w' : World} {F F' : Nat → Prop} {A : Option Addr} {xs : List Value} (h : Turns w w' F F') (hB : At w w.heap.size A xs) (hF : ∀ ad, A = some ad → ¬ F ad.block) : At w' w'.heap.size A xs := by
  rcases hB with h0 | ⟨ad, e, hb, hc⟩
  · exact .inl h0
  · refine .inr ⟨ad, e, Nat.lt_of_lt_of_le hb h.only.size, fun j u hu => ?_⟩
    have hc' := hc j u hu
    have e1 : w'.heap[(ad.add j).block]? = w.heap[(ad.add j).block]? := by rw [addr_block]; exact h.only.block _ hb (hF ad e)
    unfold World.cell? at hc' ⊢
    rw [e1]
    exact hc'
theorem Own.turns {w w' : World} {F F' : Nat → Prop} {base : Nat} {e : TypeId} {size : Nat} {v : Value} {n : Nat} {xs : List Value} (h : Own w base e size v n xs) (ht : Turns w w' F F') (hF : ∀ k, v.ownBlock = some k → ¬ F k) : Own w' base e size v n xs :=
  h.same fun k hk => ht.only.block k (h.lt k hk).2 (hF k hk)

set_option maxHeartbeats 4000000 in
theorem same6_any (A : Option Addr) (n c : Nat) (l : List UInt8) (B : Option Addr) (m d : Nat) (k : List UInt8) (w : World) (hA : Bs w A l) (hn : n = l.length) (hB : Bs w B k) (hm : m = k.length) (hmax : n ≤ 9223372036854775000) :
    Calls Tryz.prog 10 #[.slice A n c, .slice B m d] w fun e w' => e = .returned (.bool (decide (l = k))) ∧ Keeps w w' := by
  by_cases h : n = m
  · subst h
    have HN := Lib.hid hn
    have HM := Lib.hid hm
    have HA := Lib.hid hA
    have HB := Lib.hid hB
    clear hn hm hA hB
    obtain ⟨RR, hRR⟩ : ∃ RR, decide (l = k) = RR := ⟨_, rfl⟩
    rw [hRR]
    have HRR := Lib.hid hRR
    clear hRR
    go_enter Tryz.func10, Tryz.ntmps10
    go_wp2_with fail
    go_loopw [5] (fun i wr => ∃ j : Nat, j ≤ n ∧ i = .int .i64 j ∧ l.take j = k.take j ∧ Keeps w wr) (fun i _ => n - (intOf i).toNat)
    case atStart => exact ⟨0, Nat.zero_le _, rfl, rfl, keeps_refl _⟩
    case round =>
      obtain ⟨j, hj, rfl, hpre, hkp⟩ := hrel
      have HP := Lib.hid hpre
      clear hpre
      by_cases hlt : j < n
      · have hl1 : j < l.length := by have := HN.out; omega
        have hl2 : j < k.length := by have := HM.out; omega
        obtain ⟨ad, rfl, ha⟩ := (HA.out.keep hkp).at_ hl1
        obtain ⟨bd, rfl, hb⟩ := (HB.out.keep hkp).at_ hl2
        have hjn : (j : Int) < (n : Int) := by omega
        have G1 := Lib.hid (show l[j]? = some (l.getD j 0) by simp [List.getD, hl1])
        have G2 := Lib.hid (show k[j]? = some (k.getD j 0) by simp [List.getD, hl2])
        generalize l.getD j 0 = x at *
        generalize k.getD j 0 = y at *
        by_cases hv : x = y
        · have hne : ((x.toNat : Int) != (y.toNat : Int)) = false := by rw [hv]; simp
          have PN := Lib.hid (show l.take (j + 1) = k.take (j + 1) by
            rw [List.take_add_one, List.take_add_one, HP.out, G1.out, G2.out, hv])
          clear hv hl1 hl2
          go_wp2_with fail
          go_quiet (fail)
          go_wp2_with fail
          go_roundw
          case rel => exact ⟨j + 1, by omega, by go_num, PN.out, keeps_trans hkp (keeps_drewN _ _)⟩
          case measure => simp [intOf]; omega
        · have hne : ((x.toNat : Int) != (y.toNat : Int)) = true := by
            rw [bne_iff_ne]
            intro e
            exact hv (UInt8.toNat_inj.1 (by omega))
          have NO := Lib.hid (show RR = false by
            rw [← HRR.out]
            refine decide_eq_false fun e => hv ?_
            have h1 := G1.out
            rw [e, G2.out] at h1
            exact (Option.some.inj h1).symm)
          clear hv hl1 hl2
          go_wp2_with fail
          go_quiet (fail)
          go_wp2_with fail
          go_ret
          exact ⟨by rw [NO.out]; rfl, keeps_trans hkp (keeps_drewN _ _)⟩
      · obtain rfl : j = n := by omega
        have YES := Lib.hid (show RR = true by
          rw [← HRR.out]
          refine decide_eq_true ?_
          have h1 := HP.out
          have h2 : l.take j = l := by rw [HN.out, List.take_length]
          have h3 : k.take j = k := by rw [HM.out, List.take_length]
          rwa [h2, h3] at h1)
        clear hlt hj
        go_wp2_with fail
        go_ret
        exact ⟨by rw [YES.out]; rfl, hkp⟩
  · have e1 : (decide (l = k)) = false := decide_eq_false (fun e => h (by rw [hn, hm, e]))
    rw [e1]
    have h' : ((n : Int) != (m : Int)) = true := by rw [bne_iff_ne]; omega
    have HN := Lib.hid hn
    have HM := Lib.hid hm
    clear hn hm h e1 hA hB
    go_enter Tryz.func10, Tryz.ntmps10
    go_wp2_with fail
    go_ret
    exact ⟨rfl, keeps_refl _⟩
theorem info_byte : (Tryz.prog.info? 5).map (fun i => (i.zero, i.size, i.bytes)) = some (some (.int .u8 0), 1, 1) := by kernel_rfl
set_option maxHeartbeats 4000000 in
theorem twin6_any (A : Option Addr) (n c : Nat) (l : List UInt8) (w : World) (hB : Bs w A l) (hn : n = l.length) (hmax : n ≤ 20000000) :
    Calls Tryz.prog 23 #[.slice A n c] w fun e w' => ∃ v, e = .returned v ∧ Own w' w.heap.size 5 1 v l.length (cel l) ∧ Keeps w w' := by
  obtain ⟨i0, hi, hz0, hz1, hz2⟩ := info_parts info_byte
  have HN := Lib.hid hn
  have k0 := keeps_alloc w (.cells #[] 5)
  have hB2 := Lib.hid (hB.keep k0)
  have O0 := Lib.hid (show Own (w.alloc (.cells #[] 5)) w.heap.size 5 1 (.slice (some ⟨w.heap.size, 0, none⟩) 0 0) 0 [] from ⟨rfl, .inr ⟨w.heap.size, 0, #[], (0, 0), rfl, Nat.le_refl _, heap_alloc_new w _, .inl rfl, Nat.le_refl _, by simp [maxLen], rfl, rfl⟩⟩)
  clear hn hB
  go_enter Tryz.func23, Tryz.ntmps23
  go_wp2_with (at_builtin; refine wpList_app _ rfl _ _ 32 rfl w.heap.size 5 i0 (.int .u8 0) 1 1 Tryz.underlying32 hi hz0 hz1 hz2 rfl (by decide) _ 0 [] rfl O0.out _ A n c (cel l) rfl (by rw [cel_length, HN.out, Nat.mul_one]) hB2.out (cel_one l) (by unfold maxLen; omega) (by omega) (by simp) ?_; intro v2 w2 hown2 hgrow2 hblk2)
  have k2 : Keeps w w2 := Below.grown k0 hgrow2 k0.size (fun g hg => (O0.out.lt g hg).1)
  have HO := Lib.hid (show Own w2 w.heap.size 5 1 v2 l.length (cel l) by have := hown2; rw [HN.out] at this; simpa using this)
  clear hown2 hgrow2 hblk2
  go_wp2_with fail
  go_ret
  exact ⟨_, rfl, HO.out, k2⟩
end Go.Proofs.YtjfnpfojboellaaGreat
