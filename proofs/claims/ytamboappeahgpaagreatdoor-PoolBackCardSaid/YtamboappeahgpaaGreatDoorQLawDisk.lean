/- What the calls of package disk answer; the anchor of layer 6's statements. -/
import Derived.Test.YtamboappeahgpaaGreatDoorProg
import Derived.Test.YtamboappeahgpaaGreatDoorQDiskMath
import Derived.Test.YtamboappeahgpaaGreatDoorQBase
import Derived.Deep.RegionHeld3
namespace Go.Proofs.YtamboappeahgpaaGreatDoor
open Go.RowKit
set_option linter.unusedSimpArgs false
set_option linter.unusedVariables false
set_option maxRecDepth 100000

/-- What a law leaves. -/
def Yes (w : World) (e : Ending) (w' : World) : Prop := e = .returned (.bool true) ∧ Keeps w w'
def dpt (b : Nat) : Value := .pointer (some ⟨b, 0, none⟩)
def strV (l : List UInt8) : Value := .string (str l)
/-- numbers as a slice of int has them -/
def intC (l : List Int) : List Value := l.map fun x => .int .i64 x
def placeC (p : List UInt8 × Nat) : List Value := [strV p.1, .int .i64 (p.2 : Int)]
/-- files in new memory: each its name and its bytes -/
def FilesAt (w : World) (base : Nat) (v : Value) (l : List (List UInt8 × List UInt8)) : Prop :=
  ∃ vs : List Value, vs.length = l.length ∧ Own w base 88 2 v l.length ((l.zip vs).flatMap fun p => [strV p.1.1, p.2]) ∧
    ∀ (i : Nat) (b : List UInt8) (x : Value), (l[i]?).map Prod.snd = some b → vs[i]? = some x → Own w base 5 1 x b.length (cel b)
/-- What the calls of package disk answer; D: the object in block b, made of blocks F, is a disk of this state. -/
structure DiskOk where
  Z : World → Prop
  keep : ∀ {w w' : World}, Z w → Keeps w w' → Z w'
  D : World → Nat → (Nat → Prop) → Ds → Prop
  lt : ∀ {w : World} {b : Nat} {F : Nat → Prop} {s : Ds}, D w b F s → ∀ i, F i → i < w.heap.size
  same : ∀ {w w' : World} {b : Nat} {F : Nat → Prop} {s : Ds}, D w b F s → (∀ i, F i → w'.heap[i]? = w.heap[i]?) → w.heap.size ≤ w'.heap.size → D w' b F s
  ok : ∀ {w : World} {b : Nat} {F : Nat → Prop} {s : Ds}, D w b F s → DsOk s
  new : ∀ (q : Int) (w : World), Z w → -9223372036854775808 ≤ q → q ≤ 9223372036854775807 →
    Calls Tryz.prog 11 #[.int .i64 q] w fun e w' =>
      (0 ≤ q ∧ q ≤ 1048576 ∧ ∃ b F, e = .returned (.tuple #[dpt b, .int .i64 0]) ∧ D w' b F ⟨[], q.toNat, 0, false⟩ ∧ (∀ i, F i → w.heap.size ≤ i) ∧ Keeps w w') ∨
      ((q < 0 ∨ 1048576 < q) ∧ e = .returned (.tuple #[.pointer none, .int .i64 1]) ∧ Keeps w w')
  create : ∀ {w : World} {b : Nat} {F : Nat → Prop} {s : Ds} (nm : List UInt8), Z w → D w b F s → nm.length ≤ maxLen →
    Calls Tryz.prog 35 #[dpt b, strV nm] w fun e w' => e = .returned (.int .i64 ((createS s nm).2 : Int)) ∧ ∃ F', D w' b F' (createS s nm).1 ∧ Turns w w' F F'
  remove : ∀ {w : World} {b : Nat} {F : Nat → Prop} {s : Ds} (nm : List UInt8), Z w → D w b F s → nm.length ≤ maxLen →
    Calls Tryz.prog 83 #[dpt b, strV nm] w fun e w' => e = .returned (.int .i64 ((removeS s nm).2 : Int)) ∧ ∃ F', D w' b F' (removeS s nm).1 ∧ Turns w w' F F'
  write : ∀ {w : World} {b : Nat} {F : Nat → Prop} {s : Ds} (nm : List UInt8) (off : Int) (A : Option Addr) (n c : Nat) (l : List UInt8), Z w → D w b F s → nm.length ≤ maxLen → -9223372036854775808 ≤ off → off ≤ 9223372036854775807 →
    Bs w A l → (∀ ad, A = some ad → ¬ F ad.block) → n = l.length → n ≤ c → n ≤ 70000 →
    Calls Tryz.prog 86 #[dpt b, strV nm, .int .i64 off, .slice A n c] w fun e w' => e = .returned (.int .i64 ((writeS s nm off l).2 : Int)) ∧ ∃ F', D w' b F' (writeS s nm off l).1 ∧ Turns w w' F F'
  cut : ∀ {w : World} {b : Nat} {F : Nat → Prop} {s : Ds} (nm : List UInt8) (n : Int), Z w → D w b F s → nm.length ≤ maxLen → -9223372036854775808 ≤ n → n ≤ 9223372036854775807 →
    Calls Tryz.prog 92 #[dpt b, strV nm, .int .i64 n] w fun e w' => e = .returned (.int .i64 ((cutS s nm n).2 : Int)) ∧ ∃ F', D w' b F' (cutS s nm n).1 ∧ Turns w w' F F'
  sync : ∀ {w : World} {b : Nat} {F : Nat → Prop} {s : Ds} (nm : List UInt8), Z w → D w b F s → nm.length ≤ maxLen →
    Calls Tryz.prog 90 #[dpt b, strV nm] w fun e w' => e = .returned (.int .i64 ((syncS s nm).2 : Int)) ∧ ∃ F', D w' b F' (syncS s nm).1 ∧ Turns w w' F F'
  read : ∀ {w : World} {b : Nat} {F : Nat → Prop} {s : Ds} (nm : List UInt8) (off n : Int), Z w → D w b F s → nm.length ≤ maxLen → -9223372036854775808 ≤ off → off ≤ 9223372036854775807 → -9223372036854775808 ≤ n → n ≤ 9223372036854775807 →
    Calls Tryz.prog 87 #[dpt b, strV nm, .int .i64 off, .int .i64 n] w fun e w' => ∃ v, e = .returned (.tuple #[v, .int .i64 ((readS s nm off n).2 : Int)]) ∧ Own w' w.heap.size 5 1 v (readS s nm off n).1.length (cel (readS s nm off n).1) ∧ Keeps w w'
  size : ∀ {w : World} {b : Nat} {F : Nat → Prop} {s : Ds} (nm : List UInt8), Z w → D w b F s → nm.length ≤ maxLen →
    Calls Tryz.prog 89 #[dpt b, strV nm] w fun e w' => e = .returned (.tuple #[.int .i64 ((sizeS s nm).1 : Int), .int .i64 ((sizeS s nm).2 : Int)]) ∧ Keeps w w'
  names : ∀ {w : World} {b : Nat} {F : Nat → Prop} {s : Ds}, Z w → D w b F s → s.l.length ≤ 70000 →
    Calls Tryz.prog 29 #[dpt b] w fun e w' => ∃ v, e = .returned v ∧ Own w' w.heap.size 9 1 v s.l.length (s.l.map fun f => strV f.name) ∧ Keeps w w'
  used : ∀ {w : World} {b : Nat} {F : Nat → Prop} {s : Ds}, Z w → D w b F s →
    Calls Tryz.prog 164 #[dpt b] w fun e w' => e = .returned (.int .i64 (usedL s.l : Int)) ∧ Keeps w w'
  quota : ∀ {w : World} {b : Nat} {F : Nat → Prop} {s : Ds} (n : Int), Z w → D w b F s → -9223372036854775808 ≤ n → n ≤ 9223372036854775807 →
    Calls Tryz.prog 68 #[dpt b, .int .i64 n] w fun e w' => e = .returned (.int .i64 ((quotaS s n).2 : Int)) ∧ ∃ F', D w' b F' (quotaS s n).1 ∧ Turns w w' F F'
  arm : ∀ {w : World} {b : Nat} {F : Nat → Prop} {s : Ds} (n : Int), Z w → D w b F s → -9223372036854775808 ≤ n → n ≤ 9223372036854775807 →
    Calls Tryz.prog 34 #[dpt b, .int .i64 n] w fun e w' => e = .returned (.int .i64 ((armS s n).2 : Int)) ∧ ∃ F', D w' b F' (armS s n).1 ∧ Turns w w' F F'
  loose : ∀ {w : World} {b : Nat} {F : Nat → Prop} {s : Ds}, Z w → D w b F s →
    Calls Tryz.prog 31 #[dpt b] w fun e w' => ∃ v, e = .returned v ∧ Own w' w.heap.size 143 2 v (placesL s.l).length ((placesL s.l).flatMap placeC) ∧ Keeps w w'
  on : ∀ {w : World} {b : Nat} {F : Nat → Prop} {s : Ds} (A : Option Addr) (n c : Nat) (l : List Int), Z w → D w b F s → At w w.heap.size A (intC l) → (∀ ad, A = some ad → ¬ F ad.block) → n = l.length → n ≤ c → n ≤ 70000 →
    Calls Tryz.prog 36 #[dpt b, .slice A n c] w fun e w' => e = .returned (.int .i64 ((onS s l).2 : Int)) ∧ ∃ F', D w' b F' (onS s l).1 ∧ Turns w w' F F'
  flip : ∀ {w : World} {b : Nat} {F : Nat → Prop} {s : Ds} (nm : List UInt8) (i : Int) (m : UInt8), Z w → D w b F s → nm.length ≤ maxLen → -9223372036854775808 ≤ i → i ≤ 9223372036854775807 →
    Calls Tryz.prog 69 #[dpt b, strV nm, .int .i64 i, .int .u8 (m.toNat : Int)] w fun e w' => e = .returned (.int .i64 ((flipS s nm i m).2 : Int)) ∧ ∃ F', D w' b F' (flipS s nm i m).1 ∧ Turns w w' F F'
  files : ∀ {w : World} {b : Nat} {F : Nat → Prop} {s : Ds}, Z w → D w b F s → s.l.length ≤ 70000 →
    Calls Tryz.prog 17 #[dpt b] w fun e w' => ∃ v, e = .returned v ∧ FilesAt w' w.heap.size v (s.l.map fun f => (f.name, f.now)) ∧ Keeps w w'

/-- a disk that came of this call, made since w0 -/
structure Have (K : DiskOk) (w0 w : World) (b : Nat) (F : Nat → Prop) (s : Ds) : Prop where
  D : K.D w b F s
  low : ∀ i, F i → w0.heap.size ≤ i
  kp : Keeps w0 w
theorem Have.step {K : DiskOk} {w0 w w' : World} {b : Nat} {F F' : Nat → Prop} {s s' : Ds} (h : Have K w0 w b F s) (hD : K.D w' b F' s') (ht : Turns w w' F F') : Have K w0 w' b F' s' :=
  ⟨hD, fun i hi => by
    rcases ht.next i hi with h1 | h1
    · exact h.low i h1
    · exact Nat.le_trans h.kp.size h1, ht.keeps h.kp h.low⟩
theorem Have.keep {K : DiskOk} {w0 w w' : World} {b : Nat} {F : Nat → Prop} {s : Ds} (h : Have K w0 w b F s) (k : Keeps w w') : Have K w0 w' b F s :=
  ⟨K.same h.D (fun i hi => k.block i (K.lt h.D i hi)) k.size, h.low, keeps_trans h.kp k⟩
theorem Have.z {K : DiskOk} {w0 w : World} {b : Nat} {F : Nat → Prop} {s : Ds} (h : Have K w0 w b F s) (hZ : K.Z w0) : K.Z w := K.keep hZ h.kp
/-- bytes that lie elsewhere stay -/
theorem Turns.at_ {w w' : World} {F F' : Nat → Prop} {A : Option Addr} {xs : List Value} (h : Turns w w' F F') (hB : At w w.heap.size A xs) (hF : ∀ ad, A = some ad → ¬ F ad.block) : At w' w'.heap.size A xs := by
  rcases hB with h0 | ⟨ad, e, hb, hc⟩
  · exact .inl h0
  · refine .inr ⟨ad, e, Nat.lt_of_lt_of_le hb h.only.size, fun j u hu => ?_⟩
    have hc' := hc j u hu
    have e1 : w'.heap[(ad.add j).block]? = w.heap[(ad.add j).block]? := by rw [addr_block]; exact h.only.block _ hb (hF ad e)
    unfold World.cell? at hc' ⊢
    rw [e1]
    exact hc'
theorem Own.turns {w w' : World} {F F' : Nat → Prop} {base : Nat} {e : TypeId} {size : Nat} {v : Value} {n : Nat} {xs : List Value} (h : Own w base e size v n xs) (ht : Turns w w' F F') (hF : ∀ k, v.ownBlock = some k → ¬ F k) : Own w' base e size v n xs :=
  h.same fun k hk => ht.only.block k (h.lt k hk).2 (hF k hk)

set_option maxHeartbeats 4000000 in
theorem same6_any (A : Option Addr) (n c : Nat) (l : List UInt8) (B : Option Addr) (m d : Nat) (k : List UInt8) (w : World) (hA : Bs w A l) (hn : n = l.length) (hB : Bs w B k) (hm : m = k.length) (hmax : n ≤ 9223372036854775000) :
    Calls Tryz.prog 62 #[.slice A n c, .slice B m d] w fun e w' => e = .returned (.bool (decide (l = k))) ∧ Keeps w w' := by
  by_cases h : n = m
  · subst h
    have HN := Lib.hid hn
    have HM := Lib.hid hm
    have HA := Lib.hid hA
    have HB := Lib.hid hB
    clear hn hm hA hB
    obtain ⟨RR, hRR⟩ : ∃ RR, decide (l = k) = RR := ⟨_, rfl⟩
    rw [hRR]
    have HRR := Lib.hid hRR
    clear hRR
    go_enter Tryz.func62, Tryz.ntmps62
    go_wp2_with fail
    go_loopw [5] (fun i wr => ∃ j : Nat, j ≤ n ∧ i = .int .i64 j ∧ l.take j = k.take j ∧ Keeps w wr) (fun i _ => n - (intOf i).toNat)
    case atStart => exact ⟨0, Nat.zero_le _, rfl, rfl, keeps_refl _⟩
    case round =>
      obtain ⟨j, hj, rfl, hpre, hkp⟩ := hrel
      have HP := Lib.hid hpre
      clear hpre
      by_cases hlt : j < n
      · have hl1 : j < l.length := by have := HN.out; omega
        have hl2 : j < k.length := by have := HM.out; omega
        obtain ⟨ad, rfl, ha⟩ := (HA.out.keep hkp).at_ hl1
        obtain ⟨bd, rfl, hb⟩ := (HB.out.keep hkp).at_ hl2
        have hjn : (j : Int) < (n : Int) := by omega
        have G1 := Lib.hid (show l[j]? = some (l.getD j 0) by simp [List.getD, hl1])
        have G2 := Lib.hid (show k[j]? = some (k.getD j 0) by simp [List.getD, hl2])
        generalize l.getD j 0 = x at *
        generalize k.getD j 0 = y at *
        by_cases hv : x = y
        · have hne : ((x.toNat : Int) != (y.toNat : Int)) = false := by rw [hv]; simp
          have PN := Lib.hid (show l.take (j + 1) = k.take (j + 1) by
            rw [List.take_add_one, List.take_add_one, HP.out, G1.out, G2.out, hv])
          clear hv hl1 hl2
          go_wp2_with fail
          go_quiet (fail)
          go_wp2_with fail
          go_roundw
          case rel => exact ⟨j + 1, by omega, by go_num, PN.out, keeps_trans hkp (keeps_drewN _ _)⟩
          case measure => simp [intOf]; omega
        · have hne : ((x.toNat : Int) != (y.toNat : Int)) = true := by
            rw [bne_iff_ne]
            intro e
            exact hv (UInt8.toNat_inj.1 (by omega))
          have NO := Lib.hid (show RR = false by
            rw [← HRR.out]
            refine decide_eq_false fun e => hv ?_
            have h1 := G1.out
            rw [e, G2.out] at h1
            exact (Option.some.inj h1).symm)
          clear hv hl1 hl2
          go_wp2_with fail
          go_quiet (fail)
          go_wp2_with fail
          go_ret
          exact ⟨by rw [NO.out]; rfl, keeps_trans hkp (keeps_drewN _ _)⟩
      · obtain rfl : j = n := by omega
        have YES := Lib.hid (show RR = true by
          rw [← HRR.out]
          refine decide_eq_true ?_
          have h1 := HP.out
          have h2 : l.take j = l := by rw [HN.out, List.take_length]
          have h3 : k.take j = k := by rw [HM.out, List.take_length]
          rwa [h2, h3] at h1)
        clear hlt hj
        go_wp2_with fail
        go_ret
        exact ⟨by rw [YES.out]; rfl, hkp⟩
  · have e1 : (decide (l = k)) = false := decide_eq_false (fun e => h (by rw [hn, hm, e]))
    rw [e1]
    have h' : ((n : Int) != (m : Int)) = true := by rw [bne_iff_ne]; omega
    have HN := Lib.hid hn
    have HM := Lib.hid hm
    clear hn hm h e1 hA hB
    go_enter Tryz.func62, Tryz.ntmps62
    go_wp2_with fail
    go_ret
    exact ⟨rfl, keeps_refl _⟩
theorem info_byte : (Tryz.prog.info? 5).map (fun i => (i.zero, i.size, i.bytes)) = some (some (.int .u8 0), 1, 1) := by kernel_rfl
end Go.Proofs.YtamboappeahgpaaGreatDoor
/- Something is done with a disk: the contract of the law's own 'does', kind by kind. -/
namespace Go.Proofs.YtamboappeahgpaaGreatDoor
open Go.RowKit
set_option linter.unusedSimpArgs false
set_option linter.unusedVariables false
set_option maxRecDepth 100000

theorem Turns.notIn {w w' : World} {S S' : Nat → Prop} (t : Turns w w' S S') {b : Nat} (hb : b < w.heap.size) (h : ¬ S b) : ¬ S' b := fun e => by
  rcases t.next b e with h1 | h1
  · exact h h1
  · omega
theorem Box.turned {w w' : World} {S S' : Nat → Prop} {b : Nat} {T : TypeId} {cs : Array Value} (B : Box w b T cs) (t : Turns w w' S S') (h : ¬ S b) : Box w' b T cs := (t.only.block b B.lt h).trans B
theorem Only.weak {w w' : World} {S T : Nat → Prop} (h : Only w w' S) (hT : ∀ i, S i → T i) : Only w w' T := ⟨h.os, h.tape, h.output, h.size, fun i hi hn => h.block i hi (fun e => hn (hT i e))⟩
theorem Only.cell1 (w : World) (p : Addr) (u : Value) : Only w (w.setCell p u) (fun c => c = p.block) := ⟨rfl, rfl, rfl, by simp, fun k _ hn => Below.heap_setCell w p u k hn⟩
/-- what is done within, where new blocks are laid around it and turned -/
theorem Turns.wrap {w W w1 w2 : World} {F F' : Nat → Prop} (h : Turns W w1 F F') (k : Keeps w W) (hF : ∀ i, F i → i < w.heap.size) (o : Only w1 w2 (fun i => w.heap.size ≤ i)) : Turns w w2 F F' :=
  ⟨(((Only.of_keeps k).weak (T := F) (fun _ e => e.elim)).trans h.only (fun i hi => .inl hi)).trans o (fun i hi => .inr hi), fun i hi => by
    rcases h.next i hi with h1 | h1
    · exact .inl h1
    · exact .inr (Nat.le_trans k.size h1)⟩

/-- what is handed in with it, where it lies -/
structure OpS where
  x : Opx
  A : Option Addr
  len : Nat
  c : Nat
  A2 : Option Addr
  len2 : Nat
  c2 : Nat
def opA (o : OpS) : Array Value := #[.int .i64 o.x.kind, strV o.x.name, strV o.x.to, .int .i64 o.x.off, .int .i64 o.x.n, .slice o.A o.len o.c, .int .u8 (o.x.mask.toNat : Int), .slice o.A2 o.len2 o.c2]
def IsI (x : Int) : Prop := -9223372036854775808 ≤ x ∧ x ≤ 9223372036854775807
structure OpOk (W : World) (o : OpS) : Prop where
  kind : IsI o.x.kind
  nm : o.x.name.length ≤ maxLen
  to : o.x.to.length ≤ maxLen
  off : IsI o.x.off
  n : IsI o.x.n
  len : o.len = o.x.b.length
  c : o.len ≤ o.c
  m : o.c ≤ maxLen
  b : At W W.heap.size o.A (cel o.x.b)
  len2 : o.len2 = o.x.keep.length
  c2 : o.len2 ≤ o.c2
  m2 : o.c2 ≤ maxLen
  keep : At W W.heap.size o.A2 (intC o.x.keep)
/-- what was done, and answered -/
def DoneV (K : DiskOk) (w : World) (b : Nat) (F : Nat → Prop) (s : Ds) (o : Opx) (e : Ending) (w' : World) : Prop :=
  ∃ v F', e = .returned (.tuple #[.agg #[v, .int .i64 ((doS s o).2.n : Int), .int .i64 ((doS s o).2.e : Int)], .bool true]) ∧ Own w' w.heap.size 5 1 v (doS s o).2.b.length (cel (doS s o).2.b) ∧
    K.D w' b F' (doS s o).1 ∧ Turns w w' F F' ∧ (∀ k, v.ownBlock = some k → ¬ F' k)
/-- the end of it, where a number and an error are told -/
theorem done_close {K : DiskOk} {w W w1 w2 : World} {b : Nat} {F F' : Nat → Prop} {s : Ds} {o : Opx} {v : Value} (hb : (doS s o).2.b = [])
    (hD : K.D w1 b F' (doS s o).1) (hT : Turns W w1 F F') (k : Keeps w W) (hF : ∀ i, F i → i < w.heap.size) (ho : Only w1 w2 (fun i => w.heap.size ≤ i ∧ i < W.heap.size))
    (he : Ending.returned v = .returned (.tuple #[.agg #[.slice none 0 0, .int .i64 ((doS s o).2.n : Int), .int .i64 ((doS s o).2.e : Int)], .bool true])) : DoneV K w b F s o (.returned v) w2 := by
  refine ⟨.slice none 0 0, F', he, ?_, K.same hD (fun i hi => ho.block i (K.lt hD i hi) (fun h => ?_)) ho.size, hT.wrap k hF (ho.weak (fun i h => h.1)), fun k hk => by simp [Value.ownBlock] at hk⟩
  · rw [hb]
    exact Own.nil _ _ _ _
  · exact (hT.notIn h.2 (fun e => by have := hF i e; omega)) hi
theorem only_xt (w1 : World) (B S : Nat) (ps : List (Addr × Value)) (h : ∀ p ∈ ps, B ≤ p.1.block ∧ p.1.block < S) : Only w1 (ps.foldl (fun w p => w.setCell p.1 p.2) w1) (fun i => B ≤ i ∧ i < S) := by
  induction ps generalizing w1 with
  | nil => exact Only.refl _ _
  | cons p ps ih =>
    refine ((Only.cell1 w1 p.1 p.2).weak (T := fun i => B ≤ i ∧ i < S) (fun i e => by rw [e]; exact h p (by simp))).trans (ih _ (fun q hq => h q (by simp [hq]))) (fun i hi => .inl hi)

theorem size_turn (K : DiskOk) {w : World} {b : Nat} {F : Nat → Prop} {s : Ds} (nm : List UInt8) (hZ : K.Z w) (hD : K.D w b F s) (hnm : nm.length ≤ maxLen) :
    Calls Tryz.prog 89 #[dpt b, strV nm] w fun e w2 => e = .returned (.tuple #[.int .i64 ((sizeS s nm).1 : Int), .int .i64 ((sizeS s nm).2 : Int)]) ∧ ∃ F1, K.D w2 b F1 s ∧ Turns w w2 F F1 :=
  (K.size nm hZ hD hnm).mono fun e w2 q => ⟨q.1, F, K.same hD (fun i hi => q.2.block i (K.lt hD i hi)) q.2.size, Turns.of_keeps q.2⟩
theorem keeps_alloc3 (w : World) (x y z : Obj) : Keeps w (((w.alloc x).alloc y).alloc z) := keeps_trans (keeps_trans (keeps_alloc _ _) (keeps_alloc _ _)) (keeps_alloc _ _)
theorem box_second (w : World) (x : Obj) (T : TypeId) (cs : Array Value) (z : Obj) : Box (((w.alloc x).alloc (.cells cs T)).alloc z) (w.heap.size + 1) T cs := by
  have := (Box.new (w.alloc x) T cs).keep (keeps_alloc _ z)
  simpa using this
theorem box_third3 (w : World) (x y : Obj) (T : TypeId) (cs : Array Value) : Box (((w.alloc x).alloc y).alloc (.cells cs T)) (w.heap.size + 1 + 1) T cs := by
  have := Box.new ((w.alloc x).alloc y) T cs
  simpa using this

end Go.Proofs.YtamboappeahgpaaGreatDoor
/- Something is done with a disk: bytes are written, read, the power comes back; the contract of 'does'. -/
namespace Go.Proofs.YtamboappeahgpaaGreatDoor
open Go.RowKit
set_option linter.unusedSimpArgs false
set_option linter.unusedVariables false
set_option maxRecDepth 100000

theorem info_int : (Tryz.prog.info? 3).map (fun i => (i.zero, i.size, i.bytes)) = some (some (.int .i64 0), 1, 8) := by kernel_rfl
theorem intC_length (l : List Int) : (intC l).length = l.length := by simp [intC]
theorem intC_one (l : List Int) : ∀ u ∈ intC l, u.oneCell' = true := by
  intro u hu
  obtain ⟨_, _, rfl⟩ := List.mem_map.1 hu
  rfl
/-- what was handed in lies below all that the call has made -/
theorem At.low {w0 w : World} {A : Option Addr} {xs : List Value} (h : At w0 w0.heap.size A xs) (k : Keeps w0 w) : At w w.heap.size A xs := (At.keep h k).more k.size
theorem At.notIn {w0 : World} {A : Option Addr} {xs : List Value} {F : Nat → Prop} (h : At w0 w0.heap.size A xs) (hF : ∀ i, F i → w0.heap.size ≤ i) : xs ≠ [] → ∀ ad, A = some ad → ¬ F ad.block := by
  intro hx ad hA hf
  rcases h with h | ⟨ad', e, hb, -⟩
  · exact hx h
  · obtain rfl := Option.some.inj (hA.symm.trans e)
    have := hF _ hf
    omega
/-- the end of it, whatever was answered -/
theorem done_close2 {K : DiskOk} {w W w1 w2 : World} {b : Nat} {F F' : Nat → Prop} {s : Ds} {o : Opx} {v x : Value}
    (hD : K.D w1 b F' (doS s o).1) (hT : Turns W w1 F F') (k : Keeps w W) (hF : ∀ i, F i → i < w.heap.size) (ho : Only w1 w2 (fun i => w.heap.size ≤ i ∧ ¬ F' i)) (hO : Own w2 w.heap.size 5 1 x (doS s o).2.b.length (cel (doS s o).2.b))
    (hx : ∀ k, x.ownBlock = some k → ¬ F' k)
    (he : Ending.returned v = .returned (.tuple #[.agg #[x, .int .i64 ((doS s o).2.n : Int), .int .i64 ((doS s o).2.e : Int)], .bool true])) : DoneV K w b F s o (.returned v) w2 :=
  ⟨x, F', he, hO, K.same hD (fun i hi => ho.block i (K.lt hD i hi) (fun h => h.2 hi)) ho.size, hT.wrap k hF (ho.weak (fun i h => h.1)), hx⟩

theorem Own.only_ {w w' : World} {S : Nat → Prop} {base : Nat} {e : TypeId} {size : Nat} {v : Value} {n : Nat} {xs : List Value} (h : Own w base e size v n xs) (ho : Only w w' S) (hS : ∀ k, v.ownBlock = some k → ¬ S k) : Own w' base e size v n xs :=
  h.same fun k hk => ho.block k (h.lt k hk).2 (hS k hk)
theorem Box.only_ {w w' : World} {S : Nat → Prop} {b : Nat} {T : TypeId} {cs : Array Value} (h : Box w b T cs) (ho : Only w w' S) (hS : ¬ S b) : Box w' b T cs := (ho.block b h.lt hS).trans h
/-- a row is written over, one place after the other -/
structure Over (w3 wr : World) (base : Nat) (v : Value) (n : Nat) : Prop where
  own : ∃ xs, Own wr base 5 1 v n xs
  only : Only w3 wr (fun c => v.ownBlock = some c)
theorem Over.start {w : World} {base : Nat} {v : Value} {n : Nat} {xs : List Value} (h : Own w base 5 1 v n xs) : Over w w base v n := ⟨⟨xs, h⟩, Only.refl _ _⟩
theorem Over.cell {w3 wr : World} {base : Nat} {A : Option Addr} {n c j : Nat} (h : Over w3 wr base (.slice A n c) n) (hj : j < n) : ∃ g u, A = some ⟨g, 0, none⟩ ∧ wr.cell? ⟨g, j, none⟩ = some u ∧ wr.frozen? ⟨g, j, none⟩ = false := by
  obtain ⟨xs, hx⟩ := h.own
  have hl : xs.length = n := by have := hx.1; omega
  obtain ⟨g, hA, hc, hf, -⟩ := hx.cell (j := j) (by omega)
  exact ⟨g, xs[j]'(by omega), hA, by rw [hc, List.getElem?_eq_getElem (by omega)], hf⟩
theorem Over.put {w3 wr : World} {base g n c j : Nat} (h : Over w3 wr base (.slice (some ⟨g, 0, none⟩) n c) n) (hj : j < n) (u : Value) : Over w3 (wr.setCell ⟨g, j, none⟩ u) base (.slice (some ⟨g, 0, none⟩) n c) n := by
  obtain ⟨xs, hx⟩ := h.own
  have hl : xs.length = n := by have := hx.1; omega
  exact ⟨⟨_, hx.store (j := j) (by omega) u⟩, h.only.trans ((Only.cell1 wr ⟨g, j, none⟩ u).weak (T := fun c' => (Value.slice (some ⟨g, 0, none⟩) n c).ownBlock = some c') (fun i e => by simp [Value.ownBlock, e])) (fun i hi => .inl hi)⟩
theorem box_first3 (w : World) (cs : Array Value) (T : TypeId) (y z : Obj) : Box (((w.alloc (.cells cs T)).alloc y).alloc z) w.heap.size T cs := ((Box.new w T cs).keep (keeps_alloc _ y)).keep (keeps_alloc _ z)
theorem readS_len {s : Ds} (h : DsOk s) (nm : List UInt8) (off n : Int) : (readS s nm off n).1.length ≤ 16777216 := by
  unfold readS
  split
  · simp
  · split
    · simp
    · split
      · simp
      · rename_i f hf
        have := (h.files f (List.mem_of_find?_eq_some hf)).size
        simp only [List.length_take, List.length_drop]
        omega
end Go.Proofs.YtamboappeahgpaaGreatDoor
/- The anchor of layer 6's statements. -/
namespace Go.Proofs.YtamboappeahgpaaGreatDoor
open Go.RowKit
set_option linter.unusedSimpArgs false
set_option linter.unusedVariables false
set_option maxRecDepth 100000

def wk1 : Ds := (createS ⟨[], 4, 0, false⟩ [97]).1
def wk2 : Ds := (writeS wk1 [97] 0 [7, 8]).1
def wk3 : Ds := (syncS wk2 [97]).1
theorem wk_a : (createS ⟨[], 4, 0, false⟩ [97]).2 = 0 := by decide
theorem wk_b : (writeS wk1 [97] 0 [7, 8]).2 = 0 := by decide
theorem wk_c : (syncS wk2 [97]).2 = 0 := by decide
theorem wk_d : readS wk3 [97] 1 9 = ([8], 0) := by decide
theorem wk_e : usedL wk3.l = 1 := by decide
theorem strA : strV [97] = .string (ByteArray.mk #[97]) := rfl
end Go.Proofs.YtamboappeahgpaaGreatDoor
/- One call of a disk behind the other: what is known before and behind each. -/
namespace Go.Proofs.YtamboappeahgpaaGreatDoor
open Go.RowKit
set_option linter.unusedSimpArgs false
set_option linter.unusedVariables false
set_option maxRecDepth 100000

section
variable {K : DiskOk} {w0 w : World} {b : Nat} {F : Nat → Prop} {s : Ds}
def Went (K : DiskOk) (w0 : World) (b : Nat) (s' : Ds) (E : Nat) (e : Ending) (w' : World) : Prop := e = .returned (.int .i64 (E : Int)) ∧ ∃ F', Have K w0 w' b F' s'
theorem Went.of {F' : Nat → Prop} {w' : World} {e : Ending} {s' : Ds} {E : Nat} (h : Have K w0 w b F s) (he : e = .returned (.int .i64 (E : Int))) (hD : K.D w' b F' s') (ht : Turns w w' F F') : Went K w0 b s' E e w' := ⟨he, F', h.step hD ht⟩
theorem Have.create_ (h : Have K w0 w b F s) (hZ : K.Z w0) (nm : List UInt8) (sv : ByteArray) (hv : sv = str nm) {s' : Ds} {E : Nat} (hs : createS s nm = (s', E)) (hnm : nm.length ≤ maxLen := by decide) :
    Calls Tryz.prog 35 #[.pointer (some ⟨b, 0, none⟩), .string sv] w (Went K w0 b s' E) := by
  subst hv
  have := K.create nm (h.z hZ) h.D hnm
  rw [hs] at this
  exact this.mono fun e w' q => by obtain ⟨he, F', hD, ht⟩ := q; exact Went.of h he hD ht
theorem Have.remove_ (h : Have K w0 w b F s) (hZ : K.Z w0) (nm : List UInt8) (sv : ByteArray) (hv : sv = str nm) {s' : Ds} {E : Nat} (hs : removeS s nm = (s', E)) (hnm : nm.length ≤ maxLen := by decide) :
    Calls Tryz.prog 83 #[.pointer (some ⟨b, 0, none⟩), .string sv] w (Went K w0 b s' E) := by
  subst hv
  have := K.remove nm (h.z hZ) h.D hnm
  rw [hs] at this
  exact this.mono fun e w' q => by obtain ⟨he, F', hD, ht⟩ := q; exact Went.of h he hD ht
theorem Have.sync_ (h : Have K w0 w b F s) (hZ : K.Z w0) (nm : List UInt8) (sv : ByteArray) (hv : sv = str nm) {s' : Ds} {E : Nat} (hs : syncS s nm = (s', E)) (hnm : nm.length ≤ maxLen := by decide) :
    Calls Tryz.prog 90 #[.pointer (some ⟨b, 0, none⟩), .string sv] w (Went K w0 b s' E) := by
  subst hv
  have := K.sync nm (h.z hZ) h.D hnm
  rw [hs] at this
  exact this.mono fun e w' q => by obtain ⟨he, F', hD, ht⟩ := q; exact Went.of h he hD ht
theorem Have.cut_ (h : Have K w0 w b F s) (hZ : K.Z w0) (nm : List UInt8) (n : Int) (hn : IsI n) (sv : ByteArray) (hv : sv = str nm) {s' : Ds} {E : Nat} (hs : cutS s nm n = (s', E)) (hnm : nm.length ≤ maxLen := by decide) :
    Calls Tryz.prog 92 #[.pointer (some ⟨b, 0, none⟩), .string sv, .int .i64 n] w (Went K w0 b s' E) := by
  subst hv
  have := K.cut nm n (h.z hZ) h.D hnm hn.1 hn.2
  rw [hs] at this
  exact this.mono fun e w' q => by obtain ⟨he, F', hD, ht⟩ := q; exact Went.of h he hD ht
theorem Have.arm_ (h : Have K w0 w b F s) (hZ : K.Z w0) (n : Int) (hn : IsI n) {s' : Ds} {E : Nat} (hs : armS s n = (s', E)) :
    Calls Tryz.prog 34 #[.pointer (some ⟨b, 0, none⟩), .int .i64 n] w (Went K w0 b s' E) := by
  have := K.arm n (h.z hZ) h.D hn.1 hn.2
  rw [hs] at this
  exact this.mono fun e w' q => by obtain ⟨he, F', hD, ht⟩ := q; exact Went.of h he hD ht
/-- bytes that the call itself has laid are written -/
theorem Have.write_ (h : Have K w0 w b F s) (hZ : K.Z w0) (nm : List UInt8) (off : Int) (hn : IsI off) (sv : ByteArray) (hv : sv = str nm) {W : World} {A : Option Addr} {c n : Nat} {l : List UInt8} (hO : Own W w.heap.size 5 1 (.slice A n c) n (cel l)) (hl : n = l.length) (hk : Keeps w W) (hm : n ≤ 70000) {s' : Ds} {E : Nat} (hs : writeS s nm off l = (s', E)) (hnm : nm.length ≤ maxLen := by decide) :
    Calls Tryz.prog 86 #[.pointer (some ⟨b, 0, none⟩), .string sv, .int .i64 off, .slice A n c] W (Went K w0 b s' E) := by
  subst hv
  have h2 := h.keep hk
  obtain ⟨A', c', hv, hc, -, -, hb⟩ := hO.form
  injection hv with h3 h4 h5
  subst h3
  subst h5
  have := K.write nm off A n c l (h2.z hZ) h2.D hnm hn.1 hn.2 hO.at_ (fun ad ha hf => by have h6 := (hb ad ha).2.1; have h7 := K.lt h.D _ hf; omega) hl hc hm
  rw [hs] at this
  exact this.mono fun e w' q => by obtain ⟨he, F', hD, ht⟩ := q; exact Went.of h2 he hD ht
/-- the power comes back; what stays lies in a slice that was handed in, or is the call's own -/
theorem Have.on_ (h : Have K w0 w b F s) (hZ : K.Z w0) (A : Option Addr) (n c : Nat) (l : List Int) (hB : At w w.heap.size A (intC l)) (hF : ∀ ad, A = some ad → ¬ F ad.block) (hn : n = l.length) (hc : n ≤ c) (hm : n ≤ 70000) {s' : Ds} {E : Nat} (hs : onS s l = (s', E)) :
    Calls Tryz.prog 36 #[.pointer (some ⟨b, 0, none⟩), .slice A n c] w (Went K w0 b s' E) := by
  have := K.on A n c l (h.z hZ) h.D hB hF hn hc hm
  rw [hs] at this
  exact this.mono fun e w' q => by obtain ⟨he, F', hD, ht⟩ := q; exact Went.of h he hD ht
def WentR (K : DiskOk) (w0 w : World) (b : Nat) (F : Nat → Prop) (s : Ds) (l : List UInt8) (E : Nat) (e : Ending) (w' : World) : Prop := ∃ A c, e = .returned (.tuple #[.slice A l.length c, .int .i64 (E : Int)]) ∧ l.length ≤ c ∧ Own w' w.heap.size 5 1 (.slice A l.length c) l.length (cel l) ∧ Have K w0 w' b F s ∧ Keeps w w'
theorem Have.read_ (h : Have K w0 w b F s) (hZ : K.Z w0) (nm : List UInt8) (off n : Int) (hoff : IsI off) (hn : IsI n) (sv : ByteArray) (hv : sv = str nm) {l : List UInt8} {E : Nat} (hs : readS s nm off n = (l, E)) (hnm : nm.length ≤ maxLen := by decide) :
    Calls Tryz.prog 87 #[.pointer (some ⟨b, 0, none⟩), .string sv, .int .i64 off, .int .i64 n] w (WentR K w0 w b F s l E) := by
  subst hv
  have := K.read nm off n (h.z hZ) h.D hnm hoff.1 hoff.2 hn.1 hn.2
  rw [hs] at this
  exact this.mono fun e w' q => by
    obtain ⟨v, he, ho, hk⟩ := q
    obtain ⟨A, c, rfl, hc, -⟩ := ho.form
    exact ⟨A, c, he, hc, ho, h.keep hk, hk⟩
theorem Have.size_ (h : Have K w0 w b F s) (hZ : K.Z w0) (nm : List UInt8) (sv : ByteArray) (hv : sv = str nm) {n E : Nat} (hs : sizeS s nm = (n, E)) (hnm : nm.length ≤ maxLen := by decide) :
    Calls Tryz.prog 89 #[.pointer (some ⟨b, 0, none⟩), .string sv] w fun e w' => e = .returned (.tuple #[.int .i64 (n : Int), .int .i64 (E : Int)]) ∧ Have K w0 w' b F s ∧ Keeps w w' := by
  subst hv
  have := K.size nm (h.z hZ) h.D hnm
  rw [hs] at this
  exact this.mono fun e w' q => ⟨q.1, h.keep q.2, q.2⟩
/-- a new one of 4096 sectors -/
theorem new_ (K : DiskOk) (w : World) (hZ : K.Z w) : Calls Tryz.prog 11 #[.int .i64 4096] w fun e w' => ∃ b F, e = .returned (.tuple #[.pointer (some ⟨b, 0, none⟩), .int .i64 0]) ∧ Have K w w' b F ⟨[], 4096, 0, false⟩ := by
  refine (K.new 4096 w hZ (by decide) (by decide)).mono ?_
  rintro e w' (⟨-, -, b, F, rfl, hD, hF, k⟩ | ⟨h, -⟩)
  · exact ⟨b, F, rfl, hD, hF, k⟩
  · exfalso; omega
end
end Go.Proofs.YtamboappeahgpaaGreatDoor
