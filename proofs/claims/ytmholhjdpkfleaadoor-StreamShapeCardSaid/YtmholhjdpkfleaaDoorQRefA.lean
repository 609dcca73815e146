/- The contracts of package milepostref00: lists that say the same, lists in new memory, guards. -/
import Derived.Test.YtmholhjdpkfleaaDoorQBase
import Derived.Test.YtmholhjdpkfleaaDoorProg
import Derived.Deep.RegionHeld3
namespace Go.Proofs.YtmholhjdpkfleaaDoor
open Go.RowKit
set_option linter.unusedSimpArgs false
set_option linter.unusedVariables false
set_option maxRecDepth 100000

theorem convTo (W : World) (A : Option Addr) (l : List UInt8) (n cap : Nat) (hn : n = l.length) (h : Bs W A l) : (convert 31 9 (.slice A n cap)).run Tryd.prog W = .ok (.string (str l)) W :=
  run_str W 31 5 9 Tryd.underlying31 Tryd.underlying5 Tryd.underlying9 A l n cap hn h
theorem convFrom (W : World) (s : ByteArray) : (convert 9 31 (.string s)).run Tryd.prog W = .ok (.slice (some ⟨W.heap.size, 0, none⟩) s.size (grownCap W s.size 0 5)) (Lib.bytesWorld W 5 s) :=
  Lib.run_convert_string_bytes W 9 31 5 s Tryd.underlying9 Tryd.underlying31 Tryd.underlying5

theorem bytesWorld_keeps (w : World) (e : TypeId) (s : ByteArray) : Keeps w (Lib.bytesWorld w e s) :=
  ⟨by simp [Lib.bytesWorld, World.freeze, World.alloc, World.drew, -World.alloc_eq, -World.drew_eq], by simp [Lib.bytesWorld, World.freeze, World.alloc, World.drew, -World.alloc_eq, -World.drew_eq], by simp [Lib.bytesWorld, World.freeze, World.alloc, World.drew, -World.alloc_eq, -World.drew_eq], by rw [Lib.bytesWorld_size]; omega, fun k hk => Lib.bytesWorld_at_old w e s k hk⟩
theorem bytesWorld_own (w : World) (e : TypeId) (l : List UInt8) (hl : l.length ≤ maxLen) : Own (Lib.bytesWorld w e (str l)) w.heap.size e 1 (.slice (some ⟨w.heap.size, 0, none⟩) l.length (grownCap w l.length 0 e)) l.length (cel l) := by
  have hge := grownCap_ge w l.length 0 e
  have hs : (Lib.bytesCells w e (str l)).size = grownCap w l.length 0 e := by
    simp only [Lib.bytesCells, Array.size_append, Array.size_map, Array.size_replicate]
    have e1 : (str l).data.size = l.length := by simp [str]
    rw [e1, str_size]
    omega
  refine ⟨by simp [cel_length], .inr ⟨w.heap.size, _, _, _, rfl, Nat.le_refl _, Lib.bytesWorld_at_new w e (str l), .inr (Nat.le_refl _), hge, grownCap_le_maxLen w l.length 0 e hl, by rw [hs, Nat.mul_one], ?_⟩⟩
  simp only [Lib.bytesCells, Array.toList_append, Array.toList_map, Nat.mul_one]
  have e2 : (List.map (fun b : UInt8 => Value.int .u8 b.toNat) (str l).data.toList) = cel l := by rw [str_data]; rfl
  rw [e2, ← cel_length l]
  exact List.take_left

/-- Bytes in new memory. -/
def New (w : World) (l : List UInt8) (e : Ending) (w' : World) : Prop :=
  ∃ v', e = .returned v' ∧ Own w' w.heap.size 5 1 v' l.length (cel l) ∧ Keeps w w'

set_option maxHeartbeats 400000 in
theorem copyBytes_any (A : Option Addr) (n c : Nat) (l : List UInt8) (w : World) (hB : Bs w A l) (hn : n = l.length) (hlen : n ≤ maxLen) :
    Calls Tryd.prog 19 #[.slice A n c] w (New w l) := by
  have hl' : l.length ≤ 9223372036854775807 := by unfold maxLen at hlen; omega
  by_cases h0 : l.length = 0
  · obtain rfl := List.eq_nil_of_length_eq_zero h0
    obtain rfl : n = 0 := hn
    go_enter Tryd.func19, Tryd.ntmps19
    go_wp2
    go_ret
    exact ⟨_, rfl, Own.nil _ _ _ _, keeps_refl _⟩
  · have h1 : ((n : Int) == 0) = false := by simp; omega
    have k1 := convTo w A l n c hn hB
    have k2 := convFrom w (str l)
    have hlen' : l.length ≤ maxLen := by omega
    have HN := Lib.hid hn
    clear hn h0
    go_enter Tryd.func19, Tryd.ntmps19
    go_wp2
    go_ret
    refine ⟨_, rfl, ?_, bytesWorld_keeps _ _ _⟩
    have o := bytesWorld_own w 5 l hlen'
    rw [← str_size l] at o
    rw [← str_size l]
    exact o

set_option maxHeartbeats 400000 in
theorem eqBytes_any (A : Option Addr) (n c : Nat) (l : List UInt8) (B : Option Addr) (m d : Nat) (k : List UInt8) (w : World) (hA : Bs w A l) (hn : n = l.length) (hB : Bs w B k) (hm : m = k.length) :
    Calls Tryd.prog 11 #[.slice A n c, .slice B m d] w fun e w' => e = .returned (.bool (decide (l = k))) ∧ w = w' := by
  have k1 := convTo w A l n c hn hA
  have k2 := convTo w B k m d hm hB
  by_cases h : n = m
  · subst h
    have e1 : (decide (l = k)) = ((str l).toList == (str k).toList) := by
      rw [str_toList, str_toList]
      by_cases e : l = k <;> simp [e]
    rw [e1]
    have HN := Lib.hid hn
    have HM := Lib.hid hm
    clear hn hm e1
    go_enter Tryd.func11, Tryd.ntmps11
    go_wp2
    go_ret
    exact ⟨rfl, rfl⟩
  · have e1 : (decide (l = k)) = false := decide_eq_false (fun e => h (by rw [hn, hm, e]))
    rw [e1]
    have h' : ((n : Int) == (m : Int)) = false := by simp; omega
    have HN := Lib.hid hn
    have HM := Lib.hid hm
    clear hn hm h e1
    go_enter Tryd.func11, Tryd.ntmps11
    go_wp2
    go_ret
    exact ⟨rfl, rfl⟩

def gd : List UInt8 := [0xd1, 0x0e, 0xa5, 0x5a, 0x77, 0xfe, 0x13]
/-- A list with the guard behind it, in one memory. -/
structure Room (w w' : World) (l : List UInt8) (ad : Addr) (cap : Nat) : Prop where
  bytes : Bs w' (some ad) (l ++ gd)
  fits : l.length + 7 ≤ cap
  max : cap ≤ maxLen
  new : w.heap.size ≤ ad.block
  kept : Keeps w w'
def Roomed (w : World) (l : List UInt8) (e : Ending) (w' : World) : Prop := ∃ ad cap, e = .returned (.slice (some ad) l.length cap) ∧ Room w w' l ad cap

theorem str_append (l m : List UInt8) : (str l) ++ (str m) = str (l ++ m) := by
  apply ByteArray.ext
  simp [str]

end Go.Proofs.YtmholhjdpkfleaaDoor
/- The contract of milepostref00.Apart: lists of bytes, each in a row of its own, do not reach one another. -/
namespace Go.Proofs.YtmholhjdpkfleaaDoor
open Go.RowKit
set_option linter.unusedSimpArgs false
set_option linter.unusedVariables false
set_option maxRecDepth 100000

theorem info_str : (Tryd.prog.info? 9).map (fun i => (i.zero, i.size, i.bytes)) = some (some (.string ByteArray.empty), 1, 16) := by kernel_rfl
theorem info_lst : (Tryd.prog.info? 31).map (fun i => (i.zero, i.size, i.bytes)) = some (some (.slice none 0 0), 1, 24) := by kernel_rfl
theorem infoA_u8 : (Tryd.prog.info? 5).map (fun i => (i.zero, i.size, i.bytes)) = some (some (.int .u8 0), 1, 1) := by kernel_rfl

/-- texts as cells -/
def strs (L : List (List UInt8)) : List Value := L.map fun l => .string (str l)
theorem strs_length (L : List (List UInt8)) : (strs L).length = L.length := by simp [strs]
theorem strs_one (L : List (List UInt8)) : ∀ u ∈ strs L, u.oneCell' = true := by
  intro u hu
  obtain ⟨_, _, rfl⟩ := List.mem_map.1 hu
  rfl

/-- Lists of bytes, each a row of the call's own: values, and what they hold. -/
abbrev Rs := List (Value × List UInt8)
def Lists (w : World) (base : Nat) (R : Rs) : Prop := ∀ (j : Nat) (p : Value × List UInt8), R[j]? = some p → Own w base 5 1 p.1 p.2.length (cel p.2)
def Parted (R : Rs) : Prop := ∀ (i j : Nat) (p q : Value × List UInt8), i ≠ j → R[i]? = some p → R[j]? = some q → p.1.ownBlock = none ∨ p.1.ownBlock ≠ q.1.ownBlock
theorem Lists.keep {w w' : World} {base : Nat} {R : Rs} (h : Lists w base R) (k : Keeps w w') : Lists w' base R := fun j p hp => (h j p hp).keep k

/-- What texts leaves. -/
def Texts (w : World) (L : List (List UInt8)) (e : Ending) (w' : World) : Prop :=
  ∃ v', e = .returned v' ∧ Own w' w.heap.size 9 1 v' L.length (strs L) ∧ Keeps w w'

/-! ### two lists of texts that say the same -/
/-! ### a list made longer -/
def Longer (w : World) (base : Nat) (v : Value) (l : List UInt8) (b : UInt8) (e : Ending) (w' : World) : Prop :=
  ∃ u, e = .returned u ∧ Own w' base 5 1 u (l.length + 40) (cel (l ++ List.replicate 40 b)) ∧ Own w' base 5 1 v l.length (cel l) ∧ Onto w v.ownBlock w' u

def InR (R : Rs) (g : Nat) : Prop := ∃ (j : Nat) (p : Value × List UInt8), R[j]? = some p ∧ p.1.ownBlock = some g

/-- the lists of loop 1: each with 40 bytes of its own kind behind it -/
def rep (j : Nat) : List UInt8 := List.replicate 40 (UInt8.ofNat (j + 1))
def longs (L : List (List UInt8)) : List (List UInt8) := (List.range L.length).map fun j => L.getD j [] ++ rep j
theorem longs_length (L : List (List UInt8)) : (longs L).length = L.length := by simp [longs]
theorem longs_take (L : List (List UInt8)) (k : Nat) (hk : k < L.length) : (longs L).take (k + 1) = (longs L).take k ++ [L.getD k [] ++ rep k] := by
  rw [List.take_succ_eq_append_getElem (by rw [longs_length]; exact hk)]
  simp [longs]

/-- Loop 1 of Apart, behind k rounds: w0 is the world ahead of the call, w1 behind the first texts. -/
structure Loop1 (w0 w1 : World) (base : Nat) (R : Rs) (all said : Value) (k kw : Nat) (long want : Value) (wr : World) : Prop where
  rows : Lists wr base R
  all : Own wr base 31 1 all R.length (R.map (·.1))
  said : Own wr w0.heap.size 9 1 said R.length (strs (R.map (·.2)))
  only : Only w1 wr (InR R)
  us : ∃ U : Rs, U.length = k ∧ Own wr w1.heap.size 31 1 long k (U.map (·.1)) ∧ Lists wr base U ∧ U.map (·.2) = (longs (R.map (·.2))).take k ∧
    ∀ (j : Nat) (p q : Value × List UInt8), U[j]? = some p → R[j]? = some q → p.1.ownBlock = q.1.ownBlock ∨ ∀ g, p.1.ownBlock = some g → w0.heap.size ≤ g
  want : Own wr w1.heap.size 9 1 want kw (strs ((longs (R.map (·.2))).take kw))

/-- what is known of the rows ahead of the call -/
structure Ahead (w0 : World) (base : Nat) (R : Rs) (all : Value) : Prop where
  rows : Lists w0 base R
  parted : Parted R
  all : Own w0 base 31 1 all R.length (R.map (·.1))
  base : base ≤ w0.heap.size
  few : R.length ≤ 200
  short : ∀ (j : Nat) (p : Value × List UInt8), R[j]? = some p → p.2.length ≤ 1073741824

theorem ne_fresh {w0 : World} {v : Value} {B : Nat} (h : ∀ g, v.ownBlock = some g → g < B) {v' : Value} (h' : ∀ g, v'.ownBlock = some g → B ≤ g) : v.ownBlock = none ∨ v.ownBlock ≠ v'.ownBlock := by
  cases hv : v.ownBlock with
  | none => exact .inl rfl
  | some g =>
    right
    intro e
    have h1 := h g hv
    have h2 := h' g e.symm
    omega

/-- the row i grows by 'longer' -/
theorem Loop1.grow {w0 w1 wr w2 : World} {base : Nat} {R : Rs} {all said long want u : Value} {k kw : Nat} {p : Value × List UInt8} (A : Ahead w0 base R all) (k01 : Keeps w0 w1) (h : Loop1 w0 w1 base R all said k kw long want wr)
    (hp : R[k]? = some p) (hv : Own w2 base 5 1 p.1 p.2.length (cel p.2)) (hu : Own w2 base 5 1 u (p.2.length + 40) (cel (p.2 ++ rep k))) (on : Onto wr p.1.ownBlock w2 u) :
    Loop1 w0 w1 base R all said k kw long want w2 ∧ (u.ownBlock = p.1.ownBlock ∨ ∀ g, u.ownBlock = some g → w0.heap.size ≤ g) := by
  obtain ⟨hrows, hall, hsaid, honly, ⟨U, hUl, hlong, hUs, hUm, hUb⟩, hwant⟩ := h
  have hpl : ∀ g, p.1.ownBlock = some g → g < w0.heap.size := fun g hg => ((A.rows k p hp).lt g hg).2
  have hpr := hrows k p hp
  have hs1 : w1.heap.size ≤ wr.heap.size := honly.size
  refine ⟨⟨?_, ?_, ?_, ?_, ⟨U, hUl, ?_, ?_, hUm, hUb⟩, ?_⟩, ?_⟩
  · intro j q hq
    by_cases hj : j = k
    · subst hj
      rw [hp] at hq
      obtain rfl := Option.some.inj hq
      exact hv
    · exact (hrows j q hq).grown on.1 (A.parted j k q p hj hq hp)
  · exact hall.grown on.1 (hall.apart hpr (by decide))
  · exact hsaid.grown on.1 (hsaid.apart hpr (by decide))
  · exact honly.grown on.1 (fun g hg => .inl ⟨k, p, hp, hg⟩)
  · exact hlong.grown on.1 (hlong.apart hpr (by decide))
  · intro j q hq
    have hjk : j < k := by rw [← hUl]; exact (List.getElem?_eq_some_iff.1 hq).1
    refine (hUs j q hq).grown on.1 ?_
    have hjR : j < R.length := by have := (List.getElem?_eq_some_iff.1 hp).1; omega
    rcases hUb j q _ hq (List.getElem?_eq_getElem hjR) with e | e
    · rw [e]
      exact A.parted j k _ p (by omega) (List.getElem?_eq_getElem hjR) hp
    · rcases ne_fresh (w0 := w0) (v := p.1) (v' := q.1) hpl e with e' | e'
      · cases hq' : q.1.ownBlock with
        | none => exact .inl rfl
        | some g => right; rw [e']; simp
      · exact .inr (Ne.symm e')
  · exact hwant.grown on.1 (hwant.apart hpr (by decide))
  · rcases on.2 with e | e
    · exact .inl e
    · exact .inr (fun g hg => by have := e g hg; have := k01.size; omega)
theorem Loop1.keep {w0 w1 wr w2 : World} {base : Nat} {R : Rs} {all said long want : Value} {k kw : Nat} (h : Loop1 w0 w1 base R all said k kw long want wr) (q : Keeps wr w2) : Loop1 w0 w1 base R all said k kw long want w2 := by
  obtain ⟨hrows, hall, hsaid, honly, ⟨U, hUl, hlong, hUs, hUm, hUb⟩, hwant⟩ := h
  exact ⟨hrows.keep q, hall.keep q, hsaid.keep q, honly.keep q, ⟨U, hUl, hlong.keep q, hUs.keep q, hUm, hUb⟩, hwant.keep q⟩

theorem Loop1.pushLong {w0 w1 wr w2 : World} {base : Nat} {R : Rs} {all said long long' want u : Value} {k kw : Nat} {p : Value × List UInt8} (A : Ahead w0 base R all) (k01 : Keeps w0 w1) (h : Loop1 w0 w1 base R all said k kw long want wr)
    (hp : R[k]? = some p) (hu : Own wr base 5 1 u (p.2.length + 40) (cel (p.2 ++ rep k))) (hub : u.ownBlock = p.1.ownBlock ∨ ∀ g, u.ownBlock = some g → w0.heap.size ≤ g)
    (hown : ∀ xs, Own wr w1.heap.size 31 1 long k xs → Own w2 w1.heap.size 31 1 long' (k + 1) (xs ++ [u])) (hg : wr.grownBy w2 long.ownBlock) :
    Loop1 w0 w1 base R all said (k + 1) kw long' want w2 := by
  obtain ⟨hrows, hall, hsaid, honly, ⟨U, hUl, hlong, hUs, hUm, hUb⟩, hwant⟩ := h
  have hlb : ∀ g, long.ownBlock = some g → w0.heap.size ≤ g := fun g hg => by have := (hlong.lt g hg).1; have := k01.size; omega
  have hkR : k < R.length := (List.getElem?_eq_some_iff.1 hp).1
  refine ⟨?_, ?_, ?_, ?_, ⟨U ++ [(u, p.2 ++ rep k)], by rw [List.length_append, hUl]; rfl, ?_, ?_, ?_, ?_⟩, ?_⟩
  · intro j q hq
    exact (hrows j q hq).grown hg (ne_fresh (w0 := w0) (fun g hg => ((A.rows j q hq).lt g hg).2) hlb)
  · exact hall.grown hg (ne_fresh (w0 := w0) (fun g hg => (A.all.lt g hg).2) hlb)
  · exact hsaid.grown hg (hsaid.apart hlong (by decide))
  · exact honly.grown hg (fun g hg => .inr (hlong.lt g hg).1)
  · rw [List.map_append]
    exact hown _ hlong
  · intro j q hq
    by_cases hj : j < U.length
    · rw [List.getElem?_append_left hj] at hq
      exact (hUs j q hq).grown hg ((hUs j q hq).apart hlong (by decide))
    · have hj2 : j = U.length := by
        have := (List.getElem?_eq_some_iff.1 hq).1
        rw [List.length_append] at this
        simp only [List.length_cons, List.length_nil] at this
        omega
      subst hj2
      rw [List.getElem?_append_right (Nat.le_refl _), Nat.sub_self] at hq
      obtain rfl : (u, p.2 ++ rep k) = q := by simpa using hq
      have e : (p.2 ++ rep k).length = p.2.length + 40 := by simp [rep]
      simp only [e]
      exact hu.grown hg (hu.apart hlong (by decide))
  · rw [List.map_append, hUm, longs_take _ k (by rw [List.length_map]; exact hkR)]
    congr 1
    simp only [List.map_cons, List.map_nil]
    rw [show (R.map (·.2)).getD k [] = p.2 by simp [List.getD, hp]]
  · intro j q r hq hr
    by_cases hj : j < U.length
    · rw [List.getElem?_append_left hj] at hq
      exact hUb j q r hq hr
    · have hj2 : j = U.length := by
        have := (List.getElem?_eq_some_iff.1 hq).1
        rw [List.length_append] at this
        simp only [List.length_cons, List.length_nil] at this
        omega
      subst hj2
      rw [List.getElem?_append_right (Nat.le_refl _), Nat.sub_self] at hq
      obtain rfl : (u, p.2 ++ rep k) = q := by simpa using hq
      rw [hUl, hp] at hr
      obtain rfl := Option.some.inj hr
      exact hub
  · exact hwant.grown hg (hwant.apart hlong (by decide))

theorem Loop1.pushWant {w0 w1 wr w2 : World} {base : Nat} {R : Rs} {all said long want want' : Value} {k kw : Nat} (A : Ahead w0 base R all) (k01 : Keeps w0 w1) (hsl : ∀ g, said.ownBlock = some g → g < w1.heap.size) (h : Loop1 w0 w1 base R all said k kw long want wr)
    (hkR : kw < R.length) (hown : ∀ xs, Own wr w1.heap.size 9 1 want kw xs → Own w2 w1.heap.size 9 1 want' (kw + 1) (xs ++ [.string (str ((R.map (·.2)).getD kw [] ++ rep kw))])) (hg : wr.grownBy w2 want.ownBlock) :
    Loop1 w0 w1 base R all said k (kw + 1) long want' w2 := by
  obtain ⟨hrows, hall, hsaid, honly, ⟨U, hUl, hlong, hUs, hUm, hUb⟩, hwant⟩ := h
  have hwb : ∀ g, want.ownBlock = some g → w0.heap.size ≤ g := fun g hg => by have := (hwant.lt g hg).1; have := k01.size; omega
  refine ⟨?_, ?_, ?_, ?_, ⟨U, hUl, ?_, ?_, hUm, hUb⟩, ?_⟩
  · intro j q hq
    exact (hrows j q hq).grown hg (ne_fresh (w0 := w0) (fun g hg => ((A.rows j q hq).lt g hg).2) hwb)
  · exact hall.grown hg (hall.apart hwant (by decide))
  · exact hsaid.grown hg (ne_fresh (w0 := w1) hsl (fun g hg => (hwant.lt g hg).1))
  · exact honly.grown hg (fun g hg => .inr (hwant.lt g hg).1)
  · exact hlong.grown hg (hlong.apart hwant (by decide))
  · intro j q hq
    exact (hUs j q hq).grown hg ((hUs j q hq).apart hwant (by decide))
  · have := hown _ hwant
    rw [longs_take _ kw (by rw [List.length_map]; exact hkR)]
    simpa [strs] using this

theorem Own.unique {w : World} {b b' : Nat} {e : TypeId} {size n : Nat} {v : Value} {xs ys : List Value} (h : Own w b e size v n xs) (h' : Own w b' e size v n ys) : xs = ys := by
  rcases h.2 with ⟨rfl, rfl⟩ | ⟨g, cap, cur, fz, rfl, _, hg, _, _, _, _, ht⟩
  · have h1 := h.1
    have h2 := h'.1
    have a1 : xs = [] := List.eq_nil_of_length_eq_zero (by simpa using h1)
    have a2 : ys = [] := List.eq_nil_of_length_eq_zero (by simpa using h2)
    rw [a1, a2]
  · rcases h'.2 with ⟨hv, _⟩ | ⟨g', cap', cur', fz', hv, _, hg', _, _, _, _, ht'⟩
    · cases hv
    · injection hv with hA _ _
      injection hA with hA
      injection hA with hA
      subst hA
      rw [hg] at hg'
      injection hg' with hg'
      injection hg' with hc _ _
      subst hc
      rw [← ht, ← ht']

theorem Own.keepAlloc {w : World} {b : Nat} {e : TypeId} {size n : Nat} {v : Value} {xs : List Value} (h : Own w b e size v n xs) (o : Obj) : Own (w.alloc o) b e size v n xs := h.keep (keeps_alloc w o)

/-- Loop 2 of Apart, behind i rounds. -/
structure Loop2 (w0 w1 : World) (base : Nat) (R : Rs) (all said : Value) (i : Nat) (wr : World) : Prop where
  rows : ∀ (j : Nat) (p : Value × List UInt8), i ≤ j → R[j]? = some p → Own wr base 5 1 p.1 p.2.length (cel p.2)
  all : Own wr base 31 1 all R.length (R.map (·.1))
  said : Own wr w0.heap.size 9 1 said R.length (strs (R.map (·.2)))
  only : Only w1 wr (InR R)
theorem Loop2.keep {w0 w1 wr w2 : World} {base : Nat} {R : Rs} {all said : Value} {i : Nat} (h : Loop2 w0 w1 base R all said i wr) (q : Keeps wr w2) : Loop2 w0 w1 base R all said i w2 :=
  ⟨fun j p hj hp => (h.rows j p hj hp).keep q, h.all.keep q, h.said.keep q, h.only.keep q⟩
theorem Loop2.next {w0 w1 wr : World} {base : Nat} {R : Rs} {all said : Value} {i : Nat} (h : Loop2 w0 w1 base R all said i wr) : Loop2 w0 w1 base R all said (i + 1) wr :=
  ⟨fun j p hj hp => h.rows j p (by omega) hp, h.all, h.said, h.only⟩

/-- a list of which the first m bytes are spoilt -/
def spo (m : Nat) (l : List UInt8) : List UInt8 := (l.take m).map (fun b => 255 - b) ++ l.drop m
theorem spo_length (m : Nat) (l : List UInt8) : (spo m l).length = l.length := by
  simp only [spo, List.length_append, List.length_map, List.length_take, List.length_drop]
  omega
theorem spo_get (m : Nat) (l : List UInt8) (h : m < l.length) : (spo m l).getD m 0 = l.getD m 0 := by
  have e : ((l.take m).map fun b => 255 - b).length = m := by simp; omega
  simp only [spo, List.getD]
  rw [List.getElem?_append_right (by omega), e, Nat.sub_self, List.getElem?_drop]
  simp
theorem spo_set (m : Nat) (l : List UInt8) (h : m < l.length) : (cel (spo m l)).set m (.int .u8 (255 - ((l.getD m 0).toNat : Int))) = cel (spo (m + 1) l) := by
  have e : ((l.take m).map fun b => 255 - b).length = m := by simp; omega
  have ed : l.drop m = l[m] :: l.drop (m + 1) := List.drop_eq_getElem_cons h
  have hv : (255 - ((l.getD m 0).toNat : Int)) = (((255 : UInt8) - l[m]).toNat : Int) := by
    have hb := (l[m]).toNat_lt
    have e2 : l.getD m 0 = l[m] := by simp [List.getD, h]
    rw [e2, UInt8.toNat_sub_of_le _ _ (by rw [UInt8.le_iff_toNat_le]; simp; omega)]
    simp
    omega
  have h1 : spo (m + 1) l = ((l.take m).map fun b => 255 - b) ++ (255 - l[m]) :: l.drop (m + 1) := by
    simp only [spo]
    rw [List.take_succ_eq_append_getElem h, List.map_append, List.append_assoc]
    rfl
  rw [h1, hv]
  simp only [spo, ed, cel_append]
  have e3 : (cel ((l.take m).map fun b => 255 - b)).length = m := by rw [cel_length]; exact e
  rw [List.set_append_right _ _ (by rw [e3]; exact Nat.le_refl _), e3, Nat.sub_self]
  rfl

theorem Loop2.spoil {w0 w1 wr : World} {base : Nat} {R : Rs} {all said : Value} {i : Nat} {p : Value × List UInt8} (A : Ahead w0 base R all) (hp : R[i]? = some p) {g : Nat} (hg : p.1.ownBlock = some g) {xs : List Value} (hown : Own wr base 5 1 p.1 p.2.length xs)
    (h : Loop2 w0 w1 base R all said (i + 1) wr) (k : Nat) (u : Value) : Loop2 w0 w1 base R all said (i + 1) (wr.setCell ⟨g, k, none⟩ u) := by
  have ne : ∀ j, some j ≠ p.1.ownBlock → (wr.setCell ⟨g, k, none⟩ u).heap[j]? = wr.heap[j]? := fun j hj => Below.heap_setCell _ _ _ _ (by rw [hg] at hj; intro e; exact hj (by rw [e]))
  refine ⟨fun j q hj hq => (h.rows j q hj hq).same (fun g' hg' => ne g' ?_), h.all.same (fun g' hg' => ne g' ?_), h.said.same (fun g' hg' => ne g' ?_), ?_⟩
  · rcases A.parted j i q p (by omega) hq hp with e | e
    · rw [hg'] at e; cases e
    · rw [← hg']; exact e
  · rcases h.all.apart hown (by decide) with e | e
    · rw [hg'] at e; cases e
    · rw [← hg']; exact e
  · rcases h.said.apart hown (by decide) with e | e
    · rw [hg'] at e; cases e
    · rw [← hg']; exact e
  · refine h.only.trans (S1 := fun j => j = g) ⟨rfl, rfl, rfl, by simp [World.setCell], fun j _ hj => Below.heap_setCell _ _ _ _ hj⟩ (fun j hj => .inl ⟨i, p, hp, by rw [hj]; exact hg⟩)

end Go.Proofs.YtmholhjdpkfleaaDoor
/- Lists in new memory: what EqBytes and Roomy answer, and three rows side by side, as Apart asks for. -/
namespace Go.Proofs.YtmholhjdpkfleaaDoor
open Go.RowKit
set_option linter.unusedSimpArgs false
set_option linter.unusedVariables false
set_option maxRecDepth 100000

theorem Own.front {w : World} {base : Nat} {e : TypeId} {ad : Addr} {n m cap : Nat} {xs ys : List Value} (h : Own w base e 1 (.slice (some ad) n cap) n (xs ++ ys)) (hm : m = xs.length) : Own w base e 1 (.slice (some ad) m cap) m xs := by
  subst hm
  have hl := h.1
  rw [List.length_append, Nat.mul_one] at hl
  refine ⟨by rw [Nat.mul_one], ?_⟩
  rcases h.2 with ⟨hv, _⟩ | ⟨g, cap', cur, fz, hv, hb, hg, hz, h1, h2, h3, h4⟩
  · cases hv
  · injection hv with hA hn hc
    injection hA with hA
    subst hA; subst hc
    refine .inr ⟨g, cap, cur, fz, rfl, hb, hg, hz, by omega, h2, h3, ?_⟩
    have e1 := congrArg (List.take xs.length) h4
    rw [List.take_take, Nat.mul_one, Nat.min_eq_left (by omega), List.take_left] at e1
    rw [Nat.mul_one]
    exact e1

theorem eqBytes_one (A : Option Addr) (n c : Nat) (l : List UInt8) (B : Option Addr) (m d : Nat) (w : World) (hA : Bs w A l) (hn : n = l.length) (hB : Bs w B l) (hm : m = l.length) :
    Calls Tryd.prog 11 #[.slice A n c, .slice B m d] w fun e w' => e = .returned (.bool true) ∧ w = w' := by
  have h := eqBytes_any A n c l B m d l w hA hn hB hm
  rw [decide_eq_true rfl] at h
  exact h

/-- What Roomy leaves, and that the list is the call's own. -/
def RoomedOwn (w : World) (l : List UInt8) (e : Ending) (w' : World) : Prop := ∃ ad cap, e = .returned (.slice (some ad) l.length cap) ∧ Room w w' l ad cap ∧ Own w' w.heap.size 5 1 (.slice (some ad) l.length cap) l.length (cel l)

theorem ne_ranges {v v' : Value} {a b c d : Nat} (h : ∀ g, v.ownBlock = some g → a ≤ g ∧ g < b) (h' : ∀ g, v'.ownBlock = some g → c ≤ g ∧ g < d) (hd : b ≤ c ∨ d ≤ a) : v.ownBlock = none ∨ v.ownBlock ≠ v'.ownBlock := by
  cases hv : v.ownBlock with
  | none => exact .inl rfl
  | some g =>
    right
    intro e
    have h1 := h g hv
    have h2 := h' g e.symm
    omega

/-- three rows that lie in three ranges, and the list of them in new memory -/
theorem ahead3 {w : World} {base a1 b1 a2 b2 a3 b3 : Nat} {v1 v2 v3 : Value} {l1 l2 l3 : List UInt8}
    (o1 : Own w base 5 1 v1 l1.length (cel l1)) (o2 : Own w base 5 1 v2 l2.length (cel l2)) (o3 : Own w base 5 1 v3 l3.length (cel l3)) (hb : base ≤ w.heap.size)
    (h1 : ∀ g, v1.ownBlock = some g → a1 ≤ g ∧ g < b1) (h2 : ∀ g, v2.ownBlock = some g → a2 ≤ g ∧ g < b2) (h3 : ∀ g, v3.ownBlock = some g → a3 ≤ g ∧ g < b3)
    (h12 : b1 ≤ a2 ∨ b2 ≤ a1) (h13 : b1 ≤ a3 ∨ b3 ≤ a1) (h23 : b2 ≤ a3 ∨ b3 ≤ a2)
    (s1 : l1.length ≤ 1073741824) (s2 : l2.length ≤ 1073741824) (s3 : l3.length ≤ 1073741824) :
    Ahead (w.alloc (.cells #[v1, v2, v3] 31)) base [(v1, l1), (v2, l2), (v3, l3)] (.slice (some ⟨w.heap.size, 0, none⟩) 3 3) := by
  have k := keeps_alloc w (.cells #[v1, v2, v3] 31)
  have three : ∀ {Q : Nat → Value × List UInt8 → Prop}, Q 0 (v1, l1) → Q 1 (v2, l2) → Q 2 (v3, l3) → ∀ (j : Nat) (p : Value × List UInt8), [(v1, l1), (v2, l2), (v3, l3)][j]? = some p → Q j p := by
    intro Q q0 q1 q2 j p hp
    rcases j with _ | _ | _ | j
    · cases hp; exact q0
    · cases hp; exact q1
    · cases hp; exact q2
    · cases hp
  refine ⟨three (Q := fun _ p => Own _ base 5 1 p.1 p.2.length (cel p.2)) (o1.keep k) (o2.keep k) (o3.keep k), ?_, ?_, Nat.le_trans hb k.size, by simp, three (Q := fun _ p => p.2.length ≤ 1073741824) s1 s2 s3⟩
  · intro i j p q hij hp hq
    have P : ∀ (j : Nat) (q : Value × List UInt8), [(v1, l1), (v2, l2), (v3, l3)][j]? = some q → ∀ (i : Nat) (p : Value × List UInt8), [(v1, l1), (v2, l2), (v3, l3)][i]? = some p → i ≠ j → p.1.ownBlock = none ∨ p.1.ownBlock ≠ q.1.ownBlock := by
      refine three (Q := fun j q => ∀ (i : Nat) (p : Value × List UInt8), [(v1, l1), (v2, l2), (v3, l3)][i]? = some p → i ≠ j → p.1.ownBlock = none ∨ p.1.ownBlock ≠ q.1.ownBlock) ?_ ?_ ?_
      · exact three (Q := fun i p => i ≠ 0 → p.1.ownBlock = none ∨ p.1.ownBlock ≠ v1.ownBlock) (fun e => absurd rfl e) (fun _ => ne_ranges h2 h1 (by omega)) (fun _ => ne_ranges h3 h1 (by omega))
      · exact three (Q := fun i p => i ≠ 1 → p.1.ownBlock = none ∨ p.1.ownBlock ≠ v2.ownBlock) (fun _ => ne_ranges h1 h2 (by omega)) (fun e => absurd rfl e) (fun _ => ne_ranges h3 h2 (by omega))
      · exact three (Q := fun i p => i ≠ 2 → p.1.ownBlock = none ∨ p.1.ownBlock ≠ v3.ownBlock) (fun _ => ne_ranges h1 h3 (by omega)) (fun _ => ne_ranges h2 h3 (by omega)) (fun e => absurd rfl e)
    exact P j q hq i p hp hij
  · exact ⟨rfl, .inr ⟨w.heap.size, 3, #[v1, v2, v3], (0, 0), rfl, hb, heap_alloc_new w _, .inl rfl, Nat.le_refl _, by simp [maxLen], rfl, rfl⟩⟩
end Go.Proofs.YtmholhjdpkfleaaDoor
