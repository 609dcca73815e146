/- The contract of milepostref00.Apart: lists of bytes, each in a row of its own, do not reach one another. -/
import Derived.Test.YtllmmmggepgblaaDoorRefA
import Derived.Test.YtllmmmggepgblaaDoorOnly
import Derived.Deep.RegionHeld3
namespace Go.Proofs.YtllmmmggepgblaaDoor
open Go.RowKit
set_option linter.unusedSimpArgs false
set_option linter.unusedVariables false
set_option maxRecDepth 100000

theorem info_str : (Tryd.prog.info? 9).map (fun i => (i.zero, i.size, i.bytes)) = some (some (.string ByteArray.empty), 1, 16) := by kernel_rfl
theorem info_lst : (Tryd.prog.info? 23).map (fun i => (i.zero, i.size, i.bytes)) = some (some (.slice none 0 0), 1, 24) := by kernel_rfl
theorem infoA_u8 : (Tryd.prog.info? 5).map (fun i => (i.zero, i.size, i.bytes)) = some (some (.int .u8 0), 1, 1) := by kernel_rfl

/-- texts as cells -/
def strs (L : List (List UInt8)) : List Value := L.map fun l => .string (str l)
theorem strs_length (L : List (List UInt8)) : (strs L).length = L.length := by simp [strs]
theorem strs_one (L : List (List UInt8)) : ∀ u ∈ strs L, u.oneCell' = true := by
  intro u hu
  obtain ⟨_, _, rfl⟩ := List.mem_map.1 hu
  rfl

/-- Lists of bytes, each a row of the call's own: values, and what they hold. -/
abbrev Rs := List (Value × List UInt8)
def Lists (w : World) (base : Nat) (R : Rs) : Prop := ∀ (j : Nat) (p : Value × List UInt8), R[j]? = some p → Own w base 5 1 p.1 p.2.length (cel p.2)
def Parted (R : Rs) : Prop := ∀ (i j : Nat) (p q : Value × List UInt8), i ≠ j → R[i]? = some p → R[j]? = some q → p.1.ownBlock = none ∨ p.1.ownBlock ≠ q.1.ownBlock
theorem Lists.keep {w w' : World} {base : Nat} {R : Rs} (h : Lists w base R) (k : Keeps w w') : Lists w' base R := fun j p hp => (h j p hp).keep k

/-- What texts leaves. -/
def Texts (w : World) (L : List (List UInt8)) (e : Ending) (w' : World) : Prop :=
  ∃ v', e = .returned v' ∧ Own w' w.heap.size 9 1 v' L.length (strs L) ∧ Keeps w w'

set_option maxHeartbeats 800000 in
theorem texts_any (A : Option Addr) (K c : Nat) (R : Rs) (base : Nat) (w : World) (hA : At w w.heap.size A (R.map (·.1))) (hR : Lists w base R) (hK : K = R.length) (hKs : K ≤ 65536) :
    Calls Tryd.prog 30 #[.slice A K c] w (Texts w (R.map (·.2))) := by
  obtain ⟨i0, hi, hz0, hz1, hz2⟩ := info_parts info_str
  have HA := Lib.hid hA
  have HR := Lib.hid hR
  have HK := Lib.hid hK
  clear hA hR hK
  go_enter Tryd.func30, Tryd.ntmps30
  go_wp2
  go_loopw [3, 4] (fun v i wr => ∃ j : Nat, j ≤ K ∧ i = .int .i64 j ∧ Own wr w.heap.size 9 1 v j (strs ((R.map (·.2)).take j)) ∧ Keeps w wr) (fun _ i _ => K - (intOf i).toNat)
  case atStart => exact ⟨0, Nat.zero_le _, rfl, Own.nil _ _ _ _, keeps_refl _⟩
  case round =>
    obtain ⟨j, hj, rfl, ho, hw⟩ := hrel
    by_cases hlt : j < K
    · have hjR : j < R.length := by rw [← HK.out]; exact hlt
      obtain ⟨ad, rfl, _, hcell⟩ := At.get (HA.out.keep hw) (k := j) (by rw [List.length_map]; exact hjR)
      have hp : R[j]? = some R[j] := List.getElem?_eq_getElem hjR
      have hown := HR.out j _ hp
      obtain ⟨Aj, cj, hv, _, _, _, _⟩ := hown.form
      have hown' := hown.keep hw
      rw [hv] at hown'
      have hcell' : wr.cell? (ad.add j) = some (.slice Aj R[j].2.length cj) := by
        rw [hcell, List.getElem?_map, hp, ← hv]; rfl
      have hconv := run_str (P := Tryd.prog) wr 23 5 9 Tryd.underlying23 Tryd.underlying5 Tryd.underlying9 Aj R[j].2 R[j].2.length cj rfl (Own.at_ hown')
      have hsn : strs ((R.map (·.2)).take j) ++ [.string (str R[j].2)] = strs ((R.map (·.2)).take (j + 1)) := by
        rw [List.take_succ_eq_append_getElem (by rw [List.length_map]; exact hjR)]
        simp [strs]
      have HS := Lib.hid hsn
      have hsz := hw.size
      clear hsn hown hown' hv hcell hp
      generalize R[j].2 = lj at *
      generalize lj.length = nj at *
      go_wp2_with (at_builtin; refine wpList_app _ rfl _ _ 56 rfl w.heap.size 9 i0 (.string ByteArray.empty) 1 16 Tryd.underlying56 hi hz0 hz1 hz2 rfl (by decide) _ _ _ rfl (ho.keep (keeps_alloc _ _)) (wr.heap.size + 1) _ 1 1 [.string (str lj)] rfl rfl (At.new _ _ _ _ (by omega)) (fun u hu => by simp at hu; subst hu; rfl) (by unfold maxLen; omega) (by omega) (by simp; omega) ?_)
      intro v' w1 hown1 hgrow hblk
      rw [HS.out] at hown1
      have hk1 : Keeps w w1 := Below.grown (keeps_trans hw (keeps_alloc wr _)) hgrow (by simp; omega) (fun g hg => (ho.lt g hg).1)
      clear hgrow hblk ho hcell' hconv
      go_wp2
      go_roundw
      case rel => exact ⟨j + 1, by omega, by go_num, hown1, hk1⟩
      case measure => simp [intOf]; omega
    · obtain rfl : j = K := by omega
      go_wp2
      go_ret
      refine ⟨_, rfl, ?_, hw⟩
      have hl : (R.map (·.2)).length = j := by rw [List.length_map]; exact HK.out.symm
      rw [List.take_of_length_le (Nat.le_of_eq hl)] at ho
      rw [hl]
      exact ho

/-! ### two lists of texts that say the same -/
set_option maxHeartbeats 800000 in
theorem differ_same (A : Option Addr) (K c : Nat) (B : Option Addr) (d : Nat) (L : List (List UInt8)) (w : World) (hA : At w w.heap.size A (strs L)) (hB : At w w.heap.size B (strs L)) (hK : K = L.length) (hKs : K ≤ 65536) :
    Calls Tryd.prog 43 #[.slice A K c, .slice B K d] w fun e w' => e = .returned (.int .i64 (-1)) ∧ Keeps w w' := by
  have HA := Lib.hid hA
  have HB := Lib.hid hB
  have HK := Lib.hid hK
  clear hA hB hK
  go_enter Tryd.func43, Tryd.ntmps43
  go_wp2
  go_loopw [5] (fun i wr => ∃ j : Nat, j ≤ K ∧ i = .int .i64 j ∧ Keeps w wr) (fun i _ => K - (intOf i).toNat)
  case atStart => exact ⟨0, Nat.zero_le _, rfl, keeps_refl _⟩
  case round =>
    obtain ⟨j, hj, rfl, hw⟩ := hrel
    by_cases hlt : j < K
    · have hjL : j < L.length := by rw [← HK.out]; exact hlt
      obtain ⟨ad, rfl, _, hca⟩ := At.get (HA.out.keep hw) (k := j) (by rw [strs_length]; exact hjL)
      obtain ⟨bd, rfl, _, hcb⟩ := At.get (HB.out.keep hw) (k := j) (by rw [strs_length]; exact hjL)
      have hs : (strs L)[j]? = some (.string (str L[j])) := by simp [strs, hjL]
      rw [hs] at hca hcb
      clear hs
      generalize L[j] = lj at *
      have hlt' : (j : Int) < (K : Int) := by omega
      go_wp2
      go_quiet (fail)
      go_wp2
      go_roundw
      case rel => exact ⟨j + 1, by omega, by go_num, keeps_trans hw (keeps_drewN _ _)⟩
      case measure => simp [intOf]; omega
    · go_wp2
      go_ret
      exact ⟨rfl, hw⟩

set_option maxHeartbeats 800000 in
theorem eqTexts_same (A : Option Addr) (K c : Nat) (B : Option Addr) (d : Nat) (L : List (List UInt8)) (w : World) (hA : At w w.heap.size A (strs L)) (hB : At w w.heap.size B (strs L)) (hK : K = L.length) (hKs : K ≤ 65536) :
    Calls Tryd.prog 32 #[.slice A K c, .slice B K d] w fun e w' => e = .returned (.bool true) ∧ Keeps w w' := by
  have D := Lib.hid (differ_same A K c B d L w hA hB hK hKs)
  clear hA hB hK
  go_enter Tryd.func32, Tryd.ntmps32
  go_wp2_with (go_at_call 43; refine D.out.mono ?_; rintro e w1 ⟨rfl, k1⟩)
  go_ret
  exact ⟨rfl, k1⟩

/-! ### a list made longer -/
def Longer (w : World) (base : Nat) (v : Value) (l : List UInt8) (b : UInt8) (e : Ending) (w' : World) : Prop :=
  ∃ u, e = .returned u ∧ Own w' base 5 1 u (l.length + 40) (cel (l ++ List.replicate 40 b)) ∧ Own w' base 5 1 v l.length (cel l) ∧ Onto w v.ownBlock w' u

set_option maxHeartbeats 800000 in
theorem longer_any (v : Value) (l : List UInt8) (b : UInt8) (z : Int) (hz : z = (b.toNat : Int)) (base : Nat) (w : World) (hown : Own w base 5 1 v l.length (cel l)) (hbase : base ≤ w.heap.size) (hlen : l.length ≤ 140737488350000) :
    Calls Tryd.prog 31 #[v, .int .u8 z] w (Longer w base v l b) := by
  subst hz
  obtain ⟨i0, hi, hz0, hz1, hz2⟩ := info_parts infoA_u8
  obtain ⟨A0, c0, hv, _, _, _, _⟩ := hown.form
  have HO := Lib.hid hown
  have HV := Lib.hid hv
  have hb := b.toNat_lt
  clear hown
  rw [hv]
  clear hv
  go_enter Tryd.func31, Tryd.ntmps31
  go_wp2
  go_loopw [0] (fun u wr => ∃ j : Nat, j ≤ 40 ∧ (∃ A c, u = .slice A (l.length + j) c) ∧ Own wr base 5 1 u (l.length + j) (cel (l ++ List.replicate j b)) ∧ Own wr base 5 1 v l.length (cel l) ∧ Onto w v.ownBlock wr u) (fun u _ => match u with | .slice _ n _ => l.length + 40 - n | _ => 0)
  case atStart => exact ⟨0, Nat.zero_le _, ⟨_, _, rfl⟩, by have := HO.out; rw [HV.out] at this; simpa using this, HO.out, by rw [HV.out]; exact Onto.refl _ _⟩
  case round =>
    obtain ⟨j, hj, ⟨A, c, rfl⟩, ho, hov, hon⟩ := hrel
    have hsz := hon.1.size
    have hbase' : base ≤ wr.heap.size := Nat.le_trans hbase hsz
    by_cases hlt : j < 40
    · have hlt1 : (l.length : Int) + (j : Int) < (l.length : Int) + 40 := by omega
      go_wp2_with (at_builtin; refine wpList_app2 _ rfl _ _ 23 rfl base 5 i0 (.int .u8 0) 1 1 Tryd.underlying23 hi hz0 hz1 hz2 rfl (by decide) _ _ _ rfl (ho.keep (keeps_alloc _ _)) (wr.heap.size + 1) _ 1 1 [.int .u8 (b.toNat : Int)] rfl rfl (At.new _ _ _ _ (by omega)) (fun u hu => by simp at hu; subst hu; rfl) (by unfold maxLen; omega) (by omega) (by simp; omega) ?_)
      intro v' w1 hown1 hgrow hblk hpre
      have hov1 := (hov.keep (keeps_alloc wr (.cells [Value.int .u8 (b.toNat : Int)].toArray 5))).pre hgrow hpre (.inr (by omega))
      have hon1 : Onto w v.ownBlock w1 v' := (hon.keep (keeps_alloc _ _)).step hgrow (by simpa using hblk)
      have e : cel (l ++ List.replicate j b) ++ [.int .u8 (b.toNat : Int)] = cel (l ++ List.replicate (j + 1) b) := by
        rw [List.replicate_succ', ← List.append_assoc, cel_append (l ++ List.replicate j b)]; rfl
      rw [e, Nat.add_assoc] at hown1
      obtain ⟨A', c', rfl, _, _, _, _⟩ := hown1.form
      clear e hgrow hblk hpre ho hov hon
      go_wp2
      go_roundw
      case rel => exact ⟨j + 1, by omega, ⟨_, _, rfl⟩, hown1, hov1, hon1⟩
      case measure => simp; omega
    · obtain rfl : j = 40 := by omega
      go_wp2
      go_ret
      have hov2 := hov
      have hon2 := hon
      rw [HV.out] at hov2 hon2
      exact ⟨_, rfl, ho, hov2, hon2⟩

def InR (R : Rs) (g : Nat) : Prop := ∃ (j : Nat) (p : Value × List UInt8), R[j]? = some p ∧ p.1.ownBlock = some g

/-- the lists of loop 1: each with 40 bytes of its own kind behind it -/
def rep (j : Nat) : List UInt8 := List.replicate 40 (UInt8.ofNat (j + 1))
def longs (L : List (List UInt8)) : List (List UInt8) := (List.range L.length).map fun j => L.getD j [] ++ rep j
theorem longs_length (L : List (List UInt8)) : (longs L).length = L.length := by simp [longs]
theorem longs_take (L : List (List UInt8)) (k : Nat) (hk : k < L.length) : (longs L).take (k + 1) = (longs L).take k ++ [L.getD k [] ++ rep k] := by
  rw [List.take_succ_eq_append_getElem (by rw [longs_length]; exact hk)]
  simp [longs]

/-- Loop 1 of Apart, behind k rounds: w0 is the world ahead of the call, w1 behind the first texts. -/
structure Loop1 (w0 w1 : World) (base : Nat) (R : Rs) (all said : Value) (k kw : Nat) (long want : Value) (wr : World) : Prop where
  rows : Lists wr base R
  all : Own wr base 23 1 all R.length (R.map (·.1))
  said : Own wr w0.heap.size 9 1 said R.length (strs (R.map (·.2)))
  only : Only w1 wr (InR R)
  us : ∃ U : Rs, U.length = k ∧ Own wr w1.heap.size 23 1 long k (U.map (·.1)) ∧ Lists wr base U ∧ U.map (·.2) = (longs (R.map (·.2))).take k ∧
    ∀ (j : Nat) (p q : Value × List UInt8), U[j]? = some p → R[j]? = some q → p.1.ownBlock = q.1.ownBlock ∨ ∀ g, p.1.ownBlock = some g → w0.heap.size ≤ g
  want : Own wr w1.heap.size 9 1 want kw (strs ((longs (R.map (·.2))).take kw))

/-- what is known of the rows ahead of the call -/
structure Ahead (w0 : World) (base : Nat) (R : Rs) (all : Value) : Prop where
  rows : Lists w0 base R
  parted : Parted R
  all : Own w0 base 23 1 all R.length (R.map (·.1))
  base : base ≤ w0.heap.size
  few : R.length ≤ 200
  short : ∀ (j : Nat) (p : Value × List UInt8), R[j]? = some p → p.2.length ≤ 1073741824

theorem ne_fresh {w0 : World} {v : Value} {B : Nat} (h : ∀ g, v.ownBlock = some g → g < B) {v' : Value} (h' : ∀ g, v'.ownBlock = some g → B ≤ g) : v.ownBlock = none ∨ v.ownBlock ≠ v'.ownBlock := by
  cases hv : v.ownBlock with
  | none => exact .inl rfl
  | some g =>
    right
    intro e
    have h1 := h g hv
    have h2 := h' g e.symm
    omega

/-- the row i grows by 'longer' -/
theorem Loop1.grow {w0 w1 wr w2 : World} {base : Nat} {R : Rs} {all said long want u : Value} {k kw : Nat} {p : Value × List UInt8} (A : Ahead w0 base R all) (k01 : Keeps w0 w1) (h : Loop1 w0 w1 base R all said k kw long want wr)
    (hp : R[k]? = some p) (hv : Own w2 base 5 1 p.1 p.2.length (cel p.2)) (hu : Own w2 base 5 1 u (p.2.length + 40) (cel (p.2 ++ rep k))) (on : Onto wr p.1.ownBlock w2 u) :
    Loop1 w0 w1 base R all said k kw long want w2 ∧ (u.ownBlock = p.1.ownBlock ∨ ∀ g, u.ownBlock = some g → w0.heap.size ≤ g) := by
  obtain ⟨hrows, hall, hsaid, honly, ⟨U, hUl, hlong, hUs, hUm, hUb⟩, hwant⟩ := h
  have hpl : ∀ g, p.1.ownBlock = some g → g < w0.heap.size := fun g hg => ((A.rows k p hp).lt g hg).2
  have hpr := hrows k p hp
  have hs1 : w1.heap.size ≤ wr.heap.size := honly.size
  refine ⟨⟨?_, ?_, ?_, ?_, ⟨U, hUl, ?_, ?_, hUm, hUb⟩, ?_⟩, ?_⟩
  · intro j q hq
    by_cases hj : j = k
    · subst hj
      rw [hp] at hq
      obtain rfl := Option.some.inj hq
      exact hv
    · exact (hrows j q hq).grown on.1 (A.parted j k q p hj hq hp)
  · exact hall.grown on.1 (hall.apart hpr (by decide))
  · exact hsaid.grown on.1 (hsaid.apart hpr (by decide))
  · exact honly.grown on.1 (fun g hg => .inl ⟨k, p, hp, hg⟩)
  · exact hlong.grown on.1 (hlong.apart hpr (by decide))
  · intro j q hq
    have hjk : j < k := by rw [← hUl]; exact (List.getElem?_eq_some_iff.1 hq).1
    refine (hUs j q hq).grown on.1 ?_
    have hjR : j < R.length := by have := (List.getElem?_eq_some_iff.1 hp).1; omega
    rcases hUb j q _ hq (List.getElem?_eq_getElem hjR) with e | e
    · rw [e]
      exact A.parted j k _ p (by omega) (List.getElem?_eq_getElem hjR) hp
    · rcases ne_fresh (w0 := w0) (v := p.1) (v' := q.1) hpl e with e' | e'
      · cases hq' : q.1.ownBlock with
        | none => exact .inl rfl
        | some g => right; rw [e']; simp
      · exact .inr (Ne.symm e')
  · exact hwant.grown on.1 (hwant.apart hpr (by decide))
  · rcases on.2 with e | e
    · exact .inl e
    · exact .inr (fun g hg => by have := e g hg; have := k01.size; omega)
theorem Loop1.keep {w0 w1 wr w2 : World} {base : Nat} {R : Rs} {all said long want : Value} {k kw : Nat} (h : Loop1 w0 w1 base R all said k kw long want wr) (q : Keeps wr w2) : Loop1 w0 w1 base R all said k kw long want w2 := by
  obtain ⟨hrows, hall, hsaid, honly, ⟨U, hUl, hlong, hUs, hUm, hUb⟩, hwant⟩ := h
  exact ⟨hrows.keep q, hall.keep q, hsaid.keep q, honly.keep q, ⟨U, hUl, hlong.keep q, hUs.keep q, hUm, hUb⟩, hwant.keep q⟩

theorem Loop1.pushLong {w0 w1 wr w2 : World} {base : Nat} {R : Rs} {all said long long' want u : Value} {k kw : Nat} {p : Value × List UInt8} (A : Ahead w0 base R all) (k01 : Keeps w0 w1) (h : Loop1 w0 w1 base R all said k kw long want wr)
    (hp : R[k]? = some p) (hu : Own wr base 5 1 u (p.2.length + 40) (cel (p.2 ++ rep k))) (hub : u.ownBlock = p.1.ownBlock ∨ ∀ g, u.ownBlock = some g → w0.heap.size ≤ g)
    (hown : ∀ xs, Own wr w1.heap.size 23 1 long k xs → Own w2 w1.heap.size 23 1 long' (k + 1) (xs ++ [u])) (hg : wr.grownBy w2 long.ownBlock) :
    Loop1 w0 w1 base R all said (k + 1) kw long' want w2 := by
  obtain ⟨hrows, hall, hsaid, honly, ⟨U, hUl, hlong, hUs, hUm, hUb⟩, hwant⟩ := h
  have hlb : ∀ g, long.ownBlock = some g → w0.heap.size ≤ g := fun g hg => by have := (hlong.lt g hg).1; have := k01.size; omega
  have hkR : k < R.length := (List.getElem?_eq_some_iff.1 hp).1
  refine ⟨?_, ?_, ?_, ?_, ⟨U ++ [(u, p.2 ++ rep k)], by rw [List.length_append, hUl]; rfl, ?_, ?_, ?_, ?_⟩, ?_⟩
  · intro j q hq
    exact (hrows j q hq).grown hg (ne_fresh (w0 := w0) (fun g hg => ((A.rows j q hq).lt g hg).2) hlb)
  · exact hall.grown hg (ne_fresh (w0 := w0) (fun g hg => (A.all.lt g hg).2) hlb)
  · exact hsaid.grown hg (hsaid.apart hlong (by decide))
  · exact honly.grown hg (fun g hg => .inr (hlong.lt g hg).1)
  · rw [List.map_append]
    exact hown _ hlong
  · intro j q hq
    by_cases hj : j < U.length
    · rw [List.getElem?_append_left hj] at hq
      exact (hUs j q hq).grown hg ((hUs j q hq).apart hlong (by decide))
    · have hj2 : j = U.length := by
        have := (List.getElem?_eq_some_iff.1 hq).1
        rw [List.length_append] at this
        simp only [List.length_cons, List.length_nil] at this
        omega
      subst hj2
      rw [List.getElem?_append_right (Nat.le_refl _), Nat.sub_self] at hq
      obtain rfl : (u, p.2 ++ rep k) = q := by simpa using hq
      have e : (p.2 ++ rep k).length = p.2.length + 40 := by simp [rep]
      simp only [e]
      exact hu.grown hg (hu.apart hlong (by decide))
  · rw [List.map_append, hUm, longs_take _ k (by rw [List.length_map]; exact hkR)]
    congr 1
    simp only [List.map_cons, List.map_nil]
    rw [show (R.map (·.2)).getD k [] = p.2 by simp [List.getD, hp]]
  · intro j q r hq hr
    by_cases hj : j < U.length
    · rw [List.getElem?_append_left hj] at hq
      exact hUb j q r hq hr
    · have hj2 : j = U.length := by
        have := (List.getElem?_eq_some_iff.1 hq).1
        rw [List.length_append] at this
        simp only [List.length_cons, List.length_nil] at this
        omega
      subst hj2
      rw [List.getElem?_append_right (Nat.le_refl _), Nat.sub_self] at hq
      obtain rfl : (u, p.2 ++ rep k) = q := by simpa using hq
      rw [hUl, hp] at hr
      obtain rfl := Option.some.inj hr
      exact hub
  · exact hwant.grown hg (hwant.apart hlong (by decide))

theorem Loop1.pushWant {w0 w1 wr w2 : World} {base : Nat} {R : Rs} {all said long want want' : Value} {k kw : Nat} (A : Ahead w0 base R all) (k01 : Keeps w0 w1) (hsl : ∀ g, said.ownBlock = some g → g < w1.heap.size) (h : Loop1 w0 w1 base R all said k kw long want wr)
    (hkR : kw < R.length) (hown : ∀ xs, Own wr w1.heap.size 9 1 want kw xs → Own w2 w1.heap.size 9 1 want' (kw + 1) (xs ++ [.string (str ((R.map (·.2)).getD kw [] ++ rep kw))])) (hg : wr.grownBy w2 want.ownBlock) :
    Loop1 w0 w1 base R all said k (kw + 1) long want' w2 := by
  obtain ⟨hrows, hall, hsaid, honly, ⟨U, hUl, hlong, hUs, hUm, hUb⟩, hwant⟩ := h
  have hwb : ∀ g, want.ownBlock = some g → w0.heap.size ≤ g := fun g hg => by have := (hwant.lt g hg).1; have := k01.size; omega
  refine ⟨?_, ?_, ?_, ?_, ⟨U, hUl, ?_, ?_, hUm, hUb⟩, ?_⟩
  · intro j q hq
    exact (hrows j q hq).grown hg (ne_fresh (w0 := w0) (fun g hg => ((A.rows j q hq).lt g hg).2) hwb)
  · exact hall.grown hg (hall.apart hwant (by decide))
  · exact hsaid.grown hg (ne_fresh (w0 := w1) hsl (fun g hg => (hwant.lt g hg).1))
  · exact honly.grown hg (fun g hg => .inr (hwant.lt g hg).1)
  · exact hlong.grown hg (hlong.apart hwant (by decide))
  · intro j q hq
    exact (hUs j q hq).grown hg ((hUs j q hq).apart hwant (by decide))
  · have := hown _ hwant
    rw [longs_take _ kw (by rw [List.length_map]; exact hkR)]
    simpa [strs] using this

theorem Own.unique {w : World} {b b' : Nat} {e : TypeId} {size n : Nat} {v : Value} {xs ys : List Value} (h : Own w b e size v n xs) (h' : Own w b' e size v n ys) : xs = ys := by
  rcases h.2 with ⟨rfl, rfl⟩ | ⟨g, cap, cur, fz, rfl, _, hg, _, _, _, _, ht⟩
  · have h1 := h.1
    have h2 := h'.1
    have a1 : xs = [] := List.eq_nil_of_length_eq_zero (by simpa using h1)
    have a2 : ys = [] := List.eq_nil_of_length_eq_zero (by simpa using h2)
    rw [a1, a2]
  · rcases h'.2 with ⟨hv, _⟩ | ⟨g', cap', cur', fz', hv, _, hg', _, _, _, _, ht'⟩
    · cases hv
    · injection hv with hA _ _
      injection hA with hA
      injection hA with hA
      subst hA
      rw [hg] at hg'
      injection hg' with hg'
      injection hg' with hc _ _
      subst hc
      rw [← ht, ← ht']

theorem Own.keepAlloc {w : World} {b : Nat} {e : TypeId} {size n : Nat} {v : Value} {xs : List Value} (h : Own w b e size v n xs) (o : Obj) : Own (w.alloc o) b e size v n xs := h.keep (keeps_alloc w o)

/-- Loop 2 of Apart, behind i rounds. -/
structure Loop2 (w0 w1 : World) (base : Nat) (R : Rs) (all said : Value) (i : Nat) (wr : World) : Prop where
  rows : ∀ (j : Nat) (p : Value × List UInt8), i ≤ j → R[j]? = some p → Own wr base 5 1 p.1 p.2.length (cel p.2)
  all : Own wr base 23 1 all R.length (R.map (·.1))
  said : Own wr w0.heap.size 9 1 said R.length (strs (R.map (·.2)))
  only : Only w1 wr (InR R)
theorem Loop2.keep {w0 w1 wr w2 : World} {base : Nat} {R : Rs} {all said : Value} {i : Nat} (h : Loop2 w0 w1 base R all said i wr) (q : Keeps wr w2) : Loop2 w0 w1 base R all said i w2 :=
  ⟨fun j p hj hp => (h.rows j p hj hp).keep q, h.all.keep q, h.said.keep q, h.only.keep q⟩
theorem Loop2.next {w0 w1 wr : World} {base : Nat} {R : Rs} {all said : Value} {i : Nat} (h : Loop2 w0 w1 base R all said i wr) : Loop2 w0 w1 base R all said (i + 1) wr :=
  ⟨fun j p hj hp => h.rows j p (by omega) hp, h.all, h.said, h.only⟩

/-- a list of which the first m bytes are spoilt -/
def spo (m : Nat) (l : List UInt8) : List UInt8 := (l.take m).map (fun b => 255 - b) ++ l.drop m
theorem spo_length (m : Nat) (l : List UInt8) : (spo m l).length = l.length := by
  simp only [spo, List.length_append, List.length_map, List.length_take, List.length_drop]
  omega
theorem spo_get (m : Nat) (l : List UInt8) (h : m < l.length) : (spo m l).getD m 0 = l.getD m 0 := by
  have e : ((l.take m).map fun b => 255 - b).length = m := by simp; omega
  simp only [spo, List.getD]
  rw [List.getElem?_append_right (by omega), e, Nat.sub_self, List.getElem?_drop]
  simp
theorem spo_set (m : Nat) (l : List UInt8) (h : m < l.length) : (cel (spo m l)).set m (.int .u8 (255 - ((l.getD m 0).toNat : Int))) = cel (spo (m + 1) l) := by
  have e : ((l.take m).map fun b => 255 - b).length = m := by simp; omega
  have ed : l.drop m = l[m] :: l.drop (m + 1) := List.drop_eq_getElem_cons h
  have hv : (255 - ((l.getD m 0).toNat : Int)) = (((255 : UInt8) - l[m]).toNat : Int) := by
    have hb := (l[m]).toNat_lt
    have e2 : l.getD m 0 = l[m] := by simp [List.getD, h]
    rw [e2, UInt8.toNat_sub_of_le _ _ (by rw [UInt8.le_iff_toNat_le]; simp; omega)]
    simp
    omega
  have h1 : spo (m + 1) l = ((l.take m).map fun b => 255 - b) ++ (255 - l[m]) :: l.drop (m + 1) := by
    simp only [spo]
    rw [List.take_succ_eq_append_getElem h, List.map_append, List.append_assoc]
    rfl
  rw [h1, hv]
  simp only [spo, ed, cel_append]
  have e3 : (cel ((l.take m).map fun b => 255 - b)).length = m := by rw [cel_length]; exact e
  rw [List.set_append_right _ _ (by rw [e3]; exact Nat.le_refl _), e3, Nat.sub_self]
  rfl

theorem Loop2.spoil {w0 w1 wr : World} {base : Nat} {R : Rs} {all said : Value} {i : Nat} {p : Value × List UInt8} (A : Ahead w0 base R all) (hp : R[i]? = some p) {g : Nat} (hg : p.1.ownBlock = some g) {xs : List Value} (hown : Own wr base 5 1 p.1 p.2.length xs)
    (h : Loop2 w0 w1 base R all said (i + 1) wr) (k : Nat) (u : Value) : Loop2 w0 w1 base R all said (i + 1) (wr.setCell ⟨g, k, none⟩ u) := by
  have ne : ∀ j, some j ≠ p.1.ownBlock → (wr.setCell ⟨g, k, none⟩ u).heap[j]? = wr.heap[j]? := fun j hj => Below.heap_setCell _ _ _ _ (by rw [hg] at hj; intro e; exact hj (by rw [e]))
  refine ⟨fun j q hj hq => (h.rows j q hj hq).same (fun g' hg' => ne g' ?_), h.all.same (fun g' hg' => ne g' ?_), h.said.same (fun g' hg' => ne g' ?_), ?_⟩
  · rcases A.parted j i q p (by omega) hq hp with e | e
    · rw [hg'] at e; cases e
    · rw [← hg']; exact e
  · rcases h.all.apart hown (by decide) with e | e
    · rw [hg'] at e; cases e
    · rw [← hg']; exact e
  · rcases h.said.apart hown (by decide) with e | e
    · rw [hg'] at e; cases e
    · rw [← hg']; exact e
  · refine h.only.trans (S1 := fun j => j = g) ⟨rfl, rfl, rfl, by simp [World.setCell], fun j _ hj => Below.heap_setCell _ _ _ _ hj⟩ (fun j hj => .inl ⟨i, p, hp, by rw [hj]; exact hg⟩)

set_option maxRecDepth 100000 in
set_option maxHeartbeats 8000000 in
theorem apart_any (A : Option Addr) (K c : Nat) (R : Rs) (base : Nat) (w : World) (H : Ahead w base R (.slice A K c)) (hK : K = R.length) (hKc : K ≤ c) :
    Calls Tryd.prog 18 #[.slice A K c] w fun e w' => e = .returned (.bool true) ∧ Only w w' (InR R) := by
  obtain ⟨i1, hi1, hy0, hy1, hy2⟩ := info_parts info_lst
  obtain ⟨i2, hi2, hx0, hx1, hx2⟩ := info_parts info_str
  have hfew : K ≤ 200 := by rw [hK]; exact H.few
  have hall0 := H.all
  rw [← hK] at hall0
  have T1 := Lib.hid (texts_any A K c R base w (Own.at_ hall0) H.rows hK (by omega))
  have HK := Lib.hid hK
  have HH := Lib.hid H
  clear hall0 H hK
  go_enter Tryd.func18, Tryd.ntmps18
  go_wp2_with fail
  refine T1.out.mono ?_
  rintro e w1 ⟨sv, rfl, os, k1⟩
  rw [List.length_map, ← HK.out] at os
  obtain ⟨As, cs, rfl, hKs, _, _, _⟩ := os.form
  have hsl : ∀ g, (Value.slice As K cs).ownBlock = some g → g < w1.heap.size := fun g hg => (os.lt g hg).2
  have start : Loop1 w w1 base R (.slice A K c) (.slice As K cs) 0 0 (.slice none 0 0) (.slice none 0 0) w1 :=
    ⟨HH.out.rows.keep k1, HH.out.all.keep k1, by rw [← HK.out]; exact os, Only.refl _ _, ⟨[], rfl, Own.nil _ _ _ _, fun j p hp => by simp at hp, rfl, fun j p q hp => by simp at hp⟩, Own.nil _ _ _ _⟩
  have ST := Lib.hid start
  clear start os
  go_wp2_with fail
  go_loopw [4, 5, 6] (fun lv wv i wr => ∃ k : Nat, k ≤ K ∧ i = .int .i64 k ∧ Loop1 w w1 base R (.slice A K c) (.slice As K cs) k k lv wv wr) (fun _ _ i _ => K - (intOf i).toNat)
  case atStart => exact ⟨0, Nat.zero_le _, rfl, ST.out⟩
  case round =>
    obtain ⟨k, hk, rfl, h⟩ := hrel
    by_cases hlt : k < K
    · have hkR : k < R.length := by rw [← HK.out]; exact hlt
      obtain ⟨⟨v, l⟩, hp⟩ : ∃ p, R[k]? = some p := ⟨_, List.getElem?_eq_getElem hkR⟩
      have hvr : Own w base 5 1 v l.length (cel l) := HH.out.rows k _ hp
      have hl : l.length ≤ 1073741824 := HH.out.short k _ hp
      obtain ⟨Ap, cp, rfl, _, _, _, _⟩ := hvr.form
      have ha := h.all
      rw [← HK.out] at ha
      obtain ⟨ad, rfl, _, hcell⟩ := At.get (Own.at_ ha) (k := k) (by rw [List.length_map]; exact hkR)
      rw [List.getElem?_map, hp] at hcell
      simp only [Option.map_some] at hcell
      have hsz : w1.heap.size ≤ wr.heap.size := h.only.size
      have hb0 : base ≤ wr.heap.size := Nat.le_trans HH.out.base (Nat.le_trans k1.size hsz)
      have LG := Lib.hid (longer_any (.slice Ap l.length cp) l (UInt8.ofNat (k + 1)) ((k : Int) + 1) (by simp; omega) base wr (h.rows k _ hp) hb0 (by omega))
      have HP := Lib.hid hp
      have h' := Lib.hid h
      clear ha hp hvr h
      go_wp2_with fail
      refine LG.out.mono ?_
      rintro e w2 ⟨u, rfl, ou, ov, on⟩
      obtain ⟨h2, hub⟩ := Loop1.grow HH.out k1 h'.out HP.out ov ou on
      obtain ⟨Au, cu, rfl, _, _, _, _⟩ := ou.form
      clear ov on LG hcell
      have hs2 := h2.only.size
      obtain ⟨U, hUl, hlong, _⟩ := h2.us
      go_wp2_with (at_builtin; refine wpList_app _ rfl _ _ 32 rfl w1.heap.size 23 i1 (.slice none 0 0) 1 24 Tryd.underlying32 hi1 hy0 hy1 hy2 rfl (by decide) _ _ _ rfl (hlong.keepAlloc _) (w2.heap.size + 1) _ 1 1 [.slice Au (l.length + 40) cu] rfl rfl (At.new _ _ _ _ (by omega)) (fun u hu => by simp at hu; subst hu; rfl) (by unfold maxLen; omega) (by omega) (by simp; omega) ?_)
      intro long' w3 ol gl _
      have h3 := Loop1.pushLong HH.out k1 (h2.keep (keeps_alloc w2 (.cells [Value.slice Au (l.length + 40) cu].toArray 23))) HP.out (ou.keepAlloc _) hub (fun xs hx => by rw [hx.unique (hlong.keepAlloc _)]; exact ol) gl
      clear hlong ol gl h2 ou
      have hLk : (R.map (·.2)).getD k [] = l := by simp [List.getD, HP.out]
      have hsd := h3.said
      rw [← HK.out] at hsd
      obtain ⟨sd, hsd1, _, hsc⟩ := At.get (Own.at_ hsd) (k := k) (by rw [strs_length, List.length_map]; exact hkR)
      obtain rfl := hsd1
      have hstr : (strs (R.map (·.2)))[k]? = some (.string (str l)) := by simp [strs, HP.out]
      rw [hstr] at hsc
      have kb := Lib.run_convert_string_bytes (P := Tryd.prog) w3 9 23 5 (str l) Tryd.underlying9 Tryd.underlying23 Tryd.underlying5
      have hs3 := h3.only.size
      clear hsd hstr
      have hbo := bytesWorld_own w3 5 l (by unfold maxLen; omega)
      have hbk := bytesWorld_keeps w3 5 (str l)
      have LG2 := Lib.hid (longer_any _ l (UInt8.ofNat (k + 1)) ((k : Int) + 1) (by simp; omega) w3.heap.size _ hbo hbk.size (by omega))
      have HBO := Lib.hid hbo
      have H3 := Lib.hid h3
      have HLk := Lib.hid hLk
      have e0 := str_size l
      clear hbo h3 hLk
      rw [e0] at kb
      clear e0
      go_wp2_with fail
      refine LG2.out.mono ?_
      rintro e w4 ⟨u2, rfl, ou2, _, on2⟩
      have k4 : Keeps w3 w4 := Onto.keeps hbk on2 (fun g hg => (HBO.out.lt g hg).1)
      obtain ⟨Au2, cu2, rfl, _, _, _, _⟩ := ou2.form
      have h4 := H3.out.keep k4
      clear kb hsc on2 hbk
      have kc := convTo w4 Au2 (l ++ rep k) (l.length + 40) cu2 (by simp [rep]) (by have := Own.at_ ou2; exact this)
      have hs4 := h4.only.size
      have hwant := h4.want
      go_wp2_with (at_builtin; refine wpList_app _ rfl _ _ 56 rfl w1.heap.size 9 i2 (.string ByteArray.empty) 1 16 Tryd.underlying56 hi2 hx0 hx1 hx2 rfl (by decide) _ _ _ rfl (hwant.keepAlloc _) (w4.heap.size + 1) _ 1 1 [.string (str (l ++ rep k))] rfl rfl (At.new _ _ _ _ (by omega)) (fun u hu => by simp at hu; subst hu; rfl) (by unfold maxLen; omega) (by omega) (by simp; omega) ?_)
      intro want' w5 ow gw _
      have h5 := Loop1.pushWant HH.out k1 hsl (h4.keep (keeps_alloc w4 (.cells [Value.string (str (l ++ rep k))].toArray 9))) hkR (fun xs hx => by rw [hx.unique (hwant.keepAlloc _), HLk.out]; exact ow) gw
      clear ow gw hwant h4 kc ou2
      go_wp2
      go_roundw
      case rel => exact ⟨k + 1, by omega, by go_num, h5⟩
      case measure => simp [intOf]; omega
    · obtain rfl : k = K := by omega
      clear hlt hk
      obtain ⟨U, hUl, hlong, hUs, hUm, _⟩ := h.us
      obtain ⟨Al, cl, rfl, _, _, _, _⟩ := hlong.form
      have hwant := h.want
      obtain ⟨Aw, cw, rfl, _, _, _, _⟩ := hwant.form
      have hLl : (R.map (·.2)).length = k := by rw [List.length_map]; exact HK.out.symm
      have hfull : (longs (R.map (·.2))).take k = longs (R.map (·.2)) := List.take_of_length_le (by rw [longs_length, hLl]; exact Nat.le_refl _)
      rw [hfull] at hwant hUm
      have hall := h.all
      have hsd := h.said
      rw [← HK.out] at hall hsd
      have T2 := Lib.hid (texts_any A k c R base wr (Own.at_ hall) h.rows HK.out (by omega))
      have H1 := Lib.hid h
      have HLl := Lib.hid hLl
      have HUl := Lib.hid hUl
      have HUm := Lib.hid hUm
      clear h hfull hall hLl hUl hUm T1 ST
      go_wp2_with fail
      refine T2.out.mono ?_
      rintro e w6 ⟨tv, rfl, ot, q6⟩
      rw [HLl.out] at ot
      obtain ⟨At1, ct1, rfl, _, _, _, _⟩ := ot.form
      clear T2
      go_wp2_with fail
      refine (eqTexts_same At1 k ct1 As cs _ w6 (Own.at_ ot) (Own.at_ (hsd.keep q6)) HLl.out.symm (by omega)).mono ?_
      rintro e w7 ⟨rfl, q7⟩
      clear ot
      have q67 := keeps_trans q6 q7
      go_wp2_with fail
      refine (texts_any Al k cl U base w7 (Own.at_ (hlong.keep q67)) (hUs.keep q67) HUl.out.symm (by omega)).mono ?_
      rintro e w8 ⟨tv2, rfl, ot, q8⟩
      rw [HUm.out, longs_length, HLl.out] at ot
      obtain ⟨At2, ct2, rfl, _, _, _, _⟩ := ot.form
      have q68 := keeps_trans q67 q8
      go_wp2_with fail
      refine (eqTexts_same At2 k ct2 Aw cw _ w8 (Own.at_ ot) (Own.at_ (hwant.keep q68)) (by rw [longs_length, HLl.out]) (by omega)).mono ?_
      rintro e w9 ⟨rfl, q9⟩
      have q69 := keeps_trans q68 q9
      have start2 : Loop2 w w1 base R (.slice A k c) (.slice As cs.pred.succ.pred cs) 0 w9 → True := fun _ => trivial
      have h2 : Loop2 w w1 base R (.slice A k c) (.slice As k cs) 0 w9 :=
        ⟨fun j p _ hp => (H1.out.rows j p hp).keep q69, H1.out.all.keep q69, H1.out.said.keep q69, H1.out.only.keep q69⟩
      have H2 := Lib.hid h2
      clear h2 start2 ot q6 q7 q67 q8 q68 q9 q69 hlong hUs hwant hsd H1 HUl HUm
      go_wp2_with fail
      go_loopw [7, 8, 9] (fun i _ _ wr => ∃ j : Nat, j ≤ k ∧ i = .int .i64 j ∧ Loop2 w w1 base R (.slice A k c) (.slice As k cs) j wr) (fun i _ _ _ => k - (intOf i).toNat)
      case atStart => exact ⟨0, Nat.zero_le _, rfl, H2.out⟩
      case round =>
        obtain ⟨j, hj, rfl, h⟩ := hrel
        by_cases hlt : j < k
        · have hjR : j < R.length := by rw [← HK.out]; exact hlt
          obtain ⟨⟨v, l⟩, hp⟩ : ∃ p, R[j]? = some p := ⟨_, List.getElem?_eq_getElem hjR⟩
          have hvr : Own w base 5 1 v l.length (cel l) := HH.out.rows j _ hp
          have hl : l.length ≤ 1073741824 := HH.out.short j _ hp
          obtain ⟨Ap, cp, rfl, _, _, _, hblk⟩ := hvr.form
          have hcur : Own wr base 5 1 (.slice Ap l.length cp) l.length (cel l) := h.rows j _ (Nat.le_refl _) hp
          have ha := h.all
          rw [← HK.out] at ha
          obtain ⟨ad, rfl, _, hcell⟩ := At.get (Own.at_ ha) (k := j) (by rw [List.length_map]; exact hjR)
          rw [List.getElem?_map, hp] at hcell
          simp only [Option.map_some] at hcell
          have HP := Lib.hid hp
          have HC := Lib.hid hcur
          have h' := Lib.hid h
          clear ha hp hvr h hcur
          go_wp2_with fail
          go_loopw [9] (fun i wr => ∃ m : Nat, m ≤ l.length ∧ i = .int .i64 m ∧ Own wr base 5 1 (.slice Ap l.length cp) l.length (cel (spo m l)) ∧ Loop2 w w1 base R (.slice (some ad) k c) (.slice As k cs) (j + 1) wr) (fun i _ => l.length - (intOf i).toNat)
          case atStart => exact ⟨0, Nat.zero_le _, rfl, by simpa [spo] using HC.out, h'.out.next⟩
          case round =>
            obtain ⟨m, hm, rfl, hown, h⟩ := hrel
            by_cases hml : m < l.length
            · obtain ⟨g, rfl, hc, hf, _⟩ := hown.cell (j := m) (by rw [cel_length, spo_length]; exact hml)
              rw [cel_get _ (by rw [spo_length]; exact hml), spo_get m l hml] at hc
              have hb := (l.getD m 0).toNat_lt
              have hset := spo_set m l hml
              have HS := Lib.hid hset
              have HO := Lib.hid hown
              have H3 := Lib.hid h
              clear hset hown h
              generalize (l.getD m 0).toNat = y at *
              go_wp2
              go_roundw
              case rel =>
                refine ⟨m + 1, by omega, by go_num, ?_, Loop2.spoil HH.out HP.out rfl HO.out H3.out m _⟩
                rw [← HS.out]
                exact HO.out.store (by rw [cel_length, spo_length]; exact hml) _
              case measure => simp [intOf]; omega
            · have hA := h.all
              have hS := h.said
              rw [← HK.out] at hA hS
              have HA := Lib.hid (Own.at_ hA)
              have HS := Lib.hid (Own.at_ hS)
              obtain ⟨sd, rfl⟩ : ∃ sd, As = some sd := by
                obtain ⟨sd, e, _⟩ := At.get (Own.at_ hS) (k := j) (by rw [strs_length, HLl.out]; exact hlt)
                exact ⟨sd, e⟩
              have H3 := Lib.hid h
              clear hA hS h hown
              go_wp2_with fail
              have f2 : (0 : Int) ≤ (j : Int) + 1 := by omega
              have f3 : (j : Int) + 1 ≤ (k : Int) := by omega
              have f5 : (k : Int) ≤ (c : Int) := by omega
              have f6 : (k : Int) ≤ (cs : Int) := by omega
              have f1 : IntKind.i64.wrap ((j : Int) + 1) = (j : Int) + 1 := IntWalk.i64_in _ (by omega)
              have f4 : ((j : Int) + 1).toNat = j + 1 := by omega
              have FR := Lib.hid (show Lists wr.drew base (R.drop (j + 1)) from fun i p hp => by
                rw [List.getElem?_drop] at hp
                exact ((H3.out.rows (j + 1 + i) p (by omega) hp).keep (keeps_drew wr)))
              have FL := Lib.hid (show k - (j + 1) = (R.drop (j + 1)).length by rw [List.length_drop, ← HK.out])
              have FM := Lib.hid (show ((R.drop (j + 1)).map (·.2)).length = k - (j + 1) by rw [List.length_map, List.length_drop, ← HK.out])
              have FM2 := Lib.hid (show k - (j + 1) = ((R.drop (j + 1)).map (·.2)).length by rw [List.length_map, List.length_drop, ← HK.out])
              have eA : (R.map (·.1)).drop (j + 1) = (R.drop (j + 1)).map (·.1) := List.map_drop.symm
              have eS : (strs (R.map (·.2))).drop (j + 1) = strs ((R.drop (j + 1)).map (·.2)) := by simp [strs, List.map_drop]
              have dA := HA.out.drop (j + 1)
              have dS := HS.out.drop (j + 1)
              rw [eA, Addr.add_succ' ad j] at dA
              rw [eS, Addr.add_succ' sd j] at dS
              have DA := Lib.hid ((dA.keep (keeps_drew wr)).more (keeps_drew wr).size)
              have DS := Lib.hid ((dS.keep (keeps_drew wr)).more (keeps_drew wr).size)
              have eN1 : k = j + 1 → (R.drop (j + 1)).map (·.1) = [] := fun e => List.eq_nil_of_length_eq_zero (by rw [List.length_map, List.length_drop, ← HK.out]; omega)
              have eN2 : k = j + 1 → strs ((R.drop (j + 1)).map (·.2)) = [] := fun e => List.eq_nil_of_length_eq_zero (by rw [strs_length, List.length_map, List.length_drop, ← HK.out]; omega)
              have N1 := Lib.hid eN1
              have N2 := Lib.hid eN2
              clear eN1 eN2 dA dS eA eS HA HS
              by_cases hc1 : c = j + 1
              · subst hc1
                have hkj : k = j + 1 := by omega
                have FA := Lib.hid (show At wr.drew wr.drew.heap.size (some ad) ((R.drop (j + 1)).map (·.1)) by rw [N1.out hkj]; exact At.nil _ _ _)
                have FS0 : ∀ A, At wr.drew wr.drew.heap.size A (strs ((R.drop (j + 1)).map (·.2))) := fun A => by rw [N2.out hkj]; exact At.nil _ _ _
                by_cases hc2 : cs = j + 1
                · subst hc2
                  have FS := Lib.hid (FS0 (some sd))
                  clear hkj FS0 N1 N2 DA DS
                  have FL0 := Lib.hid (show 0 = (R.drop (j + 1)).length by rw [List.length_drop, ← HK.out]; omega)
                  have FM0 := Lib.hid (show ((R.drop (j + 1)).map (·.2)).length = 0 by rw [List.length_map, List.length_drop, ← HK.out]; omega)
                  have FM20 := Lib.hid (show 0 = ((R.drop (j + 1)).map (·.2)).length by rw [List.length_map, List.length_drop, ← HK.out]; omega)
                  go_region_held3 (fun _ => True) (trivial) (first
                    | (go_at_call 30; refine (texts_any _ 0 _ (R.drop (j + 1)) base wr.drew FA.out FR.out FL0.out (by omega)).mono ?_; rintro e w10 ⟨tv, rfl, ot, q10⟩; rw [FM0.out] at ot; obtain ⟨At3, ct3, rfl, _, _, _, _⟩ := ot.form)
                    | (go_at_call 32; refine (eqTexts_same _ 0 _ _ _ _ w10 (Own.at_ ot) ((FS.out.keep q10).more q10.size) FM20.out (by omega)).mono ?_; rintro e w11 ⟨rfl, q11⟩))
                  have h4 := (H3.out.keep (keeps_drew wr)).keep (keeps_trans q10 q11)
                  clear FA FS FR FL FM FM2 FL0 FM0 FM20 H3 q10 q11 ot
                  go_wp2_with fail
                  go_roundw
                  case rel => exact ⟨j + 1, by omega, by go_num, h4⟩
                  case measure => simp [intOf]; omega
                · have FS := DS
                  clear hkj FS0 N1 N2 DA DS
                  have FL0 := Lib.hid (show 0 = (R.drop (j + 1)).length by rw [List.length_drop, ← HK.out]; omega)
                  have FM0 := Lib.hid (show ((R.drop (j + 1)).map (·.2)).length = 0 by rw [List.length_map, List.length_drop, ← HK.out]; omega)
                  have FM20 := Lib.hid (show 0 = ((R.drop (j + 1)).map (·.2)).length by rw [List.length_map, List.length_drop, ← HK.out]; omega)
                  go_region_held3 (fun _ => True) (trivial) (first
                    | (go_at_call 30; refine (texts_any _ 0 _ (R.drop (j + 1)) base wr.drew FA.out FR.out FL0.out (by omega)).mono ?_; rintro e w10 ⟨tv, rfl, ot, q10⟩; rw [FM0.out] at ot; obtain ⟨At3, ct3, rfl, _, _, _, _⟩ := ot.form)
                    | (go_at_call 32; refine (eqTexts_same _ 0 _ _ _ _ w10 (Own.at_ ot) ((FS.out.keep q10).more q10.size) FM20.out (by omega)).mono ?_; rintro e w11 ⟨rfl, q11⟩))
                  have h4 := (H3.out.keep (keeps_drew wr)).keep (keeps_trans q10 q11)
                  clear FA FS FR FL FM FM2 FL0 FM0 FM20 H3 q10 q11 ot
                  go_wp2_with fail
                  go_roundw
                  case rel => exact ⟨j + 1, by omega, by go_num, h4⟩
                  case measure => simp [intOf]; omega
              · have FA := DA
                by_cases hc2 : cs = j + 1
                · subst hc2
                  have hkj : k = j + 1 := by omega
                  have FS := Lib.hid (show At wr.drew wr.drew.heap.size (some sd) (strs ((R.drop (j + 1)).map (·.2))) by rw [N2.out hkj]; exact At.nil _ _ _)
                  clear hkj N1 N2 DA DS
                  have FL0 := Lib.hid (show 0 = (R.drop (j + 1)).length by rw [List.length_drop, ← HK.out]; omega)
                  have FM0 := Lib.hid (show ((R.drop (j + 1)).map (·.2)).length = 0 by rw [List.length_map, List.length_drop, ← HK.out]; omega)
                  have FM20 := Lib.hid (show 0 = ((R.drop (j + 1)).map (·.2)).length by rw [List.length_map, List.length_drop, ← HK.out]; omega)
                  go_region_held3 (fun _ => True) (trivial) (first
                    | (go_at_call 30; refine (texts_any _ 0 _ (R.drop (j + 1)) base wr.drew FA.out FR.out FL0.out (by omega)).mono ?_; rintro e w10 ⟨tv, rfl, ot, q10⟩; rw [FM0.out] at ot; obtain ⟨At3, ct3, rfl, _, _, _, _⟩ := ot.form)
                    | (go_at_call 32; refine (eqTexts_same _ 0 _ _ _ _ w10 (Own.at_ ot) ((FS.out.keep q10).more q10.size) FM20.out (by omega)).mono ?_; rintro e w11 ⟨rfl, q11⟩))
                  have h4 := (H3.out.keep (keeps_drew wr)).keep (keeps_trans q10 q11)
                  clear FA FS FR FL FM FM2 FL0 FM0 FM20 H3 q10 q11 ot
                  go_wp2_with fail
                  go_roundw
                  case rel => exact ⟨j + 1, by omega, by go_num, h4⟩
                  case measure => simp [intOf]; omega
                · have FS := DS
                  clear N1 N2 DA DS
                  go_region_held3 (fun _ => True) (trivial) (first
                    | (go_at_call 30; refine (texts_any _ (k - (j + 1)) _ (R.drop (j + 1)) base wr.drew FA.out FR.out FL.out (by omega)).mono ?_; rintro e w10 ⟨tv, rfl, ot, q10⟩; rw [FM.out] at ot; obtain ⟨At3, ct3, rfl, _, _, _, _⟩ := ot.form)
                    | (go_at_call 32; refine (eqTexts_same _ (k - (j + 1)) _ _ _ _ w10 (Own.at_ ot) ((FS.out.keep q10).more q10.size) FM2.out (by omega)).mono ?_; rintro e w11 ⟨rfl, q11⟩))
                  have h4 := (H3.out.keep (keeps_drew wr)).keep (keeps_trans q10 q11)
                  clear FA FS FR FL FM FM2 H3 q10 q11 ot
                  go_wp2_with fail
                  go_roundw
                  case rel => exact ⟨j + 1, by omega, by go_num, h4⟩
                  case measure => simp [intOf]; omega
        · go_wp2_with fail
          go_ret
          refine ⟨rfl, ((Only.refl w (InR R)).keep k1).trans h.only (fun _ e => .inl e)⟩
end Go.Proofs.YtllmmmggepgblaaDoor
