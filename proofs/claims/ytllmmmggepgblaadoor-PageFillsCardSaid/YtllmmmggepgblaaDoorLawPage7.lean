/- A page with one byte that is another one, and its sum made anew: what it is, and milepostlaw07.summed. -/
import Derived.Test.YtllmmmggepgblaaDoorLawPage2
import Derived.Test.YtllmmmggepgblaaDoorLawCrc
import Derived.Test.YtllmmmggepgblaaDoorBox
namespace Go.Proofs.YtllmmmggepgblaaDoor
open Go.RowKit
set_option linter.unusedSimpArgs false
set_option linter.unusedVariables false
set_option maxRecDepth 100000

/-- the first 252 bytes, one of them another one, and their sum -/
def sumB (p : List UInt8) (a : Nat) (v : UInt8) : List UInt8 := (p.set a v).take 252 ++ nb 4 (extC 0 ((p.set a v).take 252))
theorem sumB_length {p : List UInt8} (h : p.length = 256) (a : Nat) (v : UInt8) : (sumB p a v).length = 256 := by
  unfold sumB; rw [List.length_append, List.length_take, List.length_set, h, nb_length]; rfl
theorem sumB_page (t n : Nat) (b : List UInt8) (h : b.length ≤ 240) (a : Nat) (ha : a < 252) (v : UInt8) : sumB (pageB t n b) a v = (bodyB t n b).set a v ++ nb 4 (extC 0 ((bodyB t n b).set a v)) := by
  have hl := bodyB_length t n h
  have e : ((pageB t n b).set a v).take 252 = (bodyB t n b).set a v := by
    unfold pageB
    rw [List.set_append_left _ _ (by omega), List.take_left' (by rw [List.length_set, hl])]
  unfold sumB
  rw [e]
theorem zero_at (t n : Nat) (b : List UInt8) (h : b.length ≤ 240) (a : Nat) (ha : a = 10 ∨ a = 11 ∨ (12 + b.length ≤ a ∧ a < 252)) : (bodyB t n b)[a]? = some 0 := by
  unfold bodyB
  by_cases h12 : a < 12
  · rw [List.getElem?_append_left (by rw [headB_length]; omega)]
    unfold headB
    rw [List.getElem?_append_right (by simp [nb_length]; omega)]
    have e1 : b.length / 256 / 256 = 0 := by omega
    rcases ha with rfl | rfl | ha
    · simp [nb, nb_length, e1]
    · simp [nb, nb_length, e1]
    · omega
  · have hr : 12 + b.length ≤ a ∧ a < 252 := by omega
    rw [List.getElem?_append_right (by rw [headB_length]; omega), List.getElem?_append_right (by rw [headB_length]; omega)]
    unfold noughts
    rw [List.getElem?_replicate, headB_length, if_pos (by omega)]
theorem zero_page (t n : Nat) (b : List UInt8) (h : b.length ≤ 240) (a : Nat) (ha : a = 10 ∨ a = 11 ∨ (12 + b.length ≤ a ∧ a < 252)) : (pageB t n b)[a]? = some 0 := by
  unfold pageB
  rw [List.getElem?_append_left (by rw [bodyB_length t n h]; omega)]
  exact zero_at t n b h a ha
theorem set_same {l : List UInt8} {a : Nat} {v : UInt8} (h : l[a]? = some v) : l.set a v = l := by
  apply List.ext_getElem?
  intro i
  rw [List.getElem?_set]
  split
  · rename_i e
    subst e
    split
    · exact h.symm
    · rename_i hi
      rw [List.getElem?_eq_none (by omega)]
  · rfl
/-- what must be a nought and stays one -/
theorem fills_zero (t n : Nat) (b : List UInt8) (h : b.length ≤ 240) (a : Nat) (ha : a = 10 ∨ a = 11 ∨ (12 + b.length ≤ a ∧ a < 252)) : sumB (pageB t n b) a 0 = pageB t n b := by
  rw [sumB_page t n b h a (by omega), set_same (zero_at t n b h a ha)]
  rfl
/-- among the bytes -/
theorem fills_in (t n : Nat) (b : List UInt8) (h : b.length ≤ 240) (a : Nat) (h1 : 12 ≤ a) (h2 : a < 12 + b.length) (v : UInt8) : sumB (pageB t n b) a v = pageB t n (b.set (a - 12) v) := by
  rw [sumB_page t n b h a (by omega)]
  have e : (bodyB t n b).set a v = bodyB t n (b.set (a - 12) v) := by
    unfold bodyB
    rw [List.set_append_right _ _ (by rw [headB_length]; omega), headB_length, List.set_append_left _ _ (by omega), List.length_set]
  rw [e]
  rfl
/-- what must be a nought and is none -/
theorem fills_no (t n : Nat) (b : List UInt8) (h : b.length ≤ 240) (a : Nat) (ha : a = 10 ∨ a = 11 ∨ (12 + b.length ≤ a ∧ a < 252)) (v : UInt8) (hv : ¬ v = 0) : ¬ IsPage (sumB (pageB t n b) a v) t n := by
  intro hp
  have hq := saidB_le hp
  have e := hp.2.2
  have hl := bodyB_length t n h
  rw [sumB_page t n b h a (by omega)] at e
  have hat : ((bodyB t n b).set a v ++ nb 4 (extC 0 ((bodyB t n b).set a v)))[a]? = some v := by
    rw [List.getElem?_append_left (by rw [List.length_set, hl]; omega), List.getElem?_set, if_pos rfl, if_pos (by omega)]
  by_cases h12 : a < 12
  · have hz := zero_page t n (saidB (sumB (pageB t n b) a v)) hq a (by omega)
    rw [sumB_page t n b h a (by omega)] at hz
    rw [← e, hat] at hz
    exact hv (Option.some.inj hz)
  · have hr : 12 + b.length ≤ a ∧ a < 252 := by omega
    have hsz : numAt (sumB (pageB t n b) a v) 8 4 = b.length := by
      rw [sumB_page t n b h a (by omega)]
      unfold bodyB
      rw [List.set_append_right _ _ (by rw [headB_length]; omega), List.append_assoc, numAt_append _ _ _ _ (by rw [headB_length]; omega), headB, numAt_behind _ _ _ _ (by simp [nb_length]), List.take_of_length_le (by rw [nb_length]; omega), le_nb, mod4 (by omega)]
    have hsl : (saidB (sumB (pageB t n b) a v)).length = b.length := by rw [saidB_length hp.1 hp.2.1, hsz]
    have hz := zero_page t n (saidB (sumB (pageB t n b) a v)) hq a (by omega)
    rw [sumB_page t n b h a (by omega)] at hz
    rw [← e, hat] at hz
    exact hv (Option.some.inj hz)

/-- the sum laid behind, k bytes of it -/
def laidB (q : List UInt8) (s : Nat) (r : List UInt8) (k : Nat) : List UInt8 := q ++ (nb k s ++ r.drop k)
theorem laidB_length (q : List UInt8) (s : Nat) (r : List UInt8) (k : Nat) (h : k ≤ r.length) : (laidB q s r k).length = q.length + r.length := by
  unfold laidB; rw [List.length_append, List.length_append, nb_length, List.length_drop]; omega
theorem laidB_set (q : List UInt8) (s : Nat) (r : List UInt8) (k : Nat) (h : k < r.length) : (laidB q s r k).set (q.length + k) (UInt8.ofNat (s / 256 ^ k % 256)) = laidB q s r (k + 1) := by
  unfold laidB
  rw [List.set_append_right _ _ (by omega), List.set_append_right _ _ (by rw [nb_length]; omega), nb_length, nb_succ, List.append_assoc]
  congr 2
  rw [List.drop_eq_getElem_cons h]
  have e : q.length + k - q.length - k = 0 := by omega
  rw [e]
  rfl
theorem byte_lo (s k : Nat) : (((s : Int) / 2 ^ (8 * k)) % 256) = ((UInt8.ofNat (s / 256 ^ k % 256)).toNat : Int) := by
  have e : (s : Int) / 2 ^ (8 * k) = ((s / 256 ^ k : Nat) : Int) := by rw [pow256]; simp
  rw [e]; simp

set_option maxHeartbeats 1600000 in
theorem summed_any (K : CrcOk) (A : Option Addr) (c : Nat) (p : List UInt8) (a : Nat) (ha : a < 252) (v : UInt8) (w : World) (hB : Bs w A p) (hp : p.length = 256) :
    Calls Tryd.prog 22 #[.slice A 256 c, .int .i64 a, .int .u8 (v.toNat : Int)] w (New w (sumB p a v)) := by
  have C := Lib.hid (copyBytes_any A 256 c p w hB hp.symm (by unfold maxLen; omega))
  have hcl : (cel p).length = 256 := by rw [cel_length, hp]
  have hvl := v.toNat_lt
  clear hB
  go_enter Tryd.func22, Tryd.ntmps22
  go_wp2_with fail
  refine C.out.mono ?_
  rintro e w1 ⟨v1, rfl, o1, k1⟩
  rw [hp] at o1
  obtain ⟨A1, c1, rfl, hc1, hm1, -, -⟩ := o1.form
  obtain ⟨g, rfl, hc, hf, hgb⟩ := o1.cell (j := a) (by rw [hcl]; omega)
  rw [cel_get _ (by rw [hp]; omega)] at hc
  have o2 := o1.store (j := a) (by rw [hcl]; omega) (.int .u8 (v.toNat : Int))
  have k2 : Keeps w (w1.setCell ⟨g, a, none⟩ (.int .u8 (v.toNat : Int))) := Below.trans k1 ⟨rfl, rfl, rfl, by simp [World.setCell], fun j hj => Below.heap_setCell _ _ _ _ (by simp only; omega)⟩
  have ec : (cel p).set a (.int .u8 (v.toNat : Int)) = cel (p.set a v) := by simp [cel, List.map_set]
  rw [ec] at o2
  have hl2 : (p.set a v).length = 256 := by rw [List.length_set, hp]
  clear C o1 ec
  go_wp2_with fail
  refine (K.sum (some ⟨g, 0, none⟩) 252 c1 ((p.set a v).take 252) _ (Bs.take (Own.at_ o2) 252) (by rw [List.length_take, hl2]; rfl) (by omega) (by omega)).mono ?_
  rintro e w3 ⟨rfl, k3⟩
  have k3' := keeps_trans k2 k3
  have o3 := o2.keep k3
  have hs := extC_lt (s := 0) (by decide) ((p.set a v).take 252)
  have hql : ((p.set a v).take 252).length = 252 := by rw [List.length_take, hl2]; rfl
  have hrl : ((p.set a v).drop 252).length = 4 := by rw [List.length_drop, hl2]
  have e0 : p.set a v = laidB ((p.set a v).take 252) (extC 0 ((p.set a v).take 252)) ((p.set a v).drop 252) 0 := by
    unfold laidB; simp [nb]
  have hfin : laidB ((p.set a v).take 252) (extC 0 ((p.set a v).take 252)) ((p.set a v).drop 252) 4 = sumB p a v := by
    unfold laidB sumB
    rw [List.drop_of_length_le (by omega), List.append_nil]
  rw [e0] at o3
  have HF := Lib.hid hfin
  have O3 := Lib.hid o3
  have hp2 : ((p.set a v).take 252).length = 252 := hql
  clear o2 k2 hc hf hfin e0 o3 k3
  generalize sumB p a v = fin at *
  generalize extC 0 ((p.set a v).take 252) = s at *
  generalize (p.set a v).take 252 = q at *
  generalize (p.set a v).drop 252 = r at *
  clear hp2 hl2 hcl hp
  go_wp2_with fail
  go_loopw [9] (fun i wr => ∃ k : Nat, k ≤ 4 ∧ i = .int .i64 k ∧ Own wr w.heap.size 5 1 (.slice (some ⟨g, 0, none⟩) 256 c1) 256 (cel (laidB q s r k)) ∧ Keeps w wr) (fun i _ => 4 - (intOf i).toNat)
  case atStart => exact ⟨0, Nat.zero_le _, rfl, O3.out, k3'⟩
  case round =>
    obtain ⟨k, hk, rfl, ho, hkp⟩ := hrel
    by_cases hlt : k < 4
    · have hll : (laidB q s r k).length = 256 := by rw [laidB_length _ _ _ _ (by omega), hql, hrl]
      have hcl : (cel (laidB q s r k)).length = 256 := by rw [cel_length, hll]
      obtain ⟨g', hg', hc, hf, -⟩ := ho.cell (j := 252 + k) (by rw [hcl]; omega)
      obtain rfl : g = g' := by injection hg' with hg'; injection hg'
      rw [cel_get _ (by rw [hll]; omega)] at hc
      have o4 := ho.store (j := 252 + k) (by rw [hcl]; omega) (.int .u8 ((UInt8.ofNat (s / 256 ^ k % 256)).toNat : Int))
      have ec : (cel (laidB q s r k)).set (252 + k) (.int .u8 ((UInt8.ofNat (s / 256 ^ k % 256)).toNat : Int)) = cel (laidB q s r (k + 1)) := by
        rw [← laidB_set q s r k (by omega), hql]
        simp [cel, List.map_set]
      rw [ec, ← byte_lo] at o4
      have O4 := Lib.hid o4
      clear ho o4 ec hll hcl
      go_wp2_with fail
      go_roundw
      case rel => exact ⟨k + 1, by omega, by go_num, O4.out, Below.trans hkp ⟨rfl, rfl, rfl, by simp [World.setCell], fun j hj => Below.heap_setCell _ _ _ _ (by simp only; omega)⟩⟩
      case measure => simp [intOf]; omega
    · have HO := Lib.hid ho
      clear ho
      go_wp2_with fail
      go_ret
      obtain rfl : k = 4 := by omega
      refine ⟨_, rfl, ?_, hkp⟩
      have := HO.out
      rw [HF.out] at this
      have hl : fin.length = 256 := by rw [← HF.out, laidB_length _ _ _ _ (by omega), hql, hrl]
      rw [hl]
      exact this
end Go.Proofs.YtllmmmggepgblaaDoor
