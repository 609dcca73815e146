/- The contracts of package milepostref00: lists that say the same, lists in new memory, guards. -/
import Derived.Test.YtiohijkelagloaaGreatDoorQBase
import Derived.Test.YtiohijkelagloaaGreatDoorProg
namespace Go.Proofs.YtiohijkelagloaaGreatDoor
open Go.RowKit
set_option linter.unusedSimpArgs false
set_option linter.unusedVariables false
set_option maxRecDepth 100000

theorem convTo (W : World) (A : Option Addr) (l : List UInt8) (n cap : Nat) (hn : n = l.length) (h : Bs W A l) : (convert 40 9 (.slice A n cap)).run Tryz.prog W = .ok (.string (str l)) W :=
  run_str W 40 5 9 Tryz.underlying40 Tryz.underlying5 Tryz.underlying9 A l n cap hn h
theorem convFrom (W : World) (s : ByteArray) : (convert 9 40 (.string s)).run Tryz.prog W = .ok (.slice (some ⟨W.heap.size, 0, none⟩) s.size (grownCap W s.size 0 5)) (Lib.bytesWorld W 5 s) :=
  Lib.run_convert_string_bytes W 9 40 5 s Tryz.underlying9 Tryz.underlying40 Tryz.underlying5

theorem bytesWorld_keeps (w : World) (e : TypeId) (s : ByteArray) : Keeps w (Lib.bytesWorld w e s) :=
  ⟨by simp [Lib.bytesWorld, World.freeze, World.alloc, World.drew, -World.alloc_eq, -World.drew_eq], by simp [Lib.bytesWorld, World.freeze, World.alloc, World.drew, -World.alloc_eq, -World.drew_eq], by simp [Lib.bytesWorld, World.freeze, World.alloc, World.drew, -World.alloc_eq, -World.drew_eq], by rw [Lib.bytesWorld_size]; omega, fun k hk => Lib.bytesWorld_at_old w e s k hk⟩
theorem bytesWorld_own (w : World) (e : TypeId) (l : List UInt8) (hl : l.length ≤ maxLen) : Own (Lib.bytesWorld w e (str l)) w.heap.size e 1 (.slice (some ⟨w.heap.size, 0, none⟩) l.length (grownCap w l.length 0 e)) l.length (cel l) := by
  have hge := grownCap_ge w l.length 0 e
  have hs : (Lib.bytesCells w e (str l)).size = grownCap w l.length 0 e := by
    simp only [Lib.bytesCells, Array.size_append, Array.size_map, Array.size_replicate]
    have e1 : (str l).data.size = l.length := by simp [str]
    rw [e1, str_size]
    omega
  refine ⟨by simp [cel_length], .inr ⟨w.heap.size, _, _, _, rfl, Nat.le_refl _, Lib.bytesWorld_at_new w e (str l), .inr (Nat.le_refl _), hge, grownCap_le_maxLen w l.length 0 e hl, by rw [hs, Nat.mul_one], ?_⟩⟩
  simp only [Lib.bytesCells, Array.toList_append, Array.toList_map, Nat.mul_one]
  have e2 : (List.map (fun b : UInt8 => Value.int .u8 b.toNat) (str l).data.toList) = cel l := by rw [str_data]; rfl
  rw [e2, ← cel_length l]
  exact List.take_left

/-- Bytes in new memory. -/
def New (w : World) (l : List UInt8) (e : Ending) (w' : World) : Prop :=
  ∃ v', e = .returned v' ∧ Own w' w.heap.size 5 1 v' l.length (cel l) ∧ Keeps w w'

set_option maxHeartbeats 400000 in
theorem copyBytes_any (A : Option Addr) (n c : Nat) (l : List UInt8) (w : World) (hB : Bs w A l) (hn : n = l.length) (hlen : n ≤ maxLen) :
    Calls Tryz.prog 29 #[.slice A n c] w (New w l) := by
  have hl' : l.length ≤ 9223372036854775807 := by unfold maxLen at hlen; omega
  by_cases h0 : l.length = 0
  · obtain rfl := List.eq_nil_of_length_eq_zero h0
    obtain rfl : n = 0 := hn
    go_enter Tryz.func29, Tryz.ntmps29
    go_wp2
    go_ret
    exact ⟨_, rfl, Own.nil _ _ _ _, keeps_refl _⟩
  · have h1 : ((n : Int) == 0) = false := by simp; omega
    have k1 := convTo w A l n c hn hB
    have k2 := convFrom w (str l)
    have hlen' : l.length ≤ maxLen := by omega
    have HN := Lib.hid hn
    clear hn h0
    go_enter Tryz.func29, Tryz.ntmps29
    go_wp2
    go_ret
    refine ⟨_, rfl, ?_, bytesWorld_keeps _ _ _⟩
    have o := bytesWorld_own w 5 l hlen'
    rw [← str_size l] at o
    rw [← str_size l]
    exact o

set_option maxHeartbeats 400000 in
theorem eqBytes_any (A : Option Addr) (n c : Nat) (l : List UInt8) (B : Option Addr) (m d : Nat) (k : List UInt8) (w : World) (hA : Bs w A l) (hn : n = l.length) (hB : Bs w B k) (hm : m = k.length) :
    Calls Tryz.prog 63 #[.slice A n c, .slice B m d] w fun e w' => e = .returned (.bool (decide (l = k))) ∧ w = w' := by
  have k1 := convTo w A l n c hn hA
  have k2 := convTo w B k m d hm hB
  by_cases h : n = m
  · subst h
    have e1 : (decide (l = k)) = ((str l).toList == (str k).toList) := by
      rw [str_toList, str_toList]
      by_cases e : l = k <;> simp [e]
    rw [e1]
    have HN := Lib.hid hn
    have HM := Lib.hid hm
    clear hn hm e1
    go_enter Tryz.func63, Tryz.ntmps63
    go_wp2
    go_ret
    exact ⟨rfl, rfl⟩
  · have e1 : (decide (l = k)) = false := decide_eq_false (fun e => h (by rw [hn, hm, e]))
    rw [e1]
    have h' : ((n : Int) == (m : Int)) = false := by simp; omega
    have HN := Lib.hid hn
    have HM := Lib.hid hm
    clear hn hm h e1
    go_enter Tryz.func63, Tryz.ntmps63
    go_wp2
    go_ret
    exact ⟨rfl, rfl⟩

def gd : List UInt8 := [0xd1, 0x0e, 0xa5, 0x5a, 0x77, 0xfe, 0x13]
/-- A list with the guard behind it, in one memory. -/
structure Room (w w' : World) (l : List UInt8) (ad : Addr) (cap : Nat) : Prop where
  bytes : Bs w' (some ad) (l ++ gd)
  fits : l.length + 7 ≤ cap
  max : cap ≤ maxLen
  new : w.heap.size ≤ ad.block
  kept : Keeps w w'
def Roomed (w : World) (l : List UInt8) (e : Ending) (w' : World) : Prop := ∃ ad cap, e = .returned (.slice (some ad) l.length cap) ∧ Room w w' l ad cap

theorem str_append (l m : List UInt8) : (str l) ++ (str m) = str (l ++ m) := by
  apply ByteArray.ext
  simp [str]

end Go.Proofs.YtiohijkelagloaaGreatDoor
