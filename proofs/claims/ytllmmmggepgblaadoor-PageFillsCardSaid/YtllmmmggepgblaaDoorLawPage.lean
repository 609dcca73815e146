/- What the three calls of package page answer: contracts; the law's anchor. -/
import Derived.Test.YtllmmmggepgblaaDoorPageMath
import Derived.Test.YtllmmmggepgblaaDoorFresh
import Derived.Deep.RegionHeld3
import Derived.Lib.SlBytesConst
namespace Go.Proofs.YtllmmmggepgblaaDoor
open Go.RowKit
set_option linter.unusedSimpArgs false
set_option linter.unusedVariables false
set_option maxRecDepth 100000

/-- What a law leaves. -/
def Yes7 (w : World) (e : Ending) (w' : World) : Prop := e = .returned (.bool true) ∧ Keeps w w'
/-- bytes in new memory, and no error -/
def Gave (w : World) (l : List UInt8) (e : Ending) (w' : World) : Prop :=
  ∃ v, e = .returned (.tuple #[v, .int .i64 0]) ∧ Own w' w.heap.size 5 1 v l.length (cel l) ∧ Keeps w w'
/-- nothing, and an error -/
def Refused (w : World) (k : Int) (e : Ending) (w' : World) : Prop := e = .returned (.tuple #[.slice none 0 0, .int .i64 k]) ∧ Keeps w w'
structure PageOk : Prop where
  make : ∀ (t n : Nat), t < 4294967296 → n < 4294967296 → ∀ (A : Option Addr) (m c : Nat) (b : List UInt8) (w : World), Sizes w → Bs w A b → m = b.length → m ≤ c → c ≤ maxLen → b.length ≤ 240 →
    Calls Tryd.prog 12 #[.int .u32 t, .int .u32 n, .slice A m c] w (Gave w (pageB t n b))
  many : ∀ (t n : Nat) (A : Option Addr) (m c : Nat) (w : World), 240 < m → m ≤ maxLen →
    Calls Tryd.prog 12 #[.int .u32 t, .int .u32 n, .slice A m c] w (Refused w 9)
  takes : ∀ (t n : Nat), t < 4294967296 → n < 4294967296 → ∀ (A : Option Addr) (m c : Nat) (p : List UInt8) (w : World), Sizes w → Bs w A p → m = p.length → m ≤ c → c ≤ maxLen → IsPage p t n →
    Calls Tryd.prog 19 #[.slice A m c, .int .u32 t, .int .u32 n] w (Gave w (saidB p))
  rot : ∀ (t n : Nat), t < 4294967296 → n < 4294967296 → ∀ (A : Option Addr) (m c : Nat) (p : List UInt8) (w : World), Sizes w → Bs w A p → m = p.length → m ≤ c → c ≤ maxLen → ¬ IsPage p t n →
    Calls Tryd.prog 19 #[.slice A m c, .int .u32 t, .int .u32 n] w (Refused w 7)
  tag : ∀ (l : List UInt8) (w : World), l.length ≤ 100000 → Calls Tryd.prog 16 #[.string (str l)] w fun e w' => e = .returned (.int .u32 (extC 0 l)) ∧ Keeps w w'

def digits : List UInt8 := [49, 50, 51, 52, 53, 54, 55, 56, 57]
theorem digits_sum : extC 0 digits = 3808858755 := by kernel_rfl
def seven : List UInt8 := [7]

set_option maxHeartbeats 1600000 in
theorem works_page (K : PageOk) (w : World) (hS : Sizes w) : Calls Tryd.prog 10 #[] w (Yes7 w) := by
  have k0 := keeps_alloc w (.cells (cel seven).toArray 5)
  have M := Lib.hid (K.make 1 2 (by decide) (by decide) (some ⟨w.heap.size, 0, none⟩) 1 1 seven (w.alloc (.cells (cel seven).toArray 5)) (hS.keep k0) (At.new w _ _ _ (by simp)) rfl (by decide) (by decide) (by decide))
  have hl7 : (pageB 1 2 seven).length = 256 := pageB_length 1 2 (by decide)
  have hy : IsPage (pageB 1 2 seven) 1 2 := isPage_pageB 1 2 seven (by decide)
  have hn : ¬ IsPage (pageB 1 2 seven) 1 3 := fun h => by have := (isPage_other (by decide) (by decide) (by decide) (by decide) seven (by decide)).1 h; simp at this
  have hs : saidB (pageB 1 2 seven) = seven := saidB_pageB 1 2 seven (by decide)
  have t0 : ∀ W, Calls Tryd.prog 16 #[.string ⟨#[49, 50, 51, 52, 53, 54, 55, 56, 57]⟩] W fun e w' => e = .returned (.int .u32 3808858755) ∧ Keeps W w' := fun W => by
    have h := K.tag digits W (by decide)
    rw [digits_sum] at h
    exact h
  have T := Lib.hid t0
  clear t0
  generalize pageB 1 2 seven = p at *
  go_enter Tryd.func10, Tryd.ntmps10
  go_wp2_with fail
  refine M.out.mono ?_
  rintro e w1 ⟨v, rfl, o, k1⟩
  have q1 := keeps_trans k0 k1
  rw [hl7] at o
  obtain ⟨A, c, rfl, hc1, hc2, -, -⟩ := o.form
  have B := Own.at_ o
  go_wp2_with fail
  refine (K.takes 1 2 (by decide) (by decide) A 256 c p w1 (hS.keep q1) B hl7.symm hc1 hc2 hy).mono ?_
  rintro e w2 ⟨v2, rfl, o2, k2⟩
  rw [hs, show seven.length = 1 from rfl] at o2
  obtain ⟨A2, c2, rfl, hc3, hc4, -, -⟩ := o2.form
  have q2 := keeps_trans q1 k2
  go_wp2_with fail
  refine (K.rot 1 3 (by decide) (by decide) A 256 c p w2 (hS.keep q2) (Bs.keep B k2) hl7.symm hc1 hc2 hn).mono ?_
  rintro e w3 ⟨rfl, k3⟩
  have B2 : Bs w3 A2 seven := (Own.at_ (o2.keep k3))
  have cv : (convert 23 9 (.slice A2 1 c2)).run Tryd.prog w3 = .ok (.string ⟨#[7]⟩) w3 := convTo w3 A2 seven 1 c2 rfl B2
  have q3 := keeps_trans q2 k3
  go_wp2_with fail
  refine (T.out w3).mono ?_
  rintro e w4 ⟨rfl, k4⟩
  go_wp2_with fail
  go_ret
  exact ⟨rfl, keeps_trans q3 k4⟩
end Go.Proofs.YtllmmmggepgblaaDoor
