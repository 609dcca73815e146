/- What the three calls of package page answer: contracts; the law's anchor. -/
import Derived.Test.YtmholhjdpkfleaaDoorQPageMath
import Derived.Test.YtmholhjdpkfleaaDoorQRefA
import Derived.Deep.RegionHeld3
import Derived.Lib.SlBytesConst
namespace Go.Proofs.YtmholhjdpkfleaaDoor
open Go.RowKit
set_option linter.unusedSimpArgs false
set_option linter.unusedVariables false
set_option maxRecDepth 100000

/-- What a law leaves. -/
def Yes7 (w : World) (e : Ending) (w' : World) : Prop := e = .returned (.bool true) ∧ Keeps w w'
/-- bytes in new memory, and no error -/
def Gave (w : World) (l : List UInt8) (e : Ending) (w' : World) : Prop :=
  ∃ v, e = .returned (.tuple #[v, .int .i64 0]) ∧ Own w' w.heap.size 5 1 v l.length (cel l) ∧ Keeps w w'
/-- nothing, and an error -/
def Refused (w : World) (k : Int) (e : Ending) (w' : World) : Prop := e = .returned (.tuple #[.slice none 0 0, .int .i64 k]) ∧ Keeps w w'
structure PageOk : Prop where
  make : ∀ (t n : Nat), t < 4294967296 → n < 4294967296 → ∀ (A : Option Addr) (m c : Nat) (b : List UInt8) (w : World), Sizes w → Bs w A b → m = b.length → m ≤ c → c ≤ maxLen → b.length ≤ 240 →
    Calls Tryd.prog 71 #[.int .u32 t, .int .u32 n, .slice A m c] w (Gave w (pageB t n b))
  many : ∀ (t n : Nat) (A : Option Addr) (m c : Nat) (w : World), 240 < m → m ≤ maxLen →
    Calls Tryd.prog 71 #[.int .u32 t, .int .u32 n, .slice A m c] w (Refused w 9)
  takes : ∀ (t n : Nat), t < 4294967296 → n < 4294967296 → ∀ (A : Option Addr) (m c : Nat) (p : List UInt8) (w : World), Sizes w → Bs w A p → m = p.length → m ≤ c → c ≤ maxLen → IsPage p t n →
    Calls Tryd.prog 78 #[.slice A m c, .int .u32 t, .int .u32 n] w (Gave w (saidB p))
  rot : ∀ (t n : Nat), t < 4294967296 → n < 4294967296 → ∀ (A : Option Addr) (m c : Nat) (p : List UInt8) (w : World), Sizes w → Bs w A p → m = p.length → m ≤ c → c ≤ maxLen → ¬ IsPage p t n →
    Calls Tryd.prog 78 #[.slice A m c, .int .u32 t, .int .u32 n] w (Refused w 7)
  tag : ∀ (l : List UInt8) (w : World), l.length ≤ 100000 → Calls Tryd.prog 72 #[.string (str l)] w fun e w' => e = .returned (.int .u32 (extC 0 l)) ∧ Keeps w w'

def digits : List UInt8 := [49, 50, 51, 52, 53, 54, 55, 56, 57]
theorem digits_sum : extC 0 digits = 3808858755 := by kernel_rfl
def seven : List UInt8 := [7]

end Go.Proofs.YtmholhjdpkfleaaDoor
