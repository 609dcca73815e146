/- What the three calls of package page answer: contracts; the law's anchor. -/
import Derived.Test.YtjmkagakdhhigaaGreatDoorQPageMath
import Derived.Test.YtjmkagakdhhigaaGreatDoorQRefA
import Derived.Deep.RegionHeld3
import Derived.Lib.SlBytesConst
import Derived.Test.YtjmkagakdhhigaaGreatDoorQOctetRows
import Derived.Test.YtjmkagakdhhigaaGreatDoorQBase
import Derived.OwnWalk
set_option linter.unusedVariables false
set_option linter.unusedSimpArgs false
set_option maxRecDepth 100000
namespace Go.Proofs.YtjmkagakdhhigaaGreatDoor
open Go.RowKit
def Yes7 (w:World) (e:Ending) (w':World):Prop:=e = .returned (.bool true)∧Keeps w w'
def Gave (w:World) (l:List UInt8) (e:Ending) (w':World):Prop:=
 ∃ v,e = .returned (.tuple #[v, .int .i64 0])∧Own w' w.heap.size 5 1 v l.length (cel l)∧Keeps w w'
def Refused (w:World) (k:Int) (e:Ending) (w':World):Prop:=e = .returned (.tuple #[.slice none 0 0, .int .i64 k])∧Keeps w w'
structure PageOk:Prop where
 make:∀ (t n:Nat),t<4294967296→n<4294967296→∀ (A:Option Addr) (m c:Nat) (b:List UInt8) (w:World),Sizes w→Bs w A b→m=b.length→m≤c→c≤maxLen→b.length≤240→
  Calls Tryz.prog 164 #[.int .u32 t, .int .u32 n, .slice A m c] w (Gave w (pageB t n b))
 many:∀ (t n:Nat) (A:Option Addr) (m c:Nat) (w:World),240<m→m≤maxLen→
  Calls Tryz.prog 164 #[.int .u32 t, .int .u32 n, .slice A m c] w (Refused w 9)
 takes:∀ (t n:Nat),t<4294967296→n<4294967296→∀ (A:Option Addr) (m c:Nat) (p:List UInt8) (w:World),Sizes w→Bs w A p→m=p.length→m≤c→c≤maxLen→IsPage p t n→
  Calls Tryz.prog 262 #[.slice A m c, .int .u32 t, .int .u32 n] w (Gave w (saidB p))
 rot:∀ (t n:Nat),t<4294967296→n<4294967296→∀ (A:Option Addr) (m c:Nat) (p:List UInt8) (w:World),Sizes w→Bs w A p→m=p.length→m≤c→c≤maxLen→¬ IsPage p t n→
  Calls Tryz.prog 262 #[.slice A m c, .int .u32 t, .int .u32 n] w (Refused w 7)
 tag:∀ (l:List UInt8) (w:World),l.length≤100000→Calls Tryz.prog 165 #[.string (str l)] w fun e w'=>e = .returned (.int .u32 (extC 0 l))∧Keeps w w'
def digits:List UInt8:=[49,50,51,52,53,54,55,56,57]
def seven:List UInt8:=[7]
def lenV:Value→Nat
 | .slice _ n _=>n
 | _=>0
def Res (w:World) (L:List UInt8) (k:Int) (e:Ending) (w':World):Prop:=
 ∃ A c,e = .returned (.tuple #[.slice A L.length c, .int .i64 k])∧Own w' w.heap.size 5 1 (.slice A L.length c) L.length (cel L)∧L.length≤c∧c≤maxLen∧Keeps w w'
def makeL (t n:Nat) (b:List UInt8):List UInt8:=if b.length≤240 then pageB t n b else []
def makeK (b:List UInt8):Int:=if b.length≤240 then 0 else 9
instance (p:List UInt8) (t n:Nat):Decidable (IsPage p t n):=by unfold IsPage;exact inferInstance
def openL (p:List UInt8) (t n:Nat):List UInt8:=if IsPage p t n then saidB p else []
def openK (p:List UInt8) (t n:Nat):Int:=if IsPage p t n then 0 else 7
theorem made_noughts (s:Nat):(madeCells (Value.int .u8 0).cells (s*1)).toList=cel (noughts s):=by
 rw [Nat.mul_one]
 apply List.ext_getElem?
 intro j
 by_cases hj:j<s
 · simp [madeCells,noughts,cel,hj,Value.cells,Nat.mod_one]
 · simp [madeCells,noughts,cel,hj,Value.cells]
end Go.Proofs.YtjmkagakdhhigaaGreatDoor
