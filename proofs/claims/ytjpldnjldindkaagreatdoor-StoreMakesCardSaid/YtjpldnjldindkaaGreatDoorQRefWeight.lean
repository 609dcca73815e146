/- The contracts of package milepostref03. -/
import Derived.Test.YtjpldnjldindkaaGreatDoorProg
import Derived.Test.YtjpldnjldindkaaGreatDoorQBase
import Derived.Test.YtjpldnjldindkaaGreatDoorQWeightMath
set_option linter.all false
set_option maxRecDepth 100000
namespace Go.Proofs.YtjpldnjldindkaaGreatDoor
open Go.RowKit
theorem ziL (t h x m t' h' x' m':Nat) (hx:x<18446744073709551616) (hm:m<4294967296) (hx':x'<18446744073709551616) (hm':m'<4294967296) (w:World) :
 Calls Tryz.prog 98 #[.agg #[.int .u32 t, .int .u32 h, .int .u64 x, .int .u32 m], .agg #[.int .u32 t', .int .u32 h', .int .u64 x', .int .u32 m']] w fun e w'=>e = .returned (.bool (betB x m x' m'))∧Keeps w w':=by
 have k0:=fun a b=>zK (zA w a) (zA (w.alloc a) b)
 by_cases h1:x<x'
 ·have e1:betB x m x' m'=true:=(by simp [betB,h1]);rw [e1];clear e1;go_enter Tryz.func98,Tryz.ntmps98;go_wp2
  go_ret;exact ⟨rfl,k0 _ _⟩
 ·by_cases h2:x=x'
  ·subst h2;have e1:betB x m x m'=decide (((m:Int)+1)%4294967296<((m':Int)+1)%4294967296):=by
    have e:(mid1 m<mid1 m')↔(((m:Int)+1)%4294967296<((m':Int)+1)%4294967296):=by unfold mid1;omega
    simp [betB,e]
   rw [e1];clear e1;go_enter Tryz.func98,Tryz.ntmps98;go_wp2
   go_ret;exact ⟨rfl,k0 _ _⟩
  ·have e1:betB x m x' m'=false:=(by simp [betB,h1,h2]);have h3:((x:Int) == (x':Int))=false:=by simp;omega
   rw [e1];clear e1;go_enter Tryz.func98,Tryz.ntmps98;go_wp2
   go_ret;exact ⟨rfl,k0 _ _⟩
def numI (l:List UInt8) (at_ size:Nat):Nat:=le ((l.drop at_).take size)
def zoz:List UInt8:=[77,80,71,49]
def zj6:List UInt8→List UInt8→Nat→Option Nat
 | [],_,_=>none
 | _::_,[],i=>some i
 | c::m,d::b,i=>if c=d then zj6 m b (i+1) else some i
structure HRes where
 n:Nat
 m:Nat
 e:Nat
 a:Nat
deriving DecidableEq
def headS (b:List UInt8):HRes:=
 match zj6 zoz b 0 with
 | some i=>⟨0,0,8,i⟩
 | none=>
  if b.length<12 then ⟨0,0,8,b.length⟩
  else if 2147483647<numI b 4 4 then ⟨0,0,9,4⟩
  else if 16777216<numI b 8 4 then ⟨0,0,9,8⟩
  else if numI b 4 4=0∧0<numI b 8 4 then ⟨0,0,8,8⟩
  else ⟨numI b 4 4,numI b 8 4,0,0⟩
def zrX (n m:Nat):List UInt8:=zoz++(nb 4 n++nb 4 m)
def zsG (n m:Nat):Prop:=n≤2147483647∧m≤16777216∧(n=0→m=0)
def zfj:Ed:=⟨0,0,0,0⟩
def nomid (e:Ed):Ed:=⟨e.t,e.h,e.x,4294967295⟩
structure RRes where
 ed:Ed
 e:Nat
 a:Nat
def rowS (b:List UInt8) (n:Nat):RRes:=
 if b.length<16 then ⟨zfj,8,b.length⟩
 else if 16<b.length then ⟨zfj,1,0⟩
 else if n≤numI b 0 4 then ⟨zfj,13,0⟩
 else if n≤numI b 4 4 then ⟨zfj,13,4⟩
 else if fitB n (numI b 8 8)=false then ⟨zfj,11,8⟩
 else ⟨⟨numI b 0 4,numI b 4 4,numI b 8 8,4294967295⟩,0,0⟩
def rowB (e:Ed):List UInt8:=nb 4 e.t++(nb 4 e.h++nb 8 e.x)
def edErr (n:Nat) (e:Ed):Nat×Nat:=
 if n≤e.t then (13,0) else if n≤e.h then (13,4) else if fitB n e.x=false then (11,8) else (0,0)
def rowOk (n:Nat) (e:Ed):Prop:=e.t<n∧e.h<n∧fitB n e.x=true
structure LRes where
 l:List Ed
 e:Nat
 a:Nat
def rowsS (n:Nat):Nat→List UInt8→Nat→LRes
 | 0,b,p=>if b=[] then ⟨[],0,0⟩ else ⟨[],8,p⟩
 | r+1,b,p=>
  if (rowS (b.take 16) n).e=0 then
   (if (rowsS n r (b.drop 16) (p+16)).e=0 then ⟨(rowS (b.take 16) n).ed::(rowsS n r (b.drop 16) (p+16)).l,0,0⟩
    else ⟨[],(rowsS n r (b.drop 16) (p+16)).e,(rowsS n r (b.drop 16) (p+16)).a⟩)
  else ⟨[],(rowS (b.take 16) n).e,p+(rowS (b.take 16) n).a⟩
structure CRes where
 n:Nat
 l:List Ed
 e:Nat
 a:Nat
def zs2 (b:List UInt8):CRes:=
 if (headS b).e=0 then
  (if (rowsS (headS b).n (headS b).m (b.drop 12) 12).e=0 then ⟨(headS b).n,(rowsS (headS b).n (headS b).m (b.drop 12) 12).l,0,0⟩
   else ⟨0,[],(rowsS (headS b).n (headS b).m (b.drop 12) 12).e,(rowsS (headS b).n (headS b).m (b.drop 12) 12).a⟩)
 else ⟨0,[],(headS b).e,(headS b).a⟩
def WOk (n:Nat) (l:List Ed):Prop:=zsG n l.length∧∀ e∈l,rowOk n e
def zoA (n:Nat) (l:List Ed):List UInt8:=zrX n l.length++l.flatMap rowB
end Go.Proofs.YtjpldnjldindkaaGreatDoor
