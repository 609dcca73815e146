/- The contracts of package milepostref03. -/
import Derived.Test.YthoklfbnmndclaaGreatDoorProg
import Derived.Test.YthoklfbnmndclaaGreatDoorQBase
import Derived.Test.YthoklfbnmndclaaGreatDoorQWeightMath
set_option linter.unusedVariables false
set_option linter.unusedSimpArgs false
set_option maxRecDepth 100000
namespace Go.Proofs.YthoklfbnmndclaaGreatDoor
open Go.RowKit
theorem hD {p:Prop} (h:p):Hid p:=Lib.hid h
theorem kT {a b c:World} (h:Keeps a b) (k:Keeps b c):Keeps a c:=keeps_trans h k
theorem kA2 (w:World) (o:Obj):Keeps w (w.alloc o):=keeps_alloc w o
theorem refBetter_any (t h x m t' h' x' m':Nat) (hx:x<18446744073709551616) (hm:m<4294967296) (hx':x'<18446744073709551616) (hm':m'<4294967296) (w:World) :
 Calls Tryz.prog 81 #[.agg #[.int .u32 t, .int .u32 h, .int .u64 x, .int .u32 m], .agg #[.int .u32 t', .int .u32 h', .int .u64 x', .int .u32 m']] w fun e w'=>e = .returned (.bool (betB x m x' m'))∧Keeps w w':=by
 have k0:=fun a b=>kT (kA2 w a) (kA2 (w.alloc a) b)
 by_cases h1:x<x'
 ·have e1:betB x m x' m'=true:=by simp [betB,h1]
  rw [e1]
  clear e1
  go_enter Tryz.func81,Tryz.ntmps81
  go_wp2
  go_ret
  exact ⟨rfl,k0 _ _⟩
 ·by_cases h2:x=x'
  ·subst h2
   have e1:betB x m x m'=decide (((m:Int)+1)%4294967296<((m':Int)+1)%4294967296):=by
    have e:(mid1 m<mid1 m')↔(((m:Int)+1)%4294967296<((m':Int)+1)%4294967296):=by unfold mid1;omega
    simp [betB,e]
   rw [e1]
   clear e1
   go_enter Tryz.func81,Tryz.ntmps81
   go_wp2
   go_ret
   exact ⟨rfl,k0 _ _⟩
  ·have e1:betB x m x' m'=false:=by simp [betB,h1,h2]
   have h3:((x:Int) == (x':Int))=false:=by simp;omega
   rw [e1]
   clear e1
   go_enter Tryz.func81,Tryz.ntmps81
   go_wp2
   go_ret
   exact ⟨rfl,k0 _ _⟩
def numI (l:List UInt8) (at_ size:Nat):Nat:=le ((l.drop at_).take size)
theorem numI_lt (l:List UInt8) (p s:Nat):numI l p s<256^s:=by
 unfold numI
 have h1:=le_lt ((l.drop p).take s)
 have h2:256^((l.drop p).take s).length≤256^s:=Nat.pow_le_pow_right (by decide) (by rw [List.length_take];omega)
 omega
theorem nb_numI (l:List UInt8) (p s:Nat) (h:p+s≤l.length):nb s (numI l p s)=(l.drop p).take s:=by
 have e:((l.drop p).take s).length=s:=by rw [List.length_take,List.length_drop];omega
 have:=nb_le ((l.drop p).take s)
 rw [e] at this
 exact this
def magicL:List UInt8:=[77,80,71,49]
def firstBad:List UInt8→List UInt8→Nat→Option Nat
 | [],_,_=>none
 | _::_,[],i=>some i
 | c::m,d::b,i=>if c=d then firstBad m b (i+1) else some i
structure HRes where
 n:Nat
 m:Nat
 e:Nat
 a:Nat
deriving DecidableEq
def headS (b:List UInt8):HRes:=
 match firstBad magicL b 0 with
 | some i=>⟨0,0,8,i⟩
 | none=>
  if b.length<12 then ⟨0,0,8,b.length⟩
  else if 2147483647<numI b 4 4 then ⟨0,0,9,4⟩
  else if 16777216<numI b 8 4 then ⟨0,0,9,8⟩
  else if numI b 4 4=0∧0<numI b 8 4 then ⟨0,0,8,8⟩
  else ⟨numI b 4 4,numI b 8 4,0,0⟩
def inHeadB (n m:Nat):List UInt8:=magicL++(nb 4 n++nb 4 m)
def HeadOk (n m:Nat):Prop:=n≤2147483647∧m≤16777216∧(n=0→m=0)
def zeroEd:Ed:=⟨0,0,0,0⟩
def nomid (e:Ed):Ed:=⟨e.t,e.h,e.x,4294967295⟩
structure RRes where
 ed:Ed
 e:Nat
 a:Nat
def rowS (b:List UInt8) (n:Nat):RRes:=
 if b.length<16 then ⟨zeroEd,8,b.length⟩
 else if 16<b.length then ⟨zeroEd,1,0⟩
 else if n≤numI b 0 4 then ⟨zeroEd,13,0⟩
 else if n≤numI b 4 4 then ⟨zeroEd,13,4⟩
 else if fitB n (numI b 8 8)=false then ⟨zeroEd,11,8⟩
 else ⟨⟨numI b 0 4,numI b 4 4,numI b 8 8,4294967295⟩,0,0⟩
def rowB (e:Ed):List UInt8:=nb 4 e.t++(nb 4 e.h++nb 8 e.x)
theorem rowB_length (e:Ed):(rowB e).length=16:=by simp [rowB,nb_length]
theorem rowB_nomid (e:Ed):rowB (nomid e)=rowB e:=rfl
theorem rowB_nums (e:Ed) (ht:e.t<4294967296) (hh:e.h<4294967296) (hx:e.x<18446744073709551616):numI (rowB e) 0 4=e.t∧numI (rowB e) 4 4=e.h∧numI (rowB e) 8 8=e.x:=by
 refine ⟨?_,?_,?_⟩
 ·have:((rowB e).drop 0).take 4=nb 4 e.t:=List.take_left' (nb_length 4 e.t)
  unfold numI
  rw [this,le_nb]
  exact Nat.mod_eq_of_lt (by omega)
 ·have h1:(rowB e).drop 4=nb 4 e.h++nb 8 e.x:=List.drop_left' (nb_length 4 e.t)
  have:((rowB e).drop 4).take 4=nb 4 e.h:=by rw [h1];exact List.take_left' (nb_length 4 e.h)
  unfold numI
  rw [this,le_nb]
  exact Nat.mod_eq_of_lt (by omega)
 ·have h0:rowB e=(nb 4 e.t++nb 4 e.h)++nb 8 e.x:=by simp [rowB]
  have h1:(rowB e).drop 8=nb 8 e.x:=by rw [h0];exact List.drop_left' (by simp [nb_length])
  have:((rowB e).drop 8).take 8=nb 8 e.x:=by rw [h1];exact List.take_of_length_le (by rw [nb_length];omega)
  unfold numI
  rw [this,le_nb]
  exact Nat.mod_eq_of_lt (by omega)
def edErr (n:Nat) (e:Ed):Nat×Nat:=
 if n≤e.t then (13,0) else if n≤e.h then (13,4) else if fitB n e.x=false then (11,8) else (0,0)
def rowOk (n:Nat) (e:Ed):Prop:=e.t<n∧e.h<n∧fitB n e.x=true
theorem edErr_ok {n:Nat} {e:Ed}:rowOk n e↔(edErr n e).1=0:=by
 unfold rowOk edErr
 by_cases h1:n≤e.t
 ·rw [if_pos h1];simp;omega
 ·rw [if_neg h1]
  by_cases h2:n≤e.h
  ·rw [if_pos h2];simp;omega
  ·rw [if_neg h2]
   cases h3:fitB n e.x
   ·simp
   ·simp;omega
theorem rowS_rowB (n:Nat) (e:Ed) (ht:e.t<4294967296) (hh:e.h<4294967296) (hx:e.x<18446744073709551616) :
 rowS (rowB e) n=if (edErr n e).1=0 then ⟨nomid e,0,0⟩ else ⟨zeroEd,(edErr n e).1,(edErr n e).2⟩:=by
 obtain ⟨h1,h2,h3⟩:=rowB_nums e ht hh hx
 unfold rowS edErr
 rw [rowB_length,if_neg (by omega),if_neg (by omega),h1,h2,h3]
 by_cases c1:n≤e.t
 ·simp [c1]
 ·by_cases c2:n≤e.h
  ·simp [c1,c2]
  ·cases c3:fitB n e.x
   ·simp [c1,c2]
   ·simp [c1,c2,nomid]
theorem row_bytes (b:List UInt8) (h:b.length=16):b=rowB ⟨numI b 0 4,numI b 4 4,numI b 8 8,4294967295⟩:=by
 unfold rowB
 simp only
 rw [nb_numI b 0 4 (by omega),nb_numI b 4 4 (by omega),nb_numI b 8 8 (by omega)]
 have a1:=(List.take_append_drop 4 b).symm
 have a2:=(List.take_append_drop 4 (b.drop 4)).symm
 rw [List.drop_drop] at a2
 have a3:(b.drop 8).take 8=b.drop 8:=List.take_of_length_le (by rw [List.length_drop];omega)
 rw [a3,List.drop_zero,←a2]
 exact a1
theorem row_ed_ok (b:List UInt8):EdOk ⟨numI b 0 4,numI b 4 4,numI b 8 8,4294967295⟩:=
 ⟨by have:=numI_lt b 0 4;simpa using this,by have:=numI_lt b 4 4;simpa using this,by have:=numI_lt b 8 8;simpa using this,by show 4294967295<4294967296;decide⟩
theorem rowS_short (b:List UInt8) (n:Nat) (h:b.length<16):rowS b n=⟨zeroEd,8,b.length⟩:=by unfold rowS;rw [if_pos h]
structure LRes where
 l:List Ed
 e:Nat
 a:Nat
def rowsS (n:Nat):Nat→List UInt8→Nat→LRes
 | 0,b,p=>if b=[] then ⟨[],0,0⟩ else ⟨[],8,p⟩
 | r+1,b,p=>
  if (rowS (b.take 16) n).e=0 then
   (if (rowsS n r (b.drop 16) (p+16)).e=0 then ⟨(rowS (b.take 16) n).ed::(rowsS n r (b.drop 16) (p+16)).l,0,0⟩
    else ⟨[],(rowsS n r (b.drop 16) (p+16)).e,(rowsS n r (b.drop 16) (p+16)).a⟩)
  else ⟨[],(rowS (b.take 16) n).e,p+(rowS (b.take 16) n).a⟩
theorem rowsS_cons (n r:Nat) (e:Ed) (he:EdOk e) (b:List UInt8) (p:Nat):rowsS n (r+1) (rowB e++b) p =
 if (edErr n e).1=0 then (if (rowsS n r b (p+16)).e=0 then ⟨nomid e::(rowsS n r b (p+16)).l,0,0⟩ else ⟨[],(rowsS n r b (p+16)).e,(rowsS n r b (p+16)).a⟩)
 else ⟨[],(edErr n e).1,p+(edErr n e).2⟩:=by
 have t1:(rowB e++b).take 16=rowB e:=List.take_left' (rowB_length e)
 have t2:(rowB e++b).drop 16=b:=List.drop_left' (rowB_length e)
 rw [rowsS,t1,t2,rowS_rowB n e he.t he.h he.x]
 by_cases c:(edErr n e).1=0
 ·simp only [if_pos c,if_true]
 ·simp only [if_neg c]
theorem rowsS_short (n r:Nat) (b:List UInt8) (p:Nat) (h:b.length<16):rowsS n (r+1) b p=⟨[],8,p+b.length⟩:=by
 have t:(b.take 16)=b:=List.take_of_length_le (by omega)
 rw [rowsS,t,rowS_short b n h]
 simp
theorem split16 (b:List UInt8):b.length<16∨∃ e c,EdOk e∧e.m=4294967295∧b=rowB e++c:=by
 by_cases h:b.length<16
 ·exact .inl h
 ·right
  have hl:(b.take 16).length=16:=by rw [List.length_take];omega
  refine ⟨_,b.drop 16,row_ed_ok (b.take 16),rfl,?_⟩
  rw [←row_bytes (b.take 16) hl,List.take_append_drop]
theorem rows_inv {n:Nat}:∀ (r:Nat) (b:List UInt8) (p:Nat),(rowsS n r b p).e=0→(rowsS n r b p).a=0∧(rowsS n r b p).l.length=r∧b=(rowsS n r b p).l.flatMap rowB∧(∀ e∈(rowsS n r b p).l,EdOk e∧rowOk n e∧e.m=4294967295):=by
 intro r
 induction r with
 | zero=>
  intro b p h
  unfold rowsS at h ⊢
  by_cases hb:b=[]
  ·rw [if_pos hb];simp [hb]
  ·rw [if_neg hb] at h;simp at h
 | succ r ih=>
  intro b p h
  rcases split16 b with hs|⟨e,c,he,hm,rfl⟩
  ·rw [rowsS_short n r b p hs] at h;simp at h
  ·rw [rowsS_cons n r e he] at h ⊢
   by_cases c1:(edErr n e).1=0
   ·rw [if_pos c1] at h ⊢
    by_cases c2:(rowsS n r c (p+16)).e=0
    ·rw [if_pos c2]
     obtain ⟨h1,h2,h3,h4⟩:=ih c (p+16) c2
     have hne:nomid e=e:=by cases e;simp only at hm;subst hm;rfl
     refine ⟨rfl,by simp [h2],?_,?_⟩
     ·simp only [List.flatMap_cons]
      rw [rowB_nomid,←h3]
     ·intro f hf
      rcases List.mem_cons.1 hf with rfl|hf
      ·rw [hne];exact ⟨he,edErr_ok.2 c1,hm⟩
      ·exact h4 f hf
    ·rw [if_neg c2] at h;exact absurd h c2
   ·rw [if_neg c1] at h;exact absurd h c1
theorem rows_none {n:Nat} (r:Nat) (b:List UInt8) (p:Nat) (h:(rowsS n r b p).e≠0):(rowsS n r b p).l=[]:=by
 cases r with
 | zero=>unfold rowsS; split<;>rfl
 | succ r=>
  rw [rowsS] at h ⊢
  split
  ·rename_i h1
   rw [if_pos h1] at h
   split
   ·rename_i h2
    rw [if_pos h2] at h
    exact absurd rfl h
   ·rfl
  ·rfl
structure CRes where
 n:Nat
 l:List Ed
 e:Nat
 a:Nat
def checkS (b:List UInt8):CRes:=
 if (headS b).e=0 then
  (if (rowsS (headS b).n (headS b).m (b.drop 12) 12).e=0 then ⟨(headS b).n,(rowsS (headS b).n (headS b).m (b.drop 12) 12).l,0,0⟩
   else ⟨0,[],(rowsS (headS b).n (headS b).m (b.drop 12) 12).e,(rowsS (headS b).n (headS b).m (b.drop 12) 12).a⟩)
 else ⟨0,[],(headS b).e,(headS b).a⟩
def WOk (n:Nat) (l:List Ed):Prop:=HeadOk n l.length∧∀ e∈l,rowOk n e
def writeB (n:Nat) (l:List Ed):List UInt8:=inHeadB n l.length++l.flatMap rowB
end Go.Proofs.YthoklfbnmndclaaGreatDoor
