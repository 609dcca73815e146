/- What the three calls of package page answer: contracts; the law's anchor. -/
import Derived.Test.YtjpldnjldindkaaGreatDoorQPageMath
import Derived.Lib.SlBytesConst
import Derived.Test.YtjpldnjldindkaaGreatDoorQOctetRows
set_option linter.all false
set_option maxHeartbeats 0
set_option maxRecDepth 100000
namespace Go.Proofs.YtjpldnjldindkaaGreatDoor
open Go.RowKit
def Yes7 (w:World) (e:Ending) (w':World):Prop:=e = .returned (.bool true)∧Keeps w w'
def Gave (w:World) (l:List UInt8) (e:Ending) (w':World):Prop:=
 ∃ v,e = .returned (.tuple #[v, .int .i64 0])∧Own w' w.heap.size 5 1 v l.length (cel l)∧Keeps w w'
def zd7 (w:World) (k:Int) (e:Ending) (w':World):Prop:=e = .returned (.tuple #[.slice none 0 0, .int .i64 k])∧Keeps w w'
structure PageOk:Prop where
 make:∀ (t n:Nat),t<4294967296→n<4294967296→∀ (A:Option Addr) (m c:Nat) (b:List UInt8) (w:World),Sizes w→Bs w A b→m=b.length→m≤c→c≤maxLen→b.length≤240→
  Calls Tryz.prog 221 #[.int .u32 t, .int .u32 n, .slice A m c] w (Gave w (pageB t n b))
 many:∀ (t n:Nat) (A:Option Addr) (m c:Nat) (w:World),240<m→m≤maxLen→
  Calls Tryz.prog 221 #[.int .u32 t, .int .u32 n, .slice A m c] w (zd7 w 9)
 takes:∀ (t n:Nat),t<4294967296→n<4294967296→∀ (A:Option Addr) (m c:Nat) (p:List UInt8) (w:World),Sizes w→Bs w A p→m=p.length→m≤c→c≤maxLen→zaS p t n→
  Calls Tryz.prog 244 #[.slice A m c, .int .u32 t, .int .u32 n] w (Gave w (saidB p))
 rot:∀ (t n:Nat),t<4294967296→n<4294967296→∀ (A:Option Addr) (m c:Nat) (p:List UInt8) (w:World),Sizes w→Bs w A p→m=p.length→m≤c→c≤maxLen→¬ zaS p t n→
  Calls Tryz.prog 244 #[.slice A m c, .int .u32 t, .int .u32 n] w (zd7 w 7)
 tag:∀ (l:List UInt8) (w:World),l.length≤100000→Calls Tryz.prog 222 #[.string (str l)] w fun e w'=>e = .returned (.int .u32 (extC 0 l))∧Keeps w w'
def zsW:List UInt8:=[49,50,51,52,53,54,55,56,57]
def seven:List UInt8:=[7]
def lenV:Value→Nat
 | .slice _ n _=>n
 | _=>0
theorem zjp (k:Nat):zar (k+1)=zar k++[0]:=by simp [zar,List.replicate_succ']
theorem zfs (A:Option Addr) (n c:Nat) (l:List UInt8) (x:Nat) (w:World) (hB:Bs w A l) (hnl:n=l.length) (hx:x<18446744073709551616) (hn:n≤140737488354000) :
 Calls Tryz.prog 86 #[.slice A n c, .int .u64 x, .int .i64 4] w (New w (l++nb 4 x)):=zgo A n c l x 4 w hB hnl hx hn
theorem zfL (t n:Nat) (ht:t<4294967296) (hn:n<4294967296) (A:Option Addr) (m c:Nat) (b:List UInt8) (w:World) (hB:Bs w A b) (hm:m=b.length) (hb:b.length≤240) :
 Calls Tryz.prog 63 #[.int .u32 t, .int .u32 n, .slice A m c] w (Gave w (pageB t n b)):=by
 obtain ⟨i0,hi,hz0,hz1,hz2⟩:=info_parts zbB;have hbody:=zbn (b:=b) t n hb;have hpage:=zaF (b:=b) t n hb;have P1:=zH (zfs none 0 0 [] t w (Bs.nil _ _) rfl (by omega) (by decide));have hm240:m≤240:=by omega
 have hbm:b.length=m:=hm.symm;have HM:=zH hm;have HB:=zH hb;clear hm hb;go_enter Tryz.func63,Tryz.ntmps63;go_wp2_with fail
 refine P1.out.mono ?_;rintro e w1 ⟨v1,rfl,o1,k1⟩;obtain ⟨A1,c1,rfl,-,-,-,-⟩:=o1.form;rw [List.nil_append,zad] at o1;go_wp2_with fail
 refine (zfs A1 4 c1 (nb 4 t) n w1 (Own.at_ o1) (zad _ _).symm (by omega) (by omega)).mono ?_;rintro e w2 ⟨v2,rfl,o2,k2⟩;obtain ⟨A2,c2,rfl,-,-,-,-⟩:=o2.form;rw [List.length_append,zad,zad] at o2;have q2:=zK k1 k2;go_wp2_with fail
 refine (zfs A2 8 c2 (nb 4 t++nb 4 n) m w2 (Own.at_ o2) (by simp [zad]) (by omega) (by omega)).mono ?_;rintro e w3 ⟨v3,rfl,o3,k3⟩;have q3:=zK q2 k3;have e3:nb 4 t++nb 4 n++nb 4 m=headB t n b.length:=by rw [HM.out];rfl
 rw [e3,zaP] at o3;have o3':=o3.base_le q2.size;clear o3 o2 o1;go_wp2_with (first
  | (at_builtin;refine zaj _ rfl _ _ 39 rfl w.heap.size 5 i0 (.int .u8 0) 1 1 Tryz.underlying39 hi hz0 hz1 hz2 rfl (by decide) _ _ _ rfl o3' w3.heap.size A m c (cel b) rfl (by rw [zaq,hbm,Nat.mul_one]) (hB.keep q3) (za3 b) (by unfold maxLen;omega) (by omega) q3.size ?_;intro v4 w4 o4 g4 b4))
 have k4:Keeps w w4:=Below.grown q3 g4 q3.size (fun g hg=>(o3'.lt g hg).1);rw [←zax] at o4;have st:Own w4 w.heap.size 5 1 v4 (12+m+0) (cel (headB t n b.length++(b++zar 0))):=by simpa [zar] using o4
 clear o4 g4 b4 o3';go_loopw [8] (fun v wr=>∃ k N:Nat,k≤240-m∧N=12+m+k∧Own wr w.heap.size 5 1 v N (cel (headB t n b.length++(b++zar k)))∧Keeps w wr) (fun v _=>252-lenV v)
 case atStart=>exact ⟨0,_,by omega,rfl,st,k4⟩
 case round=>
  obtain ⟨k,N,hk,hN,o5,k5⟩:=hrel;obtain ⟨A5,c5,rfl,hc5,hc5',-,-⟩:=o5.form;by_cases hlt:k<240-m
  ·have hlt1:(N:Int)<252:=(by omega);have hS:=k5.size;go_wp2_with (first
    | (at_builtin;refine zaj _ rfl _ _ 39 rfl w.heap.size 5 i0 (.int .u8 0) 1 1 Tryz.underlying39 hi hz0 hz1 hz2 rfl (by decide) _ _ _ rfl (o5.keep (zA _ _)) (wr.heap.size+1) _ 1 1 [.int .u8 0] rfl rfl (At.new _ _ _ _ (by omega)) (fun u hu=>by simp at hu;subst hu;rfl) (by unfold maxLen;omega) (by omega) (by simp;omega) ?_;intro v6 w6 o6 g6 b6))
   have k6:Keeps w w6:=Below.grown (zK k5 (zA wr _)) g6 (by simp;omega) (fun g hg=>(o5.lt g hg).1);have o7:Own w6 w.heap.size 5 1 v6 (N+1) (cel (headB t n b.length++(b++zar (k+1)))):=by
    rw [zjp,←List.append_assoc,←List.append_assoc,zax];rw [←List.append_assoc] at o6;exact o6
   obtain ⟨A6,c6,rfl,hc6,hc6',-,-⟩:=o7.form;go_roundw
   case rel=>exact ⟨k+1,N+1,by omega,by omega,o7,k6⟩
   case measure=>simp [lenV];omega
  ·obtain rfl:k=240-m:=(by omega);obtain rfl:N=252:=by omega
   have e5:headB t n b.length++(b++zar (240-m))=bodyB t n b:=by rw [HM.out];rfl
   rw [e5] at o5;have R:=zH (zgp A5 252 c5 (bodyB t n b) wr (Own.at_ o5) hbody.symm (by decide));have hsum:=zcA (s:=0) (by decide) (bodyB t n b);have PS:=zH (zfs A5 252 c5 (bodyB t n b) (extC 0 (bodyB t n b)) wr (Own.at_ o5) hbody.symm (by omega) (by decide));clear hlt hk hN e5;have hpg:bodyB t n b++nb 4 (extC 0 (bodyB t n b))=pageB t n b:=rfl;rw [hpg] at PS;generalize extC 0 (bodyB t n b)=x at *;go_wp2_with (first
    | (go_at_call 99;refine R.out.mono ?_;rintro e w' ⟨rfl,rfl⟩)
    | (go_at_call 86;refine PS.out.mono ?_;rintro e w7 ⟨v7,rfl,o7,k7⟩))
   go_ret2
   exact ⟨v7,rfl,o7.base_le k5.size,zK k5 k7⟩
theorem zgI (l:List UInt8) (w:World) (hl:l.length≤1000000):Calls Tryz.prog 64 #[.string (str l)] w fun e w'=>e = .returned (.int .u32 (extC 0 l))∧Keeps w w':=by
 have cv:=zfW w (str l);have o:=zcB w 5 l (by unfold maxLen;omega);have k:=zb7 w 5 (str l);rw [←zaJ l] at o;have R:=zH (zgp _ _ (grownCap w (str l).size 0 5) l _ (Own.at_ o) (zaJ l) (by rw [zaJ];omega));generalize Lib.bytesWorld w 5 (str l)=w1 at *;generalize grownCap w (str l).size 0 5=cap at *;generalize str l=x at *;clear o;go_enter Tryz.func64,Tryz.ntmps64;go_wp2_with (first
  | (go_at_call 99;refine R.out.mono ?_;rintro e w' ⟨rfl,rfl⟩))
 go_ret;exact ⟨rfl,k⟩
def Res (w:World) (L:List UInt8) (k:Int) (e:Ending) (w':World):Prop:=
 ∃ A c,e = .returned (.tuple #[.slice A L.length c, .int .i64 k])∧Own w' w.heap.size 5 1 (.slice A L.length c) L.length (cel L)∧L.length≤c∧c≤maxLen∧Keeps w w'
def makeL (t n:Nat) (b:List UInt8):List UInt8:=if b.length≤240 then pageB t n b else []
def makeK (b:List UInt8):Int:=if b.length≤240 then 0 else 9
instance (p:List UInt8) (t n:Nat):Decidable (zaS p t n):=by unfold zaS;exact inferInstance
def openL (p:List UInt8) (t n:Nat):List UInt8:=if zaS p t n then saidB p else []
def openK (p:List UInt8) (t n:Nat):Int:=if zaS p t n then 0 else 7
theorem zjq (s:Nat):(madeCells (Value.int .u8 0).cells (s*1)).toList=cel (zar s):=by
 rw [Nat.mul_one];apply List.ext_getElem?;intro j;by_cases hj:j<s
 ·simp [madeCells,zar,cel,hj,Value.cells,Nat.mod_one]
 ·simp [madeCells,zar,cel,hj,Value.cells]
end Go.Proofs.YtjpldnjldindkaaGreatDoor
