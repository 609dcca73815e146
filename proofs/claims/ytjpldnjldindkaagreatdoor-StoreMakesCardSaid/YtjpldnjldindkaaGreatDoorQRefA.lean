/- The contracts of package milepostref00: lists that say the same, lists in new memory, guards. -/
import Derived.Test.YtjpldnjldindkaaGreatDoorQBase
import Derived.Test.YtjpldnjldindkaaGreatDoorProg
import Derived.Deep.RegionHeld3
set_option linter.all false
set_option maxHeartbeats 0
set_option maxRecDepth 100000
namespace Go.Proofs.YtjpldnjldindkaaGreatDoor
open Go.RowKit
theorem ziY (W:World) (A:Option Addr) (l:List UInt8) (n cap:Nat) (hn:n=l.length) (h:Bs W A l):(convert 39 9 (.slice A n cap)).run Tryz.prog W = .ok (.string (str l)) W:=
 zhd W 39 5 9 Tryz.underlying39 Tryz.underlying5 Tryz.underlying9 A l n cap hn h
theorem zfW (W:World) (s:ByteArray):(convert 9 39 (.string s)).run Tryz.prog W = .ok (.slice (some ⟨W.heap.size,0,none⟩) s.size (grownCap W s.size 0 5)) (Lib.bytesWorld W 5 s):=
 Lib.run_convert_string_bytes W 9 39 5 s Tryz.underlying9 Tryz.underlying39 Tryz.underlying5
theorem zb7 (w:World) (e:TypeId) (s:ByteArray):Keeps w (Lib.bytesWorld w e s):=
 ⟨by simp [Lib.bytesWorld,World.freeze,World.alloc,World.drew,-World.alloc_eq,-World.drew_eq],by simp [Lib.bytesWorld,World.freeze,World.alloc,World.drew,-World.alloc_eq,-World.drew_eq],by simp [Lib.bytesWorld,World.freeze,World.alloc,World.drew,-World.alloc_eq,-World.drew_eq],by rw [Lib.bytesWorld_size];omega,fun k hk=>Lib.bytesWorld_at_old w e s k hk⟩
theorem zcB (w:World) (e:TypeId) (l:List UInt8) (hl:l.length≤maxLen):Own (Lib.bytesWorld w e (str l)) w.heap.size e 1 (.slice (some ⟨w.heap.size,0,none⟩) l.length (grownCap w l.length 0 e)) l.length (cel l):=by
 have hge:=grownCap_ge w l.length 0 e;have hs:(Lib.bytesCells w e (str l)).size=grownCap w l.length 0 e:=by
  simp only [Lib.bytesCells,Array.size_append,Array.size_map,Array.size_replicate];have e1:(str l).data.size=l.length:=by simp [str]
  rw [e1,zaJ];omega
 refine ⟨by simp [zaq], .inr ⟨w.heap.size,_,_,_,rfl,Nat.le_refl _,Lib.bytesWorld_at_new w e (str l), .inr (Nat.le_refl _),hge,grownCap_le_maxLen w l.length 0 e hl,by rw [hs,Nat.mul_one],?_⟩⟩;simp only [Lib.bytesCells,Array.toList_append,Array.toList_map,Nat.mul_one];have e2:(List.map (fun b:UInt8=>Value.int .u8 b.toNat) (str l).data.toList)=cel l:=by rw [zdh];rfl
 rw [e2,←zaq l];exact List.take_left
def New (w:World) (l:List UInt8) (e:Ending) (w':World):Prop:=
 ∃ v',e = .returned v'∧Own w' w.heap.size 5 1 v' l.length (cel l)∧Keeps w w'
theorem ziF (A:Option Addr) (n c:Nat) (l:List UInt8) (w:World) (hB:Bs w A l) (hn:n=l.length) (hlen:n≤maxLen) :
 Calls Tryz.prog 111 #[.slice A n c] w (New w l):=by
 have hl':l.length≤9223372036854775807:=by unfold maxLen at hlen;omega
 by_cases h0:l.length=0
 ·obtain rfl:=List.eq_nil_of_length_eq_zero h0;obtain rfl:n=0:=hn;go_enter Tryz.func111,Tryz.ntmps111;go_wp2
  go_ret;exact ⟨_,rfl,Own.nil _ _ _ _,zab _⟩
 ·have h1:((n:Int) == 0)=false:=by simp;omega
  have k1:=ziY w A l n c hn hB;have k2:=zfW w (str l);have hlen':l.length≤maxLen:=by omega
  have HN:=zH hn;clear hn h0;go_enter Tryz.func111,Tryz.ntmps111;go_wp2
  go_ret;refine ⟨_,rfl,?_,zb7 _ _ _⟩;have o:=zcB w 5 l hlen';rw [←zaJ l] at o;rw [←zaJ l];exact o
theorem zkh (A:Option Addr) (n c:Nat) (l:List UInt8) (B:Option Addr) (m d:Nat) (k:List UInt8) (w:World) (hA:Bs w A l) (hn:n=l.length) (hB:Bs w B k) (hm:m=k.length) :
 Calls Tryz.prog 11 #[.slice A n c, .slice B m d] w fun e w'=>e = .returned (.bool (decide (l=k)))∧w=w':=by
 have k1:=ziY w A l n c hn hA;have k2:=ziY w B k m d hm hB;by_cases h:n=m
 ·subst h;have e1:(decide (l=k))=((str l).toList == (str k).toList):=by
   rw [zaL,zaL];by_cases e:l=k<;>simp [e]
  rw [e1];have HN:=zH hn;have HM:=zH hm;clear hn hm e1;go_enter Tryz.func11,Tryz.ntmps11;go_wp2
  go_ret;exact ⟨rfl,rfl⟩
 ·have e1:(decide (l=k))=false:=decide_eq_false (fun e=>h (by rw [hn,hm,e]));rw [e1];have h':((n:Int) == (m:Int))=false:=by simp;omega
  have HN:=zH hn;have HM:=zH hm;clear hn hm h e1;go_enter Tryz.func11,Tryz.ntmps11;go_wp2
  go_ret;exact ⟨rfl,rfl⟩
def gd:List UInt8:=[0xd1,0x0e,0xa5,0x5a,0x77,0xfe,0x13]
structure Room (w w':World) (l:List UInt8) (ad:Addr) (cap:Nat):Prop where
 bytes:Bs w' (some ad) (l++gd)
 fits:l.length+7≤cap
 max:cap≤maxLen
 new:w.heap.size≤ad.block
 kept:Keeps w w'
def zsT (w:World) (l:List UInt8) (e:Ending) (w':World):Prop:=∃ ad cap,e = .returned (.slice (some ad) l.length cap)∧Room w w' l ad cap
def strs (L:List (List UInt8)):List Value:=L.map fun l=>.string (str l)
abbrev Rs:=List (Value×List UInt8)
def Lists (w:World) (base:Nat) (R:Rs):Prop:=∀ (j:Nat) (p:Value×List UInt8),R[j]? = some p→Own w base 5 1 p.1 p.2.length (cel p.2)
def zr6 (R:Rs):Prop:=∀ (i j:Nat) (p q:Value×List UInt8),i≠j→R[i]? = some p→R[j]? = some q→p.1.ownBlock=none∨p.1.ownBlock≠q.1.ownBlock
def Texts (w:World) (L:List (List UInt8)) (e:Ending) (w':World):Prop:=
 ∃ v',e = .returned v'∧Own w' w.heap.size 9 1 v' L.length (strs L)∧Keeps w w'
def zsU (w:World) (base:Nat) (v:Value) (l:List UInt8) (b:UInt8) (e:Ending) (w':World):Prop:=
 ∃ u,e = .returned u∧Own w' base 5 1 u (l.length+40) (cel (l++List.replicate 40 b))∧Own w' base 5 1 v l.length (cel l)∧Onto w v.ownBlock w' u
def InR (R:Rs) (g:Nat):Prop:=∃ (j:Nat) (p:Value×List UInt8),R[j]? = some p∧p.1.ownBlock=some g
def rep (j:Nat):List UInt8:=List.replicate 40 (UInt8.ofNat (j+1))
def longs (L:List (List UInt8)):List (List UInt8):=(List.range L.length).map fun j=>L.getD j []++rep j
structure Loop1 (w0 w1:World) (base:Nat) (R:Rs) (all said:Value) (k kw:Nat) (long want:Value) (wr:World):Prop where
 rows:Lists wr base R
 all:Own wr base 39 1 all R.length (R.map (·.1))
 said:Own wr w0.heap.size 9 1 said R.length (strs (R.map (·.2)))
 only:Only w1 wr (InR R)
 us:∃ U:Rs,U.length=k∧Own wr w1.heap.size 39 1 long k (U.map (·.1))∧Lists wr base U∧U.map (·.2)=(longs (R.map (·.2))).take k∧
  ∀ (j:Nat) (p q:Value×List UInt8),U[j]? = some p→R[j]? = some q→p.1.ownBlock=q.1.ownBlock∨∀ g,p.1.ownBlock=some g→w0.heap.size≤g
 want:Own wr w1.heap.size 9 1 want kw (strs ((longs (R.map (·.2))).take kw))
structure Ahead (w0:World) (base:Nat) (R:Rs) (all:Value):Prop where
 rows:Lists w0 base R
 parted:zr6 R
 all:Own w0 base 39 1 all R.length (R.map (·.1))
 base:base≤w0.heap.size
 few:R.length≤200
 short:∀ (j:Nat) (p:Value×List UInt8),R[j]? = some p→p.2.length≤1073741824
structure Loop2 (w0 w1:World) (base:Nat) (R:Rs) (all said:Value) (i:Nat) (wr:World):Prop where
 rows:∀ (j:Nat) (p:Value×List UInt8),i≤j→R[j]? = some p→Own wr base 5 1 p.1 p.2.length (cel p.2)
 all:Own wr base 39 1 all R.length (R.map (·.1))
 said:Own wr w0.heap.size 9 1 said R.length (strs (R.map (·.2)))
 only:Only w1 wr (InR R)
def spo (m:Nat) (l:List UInt8):List UInt8:=(l.take m).map (fun b=>255-b)++l.drop m
def zsM (w:World) (l:List UInt8) (e:Ending) (w':World):Prop:=∃ ad cap,e = .returned (.slice (some ad) l.length cap)∧Room w w' l ad cap∧Own w' w.heap.size 5 1 (.slice (some ad) l.length cap) l.length (cel l)
end Go.Proofs.YtjpldnjldindkaaGreatDoor
