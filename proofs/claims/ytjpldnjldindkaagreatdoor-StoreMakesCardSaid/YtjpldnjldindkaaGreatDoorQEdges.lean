/- Lists of edges in memory. -/
import Derived.Test.YtjpldnjldindkaaGreatDoorQWeightMath
import Derived.Test.YtjpldnjldindkaaGreatDoorQOctetRows
import Derived.Lib.ItoaMem
import Derived.Test.YtjpldnjldindkaaGreatDoorQLaySt
import Derived.Lib.Mul64
import Derived.Laws.Bits64b
import Derived.Laws.Externs
import Derived.Lib.ItoaNum
import Derived.Lib.ItoaWalk
import Derived.Lib.Strings
set_option linter.all false
set_option maxHeartbeats 0
set_option maxRecDepth 100000
namespace Go.Proofs.YtjpldnjldindkaaGreatDoor
open Go.RowKit
def edC (e:Ed):List Value:=[.int .u32 (e.t:Int), .int .u32 (e.h:Int), .int .u64 (e.x:Int), .int .u32 (e.m:Int)]
theorem za0 (e:Ed):(edC e).length=4:=rfl
def edsC (l:List Ed):List Value:=l.flatMap edC
theorem zau (l:List Ed):(edsC l).length=l.length*4:=zcy edC 4 za0 l
def EdIn (W:World) (p:Addr) (e:Ed):Prop:=W.cell? p=some (.int .u32 (e.t:Int))∧W.cell? ⟨p.block,p.off+1,none⟩=some (.int .u32 (e.h:Int))∧W.cell? ⟨p.block,p.off+2,none⟩=some (.int .u64 (e.x:Int))∧W.cell? ⟨p.block,p.off+3,none⟩=some (.int .u32 (e.m:Int))
theorem zdY (p:Addr) (k:Nat) (hk:0<k):p.add k=⟨p.block,p.off+k,none⟩:=by unfold Addr.add;rw [if_neg (by omega)]
theorem zbJ {W:World} {B:Nat} {A:Option Addr} {l:List Ed} (h:At W B A (edsC l)) {k:Nat} {e:Ed} (hk:l[k]? = some e):∃ ad,A=some ad∧ad.block<B∧EdIn W (ad.add (k*4)) e:=by
 have hl:k<l.length:=(zI9.1 hk).1;have g:∀ j,j<4→(edsC l)[k*4+j]? = (edC e)[j]?:=fun j hj=>by
  unfold edsC;rw [zaZ edC 4 za0 l hj,hk];rfl
 rcases h with h|⟨ad,rfl,hb,hc⟩
 ·have:=zau l;rw [h] at this;simp at this;omega
 ·refine ⟨ad,rfl,hb,hc _ _ (g 0 (by decide)),?_,?_,?_⟩
  ·rw [←zdY _ 1 (by decide),zcw];exact hc _ _ (g 1 (by decide))
  ·rw [←zdY _ 2 (by decide),zcw];exact hc _ _ (g 2 (by decide))
  ·rw [←zdY _ 3 (by decide),zcw];exact hc _ _ (g 3 (by decide))
theorem EdIn.keep {W V:World} {p:Addr} {e:Ed} (h:EdIn W p e) (k:Keeps W V):EdIn V p e:=⟨k.cellOf h.1,k.cellOf h.2.1,k.cellOf h.2.2.1,k.cellOf h.2.2.2⟩
def edA (e:Ed):Array Value:=#[.int .u32 (e.t:Int), .int .u32 (e.h:Int), .int .u64 (e.x:Int), .int .u32 (e.m:Int)]
structure EdBox (W:World) (b:Nat) (T:TypeId) (e:Ed):Prop where
 box:Box W b T (edA e)
theorem EdBox.keep {W V:World} {b:Nat} {T:TypeId} {e:Ed} (h:EdBox W b T e) (k:Keeps W V):EdBox V b T e:=⟨h.box.keep k⟩
theorem EdBox.cells {W:World} {b:Nat} {T:TypeId} {e:Ed} (h:EdBox W b T e):W.cell? ⟨b,0,none⟩=some (.int .u32 (e.t:Int))∧W.cell? ⟨b,1,none⟩=some (.int .u32 (e.h:Int))∧W.cell? ⟨b,2,none⟩=some (.int .u64 (e.x:Int))∧W.cell? ⟨b,3,none⟩=some (.int .u32 (e.m:Int)):=
 ⟨h.box.cell 0 rfl,h.box.cell 1 rfl,h.box.cell 2 rfl,h.box.cell 3 rfl⟩
theorem EdBox.free {W:World} {b:Nat} {T:TypeId} {e:Ed} (h:EdBox W b T e):W.frozen? ⟨b,0,none⟩=false∧W.frozen? ⟨b,1,none⟩=false∧W.frozen? ⟨b,2,none⟩=false∧W.frozen? ⟨b,3,none⟩=false:=
 ⟨h.box.frozen 0,h.box.frozen 1,h.box.frozen 2,h.box.frozen 3⟩
def putEd (W:World) (b:Nat) (f:Ed):World:=(((W.setCell ⟨b,0,none⟩ (.int .u32 (f.t:Int))).setCell ⟨b,1,none⟩ (.int .u32 (f.h:Int))).setCell ⟨b,2,none⟩ (.int .u64 (f.x:Int))).setCell ⟨b,3,none⟩ (.int .u32 (f.m:Int))
theorem EdBox.put {W:World} {b:Nat} {T:TypeId} {e:Ed} (h:EdBox W b T e) (f:Ed):EdBox (putEd W b f) b T f:=by
 have:=(((h.box.set 0 (.int .u32 (f.t:Int))).set 1 (.int .u32 (f.h:Int))).set 2 (.int .u64 (f.x:Int))).set 3 (.int .u32 (f.m:Int));exact ⟨by simpa [edA,putEd] using this⟩
theorem zkk {B:Nat} {a W:World} (h:Below B a W) {b:Nat} (hb:B≤b) (f:Ed):Below B a (putEd W b f):=
 (((h.setCell (p:=⟨b,0,none⟩) hb _).setCell (p:=⟨b,1,none⟩) hb _).setCell (p:=⟨b,2,none⟩) hb _).setCell (p:=⟨b,3,none⟩) hb _
theorem EdBox.new (W:World) (T:TypeId) (e:Ed):EdBox (W.alloc (.cells #[.int .u32 (e.t:Int), .int .u32 (e.h:Int), .int .u64 (e.x:Int), .int .u32 (e.m:Int)] T)) W.heap.size T e:=⟨Box.new _ _ _⟩
def edB (e:Ed):List UInt8:=edgeB e.t e.h e.x e.m
theorem zbd (e:Ed):(edB e).length=20:=by simp [edB,edgeB,zad]
theorem zi2 {e:Ed} (he:EdOk e):numAt (edB e) 0 4=e.t∧numAt (edB e) 4 4=e.h∧numAt (edB e) 8 8=e.x∧numAt (edB e) 16 4=e.m:=
 ⟨zqJ _ _ _ _ he.t,zqK _ _ _ _ he.h,zqL _ _ _ _ he.x,zoR _ _ _ _ he.m⟩
theorem zce (l:List Ed):∀ u∈edsC l,u.oneCell'=true:=by
 intro u hu;obtain ⟨e,_,he⟩:=List.mem_flatMap.1 hu;simp only [edC,List.mem_cons,List.not_mem_nil,or_false] at he;rcases he with rfl|rfl|rfl|rfl<;>rfl
end Go.Proofs.YtjpldnjldindkaaGreatDoor
namespace Go.Proofs.YtjpldnjldindkaaGreatDoor
open Go.RowKit Go.Sort
def Grew (w w':World):Prop:=∃ q os,w'=grow (w.drewN q) os
theorem Grew.refl (w:World):Grew w w:=⟨0,#[],by simp;rfl⟩
theorem Grew.trans {a b c:World} (h:Grew a b) (k:Grew b c):Grew a c:=by
 obtain ⟨q,os,rfl⟩:=h;obtain ⟨q',os',rfl⟩:=k;refine ⟨q+q',os++os',?_⟩;rw [show (grow (a.drewN q) os).drewN q'=grow ((a.drewN q).drewN q') os from rfl,World.drewN_drewN,grow_grow]
theorem Grew.alloc (w:World) (o:Obj):Grew w (w.alloc o):=⟨0,#[o],by rw [alloc_eq_grow];rfl⟩
theorem Grew.drew (w:World):Grew w w.drew:=⟨1,#[],by simp;rfl⟩
theorem Grew.keeps {w w':World} (h:Grew w w'):Keeps w w':=by
 obtain ⟨q,os,rfl⟩:=h;exact zK (zam _ _) ⟨rfl,rfl,rfl,by simp [grow],fun k hk=>heap_grow_old _ _ hk⟩
def edG (a:Ed):Value:=.agg #[.int .u32 (a.t:Int), .int .u32 (a.h:Int), .int .u64 (a.x:Int), .int .u32 (a.m:Int)]
def cmpN (a b:Nat):Int:=if a<b then -1 else if b<a then 1 else 0
theorem zkl (x:Nat) (w:World):Calls Tryz.prog 150 #[.int .u32 x] w fun e w'=>e = .returned (.bool false)∧w=w':=by
 go_enter Tryz.func150,Tryz.ntmps150;go_wp2;go_ret;exact ⟨by simp,rfl⟩
theorem ziH (a b:Nat) (w:World):Calls Tryz.prog 115 #[.int .u32 a, .int .u32 b] w fun e w'=>e = .returned (.int .i64 (cmpN a b))∧w=w':=by
 have N:=zH zkl;by_cases h1:a<b
 ·have e:cmpN a b = -1:=by unfold cmpN;rw [if_pos h1]
  rw [e];have h1':(a:Int)<(b:Int):=(by omega);clear e h1;go_enter Tryz.func115,Tryz.ntmps115;go_wp2_with (go_at_call 150;refine (N.out _ _).mono ?_;rintro e w' ⟨rfl,rfl⟩)
  go_ret;exact ⟨rfl,rfl⟩
 ·by_cases h2:b<a
  ·have e:cmpN a b=1:=by unfold cmpN;rw [if_neg h1,if_pos h2]
   rw [e];have h1':¬ (a:Int)<(b:Int):=(by omega);have h2':(b:Int)<(a:Int):=by omega
   clear e h1 h2;go_enter Tryz.func115,Tryz.ntmps115;go_wp2_with (go_at_call 150;refine (N.out _ _).mono ?_;rintro e w' ⟨rfl,rfl⟩)
   go_ret;exact ⟨rfl,rfl⟩
  ·have e:cmpN a b=0:=by unfold cmpN;rw [if_neg h1,if_neg h2]
   rw [e];have h1':¬ (a:Int)<(b:Int):=(by omega);have h2':¬ (b:Int)<(a:Int):=by omega
   clear e h1 h2;go_enter Tryz.func115,Tryz.ntmps115;go_wp2_with (go_at_call 150;refine (N.out _ _).mono ?_;rintro e w' ⟨rfl,rfl⟩)
   go_ret;exact ⟨rfl,rfl⟩
def orI (x y:Int):Int:=if x=0 then y else x
instance:Inhabited Ed:=⟨⟨0,0,0,0⟩⟩
theorem zgq (l:List Ed):(flatK edC 4 l.toArray).toList=edsC l:=by
 apply List.ext_getElem
 ·rw [Array.length_toList,size_flatK,zau];simp
 ·intro t h1 h2;have h3:t<l.length*4:=by rw [zau] at h2;exact h2
  have hq:t/4<l.length:=(by omega);have hm:t%4<4:=Nat.mod_lt _ (by decide);have e1:=get_flatK edC 4 l.toArray t (by simpa using h3);have e2:(flatK edC 4 l.toArray)[t]! = (flatK edC 4 l.toArray)[t]'(by simpa using h1):=getElem!_pos _ t (by simpa using h1);have e3:l.toArray[t/4]! = l[t/4]:=by rw [getElem!_pos l.toArray (t/4) (by simpa using hq)];simp
  have e4:(edsC l)[t/4*4+t%4]? = (edC l[t/4])[t%4]?:=by
   unfold edsC;rw [zaZ edC 4 za0 l hm,zG9 hq];rfl
  have e5:t/4*4+t%4=t:=(by omega);rw [e5,zG9 h2,zG9 (by rw [za0];exact hm)] at e4;have e6:(edC l[t/4])[t%4]! = (edC l[t/4])[t%4]'(by rw [za0];exact hm):=getElem!_pos _ _ (by rw [za0];exact hm);rw [Array.getElem_toList,←e2,e1,e3,e6];exact (Option.some.inj e4).symm
theorem zqP:∀ w,(isAgg 64).run Tryz.prog w = .ok true w:=Tryz.isAgg64
theorem zr9:∀ w,(Go.sizeOf 64).run Tryz.prog w = .ok 4 w:=Tryz.sizeOf64
theorem Own.holdsE {w:World} {base g cap:Nat} {e:TypeId} {l:List Ed} (h:Own w base e 4 (.slice (some ⟨g,0,none⟩) l.length cap) l.length (edsC l)):HoldsK edC 4 w g 0 l.toArray:=by
 rcases h.2 with ⟨h0,_⟩|⟨g',cap',cur,fz,hv,hb,hg,hz,h1,h2,h3,h4⟩
 ·cases h0
 ·injection hv with hv1 hv2 hv3;injection hv1 with hv1;injection hv1 with hv1;subst hv1;subst hv3;intro j hj;rw [size_flatK] at hj;have hj':j<l.length*4:=(by simpa using hj);refine ⟨?_,?_⟩
  ·rw [Nat.zero_add,cell_of_row w g j cur e fz hg];have e1:(cur.toList.take (l.length*4))[j]? = (edsC l)[j]?:=(by rw [h4]);rw [List.getElem?_take_of_lt hj',←zgq] at e1;rw [←Array.getElem?_toList,e1,Array.getElem?_toList];have:(flatK edC 4 l.toArray)[j]? = some ((flatK edC 4 l.toArray)[j]'(by rw [size_flatK];exact hj)):=Array.getElem?_eq_getElem _;rw [this,getElem!_pos (flatK edC 4 l.toArray) j (by rw [size_flatK];exact hj)];rfl
  ·obtain ⟨lo,hi'⟩:=fz;simp only [World.frozen?,hg,Bool.and_eq_false_iff,decide_eq_false_iff_not];rcases hz with hz|hz
   ·right;simp only at hz;omega
   ·left;simp only at hz;omega
theorem ziI (cur xs:Array Value) (h:xs.size≤cur.size):(putCells id 0 xs cur).toList.take xs.size=xs.toList:=by
 apply List.ext_getElem?;intro j;by_cases hj:j<xs.size
 ·rw [List.getElem?_take_of_lt hj,Array.getElem?_toList];simp [putCells,hj,show j<cur.size by omega]
 ·rw [List.getElem?_take_eq_none (by omega),List.getElem?_eq_none (by simp;omega)]
theorem zmO {w:World} {g n:Nat} {os:Array Obj} {cur:Array Value} {e:TypeId} {fr:Nat×Nat} (d:Array Ed) (hb:w.heap[g]? = some (.cells cur e fr)) :
 (sortWorldK edC 4 w g 0 n d os).heap[g]? = some (.cells (putCells id 0 (flatK edC 4 d) cur) e fr):=by
 have hg:g<w.heap.size:=(zJ9.1 hb).1;unfold sortWorldK putRowK;rw [heap_grow_old _ _ (by simpa using hg)];simp [putRow,mapBlock,Sort.ahead,Array.getElem?_modify,hb,onCells]
theorem zhN {w:World} {g n:Nat} {os:Array Obj} (d:Array Ed):Only w (sortWorldK edC 4 w g 0 n d os) (fun c=>c=g):=by
 refine ⟨rfl,rfl,rfl,by simp [sortWorldK,putRowK],fun k hk hne=>?_⟩;unfold sortWorldK putRowK;rw [heap_grow_old _ _ (by simpa using hk)];simp [putRow,mapBlock,Sort.ahead,Array.getElem?_modify,Ne.symm hne]
theorem Own.sorted {w:World} {base g cap n:Nat} {e:TypeId} {os:Array Obj} {l l':List Ed} (h:Own w base e 4 (.slice (some ⟨g,0,none⟩) l.length cap) l.length (edsC l)) (hl:l'.length=l.length) :
 Own (sortWorldK edC 4 w g 0 n l'.toArray os) base e 4 (.slice (some ⟨g,0,none⟩) l.length cap) l.length (edsC l'):=by
 refine ⟨by rw [zau,hl],?_⟩;rcases h.2 with ⟨h0,_⟩|⟨g',cap',cur,fz,hv,hb,hg,hz,h1,h2,h3,h4⟩
 ·cases h0
 ·injection hv with hv1 hv2 hv3;injection hv1 with hv1;injection hv1 with hv1;subst hv1;subst hv3;have hs:(flatK edC 4 l'.toArray).size=l.length*4:=by rw [size_flatK];simp [hl]
  have hle:l.length*4≤cap*4:=Nat.mul_le_mul_right 4 h1;refine .inr ⟨g,cap,_,fz,rfl,hb,zmO _ hg,?_,h1,h2,by simp [putCells,h3],?_⟩
  ·rcases hz with hz|hz
   ·exact .inl hz
   ·right;simpa [putCells] using hz
  ·rw [←hs,ziI cur _ (by rw [hs,h3];exact hle),zgq]
end Go.Proofs.YtjpldnjldindkaaGreatDoor
namespace Go.Proofs.YtjpldnjldindkaaGreatDoor
open Go.RowKit
def ahead (x y m n:Nat):Bool:=decide (x<y)||(decide (x=y)&&decide (m<n))
theorem zmP (w:World) (a b:Obj) (t:TypeId) (cs:Array Value):Box (((w.alloc a).alloc b).alloc (.cells cs t)) (w.heap.size+1+1) t cs:=by
 have h:=Box.new ((w.alloc a).alloc b) t cs;simpa using h
end Go.Proofs.YtjpldnjldindkaaGreatDoor
namespace Go.Proofs.YtjpldnjldindkaaGreatDoor
open Go.RowKit Go.Sort
theorem zoV (b x y m n:Nat) (w:World) (hb:Box w b 268 #[.int .u64 x, .int .u64 y, .int .u64 m, .int .u64 n]) :
 Calls Tryz.prog 195 #[.slice (some ⟨b,0,none⟩) 2 2] w fun e w'=>e = .returned (.bool (ahead x y m n))∧Grew w w':=by
 have HB:=zH hb;clear hb;go_enter Tryz.func195,Tryz.ntmps195;go_wp2;go_loopw [7] (fun i wr=>∃ k:Nat,k≤2∧i = .int .i64 k∧(0<k→x=y)∧(1<k→m=n)∧Grew w wr) (fun i _=>2-(intOf i).toNat)
 case atStart=>exact ⟨0,by omega,rfl,by omega,by omega,Grew.refl _⟩
 case round=>
  obtain ⟨k,hk,rfl,h0,h1,hkp⟩:=hrel;have hB:=HB.out.keep hkp.keeps;have c0:=hB.cell 0 (v:=.int .u64 x) rfl;have c1:=hB.cell 1 (v:=.int .u64 y) rfl;have c2:=hB.cell 2 (v:=.int .u64 m) rfl;have c3:=hB.cell 3 (v:=.int .u64 n) rfl;have hlt:=hB.lt;have KP:=zH hkp;clear hkp hB;rcases (show k=0∨k=1∨k=2 by omega) with rfl|rfl|rfl
  ·by_cases e:x=y
   ·subst e;go_wp2;go_roundw
    case rel=>exact ⟨1,by omega,rfl,by simp,by simp,KP.out.trans (Grew.alloc _ _)⟩
    case measure=>simp [intOf]
   ·have e2:((x:Int) == (y:Int))=false:=by simp;omega
    have e3:ahead x y m n=decide (x<y):=(by simp [ahead,e]);have E3:=zH e3;clear e e3 h0 h1;go_wp2;go_ret;exact ⟨by rw [E3.out];rfl,KP.out.trans (Grew.alloc _ _)⟩
  ·obtain rfl:x=y:=h0 (by omega);by_cases e:m=n
   ·subst e;go_wp2;go_roundw
    case rel=>exact ⟨2,by omega,rfl,by simp,by simp,KP.out.trans (Grew.alloc _ _)⟩
    case measure=>simp [intOf]
   ·have e2:((m:Int) == (n:Int))=false:=by simp;omega
    have e3:ahead x x m n=decide (m<n):=(by simp [ahead]);have E3:=zH e3;clear e e3 h0 h1;go_wp2;go_ret;exact ⟨by rw [E3.out];rfl,KP.out.trans (Grew.alloc _ _)⟩
  ·obtain rfl:x=y:=h0 (by omega);obtain rfl:m=n:=h1 (by omega);have e3:ahead x x m m=false:=(by simp [ahead]);have E3:=zH e3;clear e3 h0 h1;go_wp2;go_ret;exact ⟨by rw [E3.out];rfl,KP.out⟩
theorem zkZ (a b:Ed) (w:World) :
 Calls Tryz.prog 151 #[edG a,edG b] w fun e w'=>e = .returned (.bool (betE a b))∧Grew w w':=by
 obtain ⟨t,h,x,m⟩:=a;obtain ⟨t',h',x',m'⟩:=b;have e:betE ⟨t,h,x,m⟩ ⟨t',h',x',m'⟩=ahead x x' (mid1 m) (mid1 m'):=rfl;rw [e];have m1:((m:Int)+1)%4294967296=((mid1 m:Nat):Int):=by unfold mid1;omega
 have m2:((m':Int)+1)%4294967296=((mid1 m':Nat):Int):=by unfold mid1;omega
 unfold edG;clear e;go_enter Tryz.func151,Tryz.ntmps151;go_wp2_with fail
 refine (zoV (w.heap.size+1+1) x x' (mid1 m) (mid1 m') _ (zmP w _ _ _ _)).mono ?_;rintro e w1 ⟨rfl,k1⟩;go_wp2;go_ret;exact ⟨rfl,(((Grew.alloc _ _).trans (Grew.alloc _ _)).trans (Grew.alloc _ _)).trans k1⟩
def cmpW (a b:Ed):Int:=if betE a b=true then -1 else if betE b a=true then 1 else 0
theorem zsa (a b:Ed) (w:World) :
 Calls Tryz.prog 116 #[edG a,edG b] w fun e w'=>e = .returned (.int .i64 (cmpW a b))∧Grew w w':=by
 have B1:=zH (fun W=>zkZ a b W);have B2:=zH (fun W=>zkZ b a W);have E1:=EdBox.new w 64 a;have E2:=EdBox.new (w.alloc (.cells #[.int .u32 (a.t:Int), .int .u32 (a.h:Int), .int .u64 (a.x:Int), .int .u32 (a.m:Int)] 64)) 64 b;have E3:=E1.keep (zA _ (.cells #[.int .u32 (b.t:Int), .int .u32 (b.h:Int), .int .u64 (b.x:Int), .int .u32 (b.m:Int)] 64));simp only [World.size_alloc] at E2;have GG:=zH ((Grew.alloc w (.cells #[.int .u32 (a.t:Int), .int .u32 (a.h:Int), .int .u64 (a.x:Int), .int .u32 (a.m:Int)] 64)).trans (Grew.alloc _ (.cells #[.int .u32 (b.t:Int), .int .u32 (b.h:Int), .int .u64 (b.x:Int), .int .u32 (b.m:Int)] 64)));have hw:(betE a b=true∧cmpW a b = -1)∨(betE a b=false∧betE b a=true∧cmpW a b=1)∨(betE a b=false∧betE b a=false∧cmpW a b=0):=by
  unfold cmpW;cases betE a b<;>cases betE b a<;>simp
 generalize cmpW a b=RR at *;generalize betE a b=b1 at *;generalize betE b a=b2 at *;obtain ⟨a0,a1,a2,a3⟩:=E3.cells;obtain ⟨c0,c1,c2,c3⟩:=E2.cells;have E3':=zH E3;have E2':=zH E2;clear E1 E2 E3;unfold edG at *;rcases hw with ⟨rfl,rfl⟩|⟨rfl,rfl,rfl⟩|⟨rfl,rfl,rfl⟩
 ·go_enter Tryz.func116,Tryz.ntmps116;go_wp2_with fail
  refine (B1.out _).mono ?_;rintro e w1 ⟨rfl,k1⟩;have G1:=zH (GG.out.trans k1);clear k1;go_wp2;go_ret;exact ⟨rfl,G1.out⟩
 all_goals
  go_enter Tryz.func116,Tryz.ntmps116;go_wp2_with fail
  refine (B1.out _).mono ?_;rintro e w1 ⟨rfl,k1⟩;have G1:=zH (GG.out.trans k1);obtain ⟨a0,a1,a2,a3⟩:=(E3'.out.keep k1.keeps).cells;obtain ⟨c0,c1,c2,c3⟩:=(E2'.out.keep k1.keeps).cells;clear k1;go_wp2_with fail
  refine (B2.out _).mono ?_;rintro e w2 ⟨rfl,k2⟩;have G2:=zH (G1.out.trans k2);clear k2;go_wp2;go_ret;exact ⟨rfl,G2.out⟩
theorem zqQ (x y z:Int) (b:Nat) (w:World) (h0:w.cell? ⟨b,0,none⟩=some (.int .i64 x)) (h1:w.cell? ⟨b,1,none⟩=some (.int .i64 y)) (h2:w.cell? ⟨b,2,none⟩=some (.int .i64 z)):Calls Tryz.prog 70 #[.slice (some ⟨b,0,none⟩) 3 3] w fun e w'=>e = .returned (.int .i64 (orI x (orI y z)))∧w=w':=by
 by_cases hx:x=0
 ·by_cases hy:y=0
  ·have e:orI x (orI y z)=z:=by unfold orI;rw [if_pos hx,if_pos hy]
   rw [e];subst hx;subst hy;clear e;by_cases hz:z=0
   ·subst hz;go_enter Tryz.func70,Tryz.ntmps70;go_wp2_with fail
    refine wp_loop_rounds 4 ?_;rw [rounds_succ];go_wp2
    rw [rounds_succ];go_wp2
    rw [rounds_succ];go_wp2
    rw [rounds_succ];go_wp2
    go_ret;exact ⟨rfl,rfl⟩
   ·have hz':(z == 0)=false:=by rw [beq_eq_false_iff_ne];exact hz
    go_enter Tryz.func70,Tryz.ntmps70;go_wp2_with fail
    refine wp_loop_rounds 3 ?_;rw [rounds_succ];go_wp2
    rw [rounds_succ];go_wp2
    rw [rounds_succ];go_wp2
    go_ret;exact ⟨rfl,rfl⟩
  ·have e:orI x (orI y z)=y:=by unfold orI;rw [if_pos hx,if_neg hy]
   rw [e];subst hx;have hy':(y == 0)=false:=by rw [beq_eq_false_iff_ne];exact hy
   clear e;go_enter Tryz.func70,Tryz.ntmps70;go_wp2_with fail
   refine wp_loop_rounds 2 ?_;rw [rounds_succ];go_wp2
   rw [rounds_succ];go_wp2
   go_ret;exact ⟨rfl,rfl⟩
 ·have e:orI x (orI y z)=x:=by unfold orI;rw [if_neg hx]
  rw [e];have hx':(x == 0)=false:=by rw [beq_eq_false_iff_ne];exact hx
  clear e;go_enter Tryz.func70,Tryz.ntmps70;go_wp2_with fail
  refine wp_loop_rounds 1 ?_;rw [rounds_succ];go_wp2
  go_ret;exact ⟨rfl,rfl⟩
def cfS (hd:Bool) (a b:Ed):Int:=if hd=true then orI (cmpN a.h b.h) (orI (cmpN a.t b.t) (cmpW a b)) else orI (cmpN a.t b.t) (orI (cmpN a.h b.h) (cmpW a b))
theorem zeU (hd:Bool) (a b:Ed):cfS hd a b<0↔¬ LeE hd b a:=by
 have hw:cmpW a b<0↔betE a b=true:=by
  unfold cmpW;have:=@zmE a.x a.m b.x b.m;unfold betE;cases h:betB a.x a.m b.x b.m<;>cases betB b.x b.m a.x a.m<;>simp
 have hb:betE a b=true↔a.x<b.x∨(a.x=b.x∧mid1 a.m<mid1 b.m):=zcd _ _ _ _;rw [zdj];unfold cfS orI cmpN;generalize cmpW a b=c at *;rw [hb] at hw;cases hd
 ·simp only [Bool.false_eq_true,if_false];by_cases h1:a.t<b.t
  ·simp [h1];omega
  ·by_cases h2:b.t<a.t
   ·simp [h1,h2]
   ·by_cases h3:a.h<b.h
    ·simp [h1,h2,h3];omega
    ·by_cases h4:b.h<a.h
     ·simp [h1,h2,h3,h4];omega
     ·simp [h1,h2,h3,h4];omega
 ·simp only [if_true];by_cases h1:a.h<b.h
  ·simp [h1];omega
  ·by_cases h2:b.h<a.h
   ·simp [h1,h2]
   ·by_cases h3:a.t<b.t
    ·simp [h1,h2,h3];omega
    ·by_cases h4:b.t<a.t
     ·simp [h1,h2,h3,h4];omega
     ·simp [h1,h2,h3,h4];omega
theorem swoS (hd:Bool):SWO (ltOf (cfS hd)) where
 irrefl x:=by unfold ltOf;rw [decide_eq_false_iff_not,zeU];exact fun h=>h (LeE.refl hd x)
 trans x y z h1 h2:=by
  unfold ltOf at *;rw [decide_eq_true_iff,zeU] at *;exact fun h=>(LeE.total hd y x).elim h1 fun k=>h2 (h.trans k)
 ntrans x y z h1 h2:=by
  unfold ltOf at *;rw [decide_eq_false_iff_not,zeU] at *;have h1:=Classical.not_not.1 h1;have h2:=Classical.not_not.1 h2;exact fun h=>h (h2.trans h1)
def edB2 (w:World) (a b:Ed):World:=(w.alloc (.cells #[.int .u32 (a.t:Int), .int .u32 (a.h:Int), .int .u64 (a.x:Int), .int .u32 (a.m:Int)] 64)).alloc (.cells #[.int .u32 (b.t:Int), .int .u32 (b.h:Int), .int .u64 (b.x:Int), .int .u32 (b.m:Int)] 64)
theorem zmQ (a b:Ed) (bi:Int) (hbi:bi=0∨bi=1) (ob:Nat) (w:World) (ho:w.cell? ⟨ob,0,none⟩=some (.int .i64 bi)) :
 Calls Tryz.prog 114 #[edG a,edG b, .pointer (some ⟨ob,0,none⟩)] w fun e w'=>e = .returned (.int .i64 (cfS (decide (bi=1)) a b))∧Grew w w':=by
 have E1:=EdBox.new w 64 a;have E2:=EdBox.new (w.alloc (.cells #[.int .u32 (a.t:Int), .int .u32 (a.h:Int), .int .u64 (a.x:Int), .int .u32 (a.m:Int)] 64)) 64 b;have E3:=E1.keep (zA _ (.cells #[.int .u32 (b.t:Int), .int .u32 (b.h:Int), .int .u64 (b.x:Int), .int .u32 (b.m:Int)] 64));simp only [World.size_alloc] at E2;have hG:Grew w (edB2 w a b):=(Grew.alloc w _).trans (Grew.alloc _ _);have WW:=zH (fun W=>zsa a b W);have CC:=zH ziH;have OO:=zH zqQ;obtain ⟨RR,hRR⟩:∃ RR,cfS (decide (bi=1)) a b=RR:=⟨_,rfl⟩
 have HR:=zH hRR;rw [hRR];have hX:edB2 w a b=(w.alloc (.cells #[.int .u32 (a.t:Int), .int .u32 (a.h:Int), .int .u64 (a.x:Int), .int .u32 (a.m:Int)] 64)).alloc (.cells #[.int .u32 (b.t:Int), .int .u32 (b.h:Int), .int .u64 (b.x:Int), .int .u32 (b.m:Int)] 64):=rfl;rw [←hX] at E2 E3;have ho2:=hG.keeps.cellOf ho;unfold edG at *;go_enter Tryz.func114,Tryz.ntmps114;go_wp2_with fail
 rw [←hX];generalize edB2 w a b=W at *;have SS:=zH (fun (V:World) (k:Keeps W V)=>And.intro (And.intro (k.cellOf E3.cells.1) (k.cellOf E3.cells.2.1)) (And.intro (k.cellOf E2.cells.1) (k.cellOf E2.cells.2.1)));have E3':=zH E3;have E2':=zH E2;have GW:=zH hG;have HO:=zH ho2;clear E1 E2 E3 hG hX hRR ho ho2;go_region_held3 (fun V=>(V.cell? ⟨w.heap.size,0,none⟩=some (.int .u32 (a.t:Int))∧V.cell? ⟨w.heap.size,1,none⟩=some (.int .u32 (a.h:Int)))∧(V.cell? ⟨w.heap.size+1,0,none⟩=some (.int .u32 (b.t:Int))∧V.cell? ⟨w.heap.size+1,1,none⟩=some (.int .u32 (b.h:Int)))) (exact SS.out _ (by first|exact zab _|exact zD _)) (first
  | (go_at_call 115;refine (CC.out _ _ _).mono ?_;rintro ee w1 ⟨rfl,rfl⟩))
 have k1:=zD W;obtain ⟨a0,a1,a2,a3⟩:=(E3'.out.keep k1).cells;obtain ⟨c0,c1,c2,c3⟩:=(E2'.out.keep k1).cells;have o0:=k1.cellOf HO.out;have G1:=zH (GW.out.trans (Grew.drew W));have FIN:=zH (fun (x y:Int) (hxy:orI x (orI y (cmpW a b))=RR) (w2:World) (k2:Grew W.drew w2)=>And.intro hxy (And.intro (OO.out x y (cmpW a b) w2.heap.size _ ((Box.new w2 3 #[.int .i64 x, .int .i64 y, .int .i64 (cmpW a b)]).cell 0 rfl) ((Box.new w2 3 #[.int .i64 x, .int .i64 y, .int .i64 (cmpW a b)]).cell 1 rfl) ((Box.new w2 3 #[.int .i64 x, .int .i64 y, .int .i64 (cmpW a b)]).cell 2 rfl)) ((G1.out.trans k2).trans (Grew.alloc w2 (.cells #[.int .i64 x, .int .i64 y, .int .i64 (cmpW a b)] 3)))));clear k1 SS CC OO;generalize W.drew=W1 at *;rcases hbi with rfl|rfl
 ·have X:=zH (show orI (cmpN a.t b.t) (orI (cmpN a.h b.h) (cmpW a b))=RR by rw [←HR.out];rfl);go_wp2_with fail
  refine (WW.out _).mono ?_;rintro e w2 ⟨rfl,k2⟩;obtain ⟨f1,f2,f3⟩:=FIN.out _ _ X.out w2 k2;have F1:=zH f1;have F2:=zH f2;have F3:=zH f3;clear f1 f2 f3 k2 FIN;go_wp2_with fail
  refine F2.out.mono ?_;rintro e w3 ⟨rfl,rfl⟩;go_wp2;go_ret;exact ⟨by rw [←F1.out];rfl,F3.out⟩
 ·have X:=zH (show orI (cmpN a.h b.h) (orI (cmpN a.t b.t) (cmpW a b))=RR by rw [←HR.out];rfl);go_wp2_with fail
  refine (WW.out _).mono ?_;rintro e w2 ⟨rfl,k2⟩;obtain ⟨f1,f2,f3⟩:=FIN.out _ _ X.out w2 k2;have F1:=zH f1;have F2:=zH f2;have F3:=zH f3;clear f1 f2 f3 k2 FIN;go_wp2_with fail
  refine F2.out.mono ?_;rintro e w3 ⟨rfl,rfl⟩;go_wp2;go_ret;exact ⟨by rw [←F1.out];rfl,F3.out⟩
theorem zmR (hd:Bool) (k:Nat) (cb:Array Value) (g cap base:Nat) (l:List Ed) (w:World) (hown:Own w base 64 4 (.slice (some ⟨g,0,none⟩) l.length cap) l.length (edsC l)) (hl:l.length<4611686018427387904)
 (eg:∀ args w,(callFunc k args).run Tryz.prog w = .ok (.enter k args) w)
 (hc:∀ (W:World),Only w W (fun c=>c=g)→∀ x y:Ed,Calls Tryz.prog k (#[edG x,edG y]++cb) W fun e w'=>e = .returned (.int .i64 (cfS hd x y))∧Grew W w') :
 Calls Tryz.prog 197 #[.slice (some ⟨g,0,none⟩) l.length cap, .func (.func k) #[] cb] w fun e w'=>e = .returned (.tuple #[])∧∃ l':List Ed,l.Perm l'∧l'.Pairwise (LeE hd)∧Own w' base 64 4 (.slice (some ⟨g,0,none⟩) l.length cap) l.length (edsC l')∧Only w w' (fun c=>c=g):=by
 have hg:=(hown.lt g rfl).2;have hcmp:CmpLays Tryz.prog k cb edC 4 (cfS hd) g 0 l.toArray.size w:=fun m os dk hs x y=>hc _ (zhN (n:=m) (os:=os) dk) x y
 have hcon:=AnyQ.slices_SortFunc zr8 4 zqP zr9 edC za0 (fun x v hv=>zce [x] v (by simpa [edsC] using hv)) (cfS hd) (swoS hd) k cb g 0 cap l.toArray w eg hcmp hown.holdsE hg (by simpa using hl);have e1:l.toArray.size=l.length:=by simp
 rw [e1] at hcon;refine Calls.mono hcon ?_;rintro e w' ⟨rfl,d',n,os,hp,hs,rfl⟩;obtain ⟨p1,-,p3⟩:=hp;have hsz:d'.size=l.length:=by rw [p1,e1]
 have p4:d'.toList.Perm l:=by
  have x1:(d'.extract 0 l.length).toList=d'.toList:=by rw [←hsz];simp
  have x2:(l.toArray.extract 0 l.length).toList=l:=by simp
  rw [x1,x2] at p3;exact p3
 have hd':d'=d'.toList.toArray:=by simp
 refine ⟨rfl,d'.toList,p4.symm,?_,?_,zhN _⟩
 ·rw [List.pairwise_iff_getElem];intro i j hi hj hij;have h1:=hs i j (Nat.zero_le _) hij (by rw [←hsz];simpa using hj);unfold ltOf at h1;rw [decide_eq_false_iff_not,zeU] at h1;have h1:=Classical.not_not.1 h1;have e1:d'[i]! = d'.toList[i]:=by rw [getElem!_pos d' i (by simpa using hi)];simp
  have e2:d'[j]! = d'.toList[j]:=by rw [getElem!_pos d' j (by simpa using hj)];simp
  rw [e1,e2] at h1;exact h1
 ·have:=hown.sorted (n:=n) (os:=os) (l':=d'.toList) (by simpa using hsz);rw [←hd'] at this;exact this
theorem zi3 (x:ByteArray) (l:List UInt8) (h:x.data.toList=l):x=⟨l.toArray⟩:=by
 subst h;cases x
 simp
theorem zmS (i:Nat) (h:i<100) (w:World) :
 Calls Tryz.prog 128 #[.int .i64 (i:Int)] w fun e w'=>e = .returned (.string (str (Lib.decDigits i)))∧w'=w:=by
 have hu:=Tryz.underlying9;go_enter Tryz.func128,Tryz.ntmps128
 go_name_bytes_deep 45 SM hSM
 have eSM:SM=Lib.smalls:=by rw [←hSM];decide +kernel
 subst eSM;clear hSM
 go_name_bytes_deep 30 DG hDG
 have eDG:DG=Lib.digits36:=by rw [←hDG];decide +kernel
 subst eDG;clear hDG;by_cases h10:i<10
 ·have hsl:∀ w,(Instr.slice 9 (.string Lib.digits36) (some (.int .i64 (i:Int))) (some (.int .i64 ((i:Int)+1))) none).run Tryz.prog w = .ok (.string (Lib.digits36.extract i (i+1))) w:=fun w=>by
   rw [run_slice_string w 9 Lib.digits36 .i64 .i64 _ _ hu (by omega) (by omega) (by rw [Lib.digits36_size];omega),show ((i:Int)).toNat=i by omega,show ((i:Int)+1).toNat=i+1 by omega]
  go_wp2
  go_ret;refine ⟨?_,rfl⟩;show Ending.returned (Value.string (Lib.digits36.extract i (i+1)))=_;rw [zi3 (Lib.digits36.extract i (i+1)) (Lib.decDigits i) (by rw [Lib.extract_data];exact Lib.digits36_piece h10)];rfl
 ·have hsl:∀ w,(Instr.slice 9 (.string Lib.smalls) (some (.int .i64 ((i:Int)*2))) (some (.int .i64 ((i:Int)*2+2))) none).run Tryz.prog w = .ok (.string (Lib.smalls.extract (i*2) (i*2+2))) w:=fun w=>by
   rw [run_slice_string w 9 Lib.smalls .i64 .i64 _ _ hu (by omega) (by omega) (by rw [Lib.smalls_size];omega),show ((i:Int)*2).toNat=i*2 by omega,show ((i:Int)*2+2).toNat=i*2+2 by omega]
  go_wp2
  go_ret;refine ⟨?_,rfl⟩;show Ending.returned (Value.string (Lib.smalls.extract (i*2) (i*2+2)))=_;rw [zi3 (Lib.smalls.extract (i*2) (i*2+2)) (Lib.decDigits i) (by rw [Lib.extract_data];exact Lib.smalls_piece h10 h)];rfl
theorem zmT (k:Nat) (hk:k<100) (w:World):Calls Tryz.prog 33 #[.int .i64 (k:Int)] w fun e w'=>e = .returned (.string (str (Lib.decDigits k)))∧Grew w w':=by
 have SM:=zH (fun W=>zmS k hk W);have h1:(0:Int)≤(k:Int):=by omega
 have h2:(k:Int)<100:=by omega
 have FI:=zH (show ∀ W,Calls Tryz.prog 100 #[.int .i64 (k:Int), .int .i64 10] W fun e w'=>e = .returned (.string (str (Lib.decDigits k)))∧w'=W from fun W=>by
  go_enter Tryz.func100,Tryz.ntmps100;go_wp2_with fail
  refine (SM.out _).mono ?_;rintro e w2 ⟨rfl,rfl⟩;go_wp2;go_ret;exact ⟨rfl,rfl⟩)
 have II:=zH (show ∀ W,Calls Tryz.prog 66 #[.int .i64 (k:Int)] W fun e w'=>e = .returned (.string (str (Lib.decDigits k)))∧w'=W from fun W=>by
  go_enter Tryz.func66,Tryz.ntmps66;go_wp2_with fail
  refine (FI.out _).mono ?_;rintro e w2 ⟨rfl,rfl⟩;go_wp2;go_ret;exact ⟨rfl,rfl⟩)
 go_enter Tryz.func33,Tryz.ntmps33;go_wp2_with fail
 refine (II.out _).mono ?_;rintro e w2 ⟨rfl,rfl⟩;go_wp2;go_ret;exact ⟨rfl,Grew.refl _⟩
def dotS:ByteArray:=⟨#[116,46]⟩
theorem zqR (nm:List UInt8) (w:World):Calls Tryz.prog 113 #[.string (str nm), .string ⟨#[116,46]⟩] w fun e w'=>e = .returned (.bool (decide (nm.take 2=[116,46])))∧w=w':=by
 have hu:=Tryz.underlying9;obtain ⟨RR,hRR⟩:∃ RR,decide (nm.take 2=[116,46])=RR:=⟨_,rfl⟩
 rw [hRR];have hsz:(str nm).size=nm.length:=zaJ nm;by_cases hl:2≤nm.length
 ·have hli:(2:Int)≤(nm.length:Int):=(by omega);obtain ⟨sx,hsx⟩:∃ sx,str (nm.take 2)=sx:=⟨_,rfl⟩
  have hsl:∀ W:World,(Instr.slice 9 (.string (str nm)) none (some (.int .i64 2)) none).run Tryz.prog W = .ok (.string sx) W:=fun W=>by
   rw [run_slice_string_h (ht:=hu) (h0:=by decide) (h2:=by rw [hsz];omega),←hsx];congr 2
   apply ByteArray.ext;simp [str]
  have heq:(sx.toList == ([116,46]:List UInt8))=RR:=by
   rw [←hsx,zaL,←hRR];by_cases h:nm.take 2=[116,46]
   ·rw [h];rfl
   ·rw [decide_eq_false h,beq_eq_false_iff_ne];exact h
  have HQ:=zH heq;clear hRR hsx hl;generalize str nm=sn at *;go_enter Tryz.func113,Tryz.ntmps113;go_wp2;go_ret;exact ⟨by rw [←HQ.out];rfl,rfl⟩
 ·have hli:¬ (2:Int)≤(nm.length:Int):=(by omega);have hf:RR=false:=by
   rw [←hRR,decide_eq_false_iff_not];intro h;have:=congrArg List.length h;rw [List.length_take] at this;simp at this;omega
  subst hf;clear hRR hl;generalize str nm=sn at *;go_enter Tryz.func113,Tryz.ntmps113;go_wp2;go_ret;exact ⟨rfl,rfl⟩
theorem zgr (nm:List UInt8) (w:World):Calls Tryz.prog 87 #[.string (str nm), .string ⟨#[116,46]⟩] w fun e w'=>e = .returned (.bool (decide (nm.take 2=[116,46])))∧w=w':=by
 have PA:=zH (zqR nm w);generalize decide (nm.take 2=[116,46])=RR at *;go_enter Tryz.func87,Tryz.ntmps87;go_wp2_with fail
 refine PA.out.mono ?_;rintro e w' ⟨rfl,rfl⟩;go_wp2;go_ret;exact ⟨rfl,rfl⟩
end Go.Proofs.YtjpldnjldindkaaGreatDoor
