/- The zkc of milepostlaw02.Turned: bytes of which a burst turned some bits. -/
import Derived.Test.YtjpldnjldindkaaGreatDoorQOctetRows
import Derived.Lib.SlBytesConst
import Derived.Deep.OwnRows
set_option linter.all false
set_option maxHeartbeats 0
set_option maxRecDepth 100000
namespace Go.Proofs.YtjpldnjldindkaaGreatDoor
open Go.RowKit
def YesC (w:World) (e:Ending) (w':World):Prop:=e = .returned (.bool true)∧Keeps w w'
structure CrcOk:Prop where
 ext:∀ (s:Nat),s<4294967296→∀ (A:Option Addr) (n c:Nat) (l:List UInt8) (w:World),Bs w A l→n=l.length→n≤c→n≤1000000→
  Calls Tryz.prog 250 #[.int .u32 s, .slice A n c] w fun e w'=>e = .returned (.int .u32 (extC s l))∧Keeps w w'
 sum:∀ (A:Option Addr) (n c:Nat) (l:List UInt8) (w:World),Bs w A l→n=l.length→n≤c→n≤1000000→
  Calls Tryz.prog 239 #[.slice A n c] w fun e w'=>e = .returned (.int .u32 (extC 0 l))∧Keeps w w'
def nine:List UInt8:=[49,50,51,52,53,54,55,56,57]
theorem zrL (x:Nat) (hx:x<4294967296):bits .and .u32 (x:Int) 1=((x%2:Nat):Int):=by
 rw [show ((1:Int))=((1:Nat):Int) from rfl,u32_and_nat x 1 hx (by decide),Nat.and_one_is_mod]
theorem zow (x:Nat) (hx:x<4294967296) (w:World):Calls Tryz.prog 259 #[.int .u32 x] w fun e w'=>e = .returned (.int .u32 (st x))∧w=w':=by
 have ha:=zrL x hx;have hx2:=u32_xor_nat (x/2) 2197175160 (by omega) (by omega);by_cases ho:x%2=1
 ·have HS:=zH (zmL ho);rw [ho] at ha;clear ho;go_enter Tryz.func259,Tryz.ntmps259;go_wp2
  go_ret;rw [HS.out];exact ⟨congrArg (fun z=>Ending.returned (Value.int .u32 z)) hx2,rfl⟩
 ·have HS:=zH (zmM ho);have ho':x%2=0:=(by omega);rw [ho'] at ha;clear ho ho';go_enter Tryz.func259,Tryz.ntmps259;go_wp2
  go_ret;rw [HS.out];exact ⟨rfl,rfl⟩
def p2 (k i:Nat):Bool:=(List.range k).any fun j=>i == 2^(7-j)
def f1 (k i:Nat):Value:=.int .u32 ((if p2 k i then sts 8 i else 0:Nat):Int)
def f2 (k i:Nat):Value:=.int .u32 ((if decide (i<k)||p2 8 i then sts 8 i else 0:Nat):Int)
def tabF (i:Nat):Value:=.int .u32 ((sts 8 i:Nat):Int)
def zeros:Array Value:=Array.replicate 256 (.int .u32 0)
theorem zeD:zeros.size=256:=by simp [zeros]
theorem zj3 (i:Nat) (h:i<zeros.size):zeros[i]? = some (f1 0 i):=by
 rw [zeD] at h;simp [zeros,f1,p2,h]
theorem zrM (k i:Nat):p2 (k+1) i=(p2 k i||i == 2^(7-k)):=by simp [p2,List.range_succ]
theorem zrN (k:Nat) (hk:k<8):sts 8 (2^(7-k))=sts (k+1) 1:=by
 have h:=zqF (7-k) (k+1) (2^(7-k));rw [show 7-k+(k+1)=8 by omega] at h;rw [h];congr 1
 simpa using ziU (7-k) 1
theorem zrO (k i:Nat) (hk:k<8):(if i=2^(7-k) then Value.int .u32 ((sts (k+1) 1:Nat):Int) else f1 k i)=f1 (k+1) i:=by
 unfold f1;rw [zrM];by_cases h:i=2^(7-k)
 ·subst h;simp [zrN k hk]
 ·simp [h]
theorem f12 (i:Nat):f1 8 i=f2 0 i:=by simp [f1,f2]
def loN (i:Nat):Nat:=(bits .and .i64 (i:Int) (-(i:Int))).toNat
def reN (i:Nat):Nat:=(bits .xor .i64 (i:Int) (loN i:Int)).toNat
def lowB (i:Nat):Bool:=decide (bits .and .i64 (i:Int) (-(i:Int))=(loN i:Int))&&decide (bits .xor .i64 (i:Int) (loN i:Int)=(reN i:Int))&&(loN i ^^^ reN i == i)&&(decide (loN i<i)||p2 8 (loN i)||i == 0)&&(decide (reN i<i)||i == 0&&loN i == 0&&reN i == 0)&&decide (loN i<256)
theorem zrP:(List.range 256).all lowB=true:=by kernel_rfl
structure Low (i lo re:Nat):Prop where
 a:bits .and .i64 (i:Int) (-(i:Int))=(lo:Int)
 x:bits .xor .i64 (i:Int) (lo:Int)=(re:Int)
 h:lo<256
 r:re<256
 s:sts 8 lo ^^^ sts 8 re=sts 8 i
 fl:f2 i lo=tabF lo
 fr:f2 i re=tabF re
theorem zrQ (i:Nat) (hi:i<256):∃ lo re,Low i lo re:=by
 have h:=List.all_eq_true.1 zrP i (List.mem_range.2 hi);simp only [lowB,Bool.and_eq_true,Bool.or_eq_true,decide_eq_true_eq,beq_iff_eq] at h;obtain ⟨⟨⟨⟨⟨a,x⟩,s⟩,l⟩,r⟩,h⟩:=h;have z:f2 0 0=tabF 0:=by simp [f2,tabF,sts_0]
 refine ⟨loN i,reN i,a,x,h,?_,?_,?_,?_⟩
 ·rcases r with r|⟨⟨r,_⟩,r2⟩<;>omega
 ·rw [←zkU,s]
 ·rcases r with r|⟨⟨r,r1⟩,r2⟩
  ·unfold f2 tabF;rcases l with (l|l)|l
   ·simp [l]
   ·simp [l]
   ·omega
  ·subst r;rw [r1];exact z
 ·rcases r with r|⟨⟨r,r1⟩,r2⟩
  ·simp [f2,tabF,r]
  ·subst r;rw [r2];exact z
theorem zrR (k i:Nat) (v:Value) (hv:v=tabF k):(if i=k then v else f2 k i)=f2 (k+1) i:=by
 subst hv;by_cases h:i=k
 ·subst h;simp [f2,tabF]
 ·have e:decide (i<k+1)=decide (i<k):=by
   have:(i<k+1)=(i<k):=by simp;omega
   simp [this]
  simp [f2,h,e]
theorem zsD (i:Nat) (h:i<256):f2 256 i=tabF i:=by simp [f2,tabF,h]
theorem Keeps.alloc' (w:World) (a b:Obj):Keeps w ((w.alloc a).alloc b):=zK (zA w a) (zA _ b)
theorem zlf:(Tryz.prog.info? 315).map (·.size)=some 256:=by kernel_rfl
theorem zfi {B:Nat} {a w:World} (h:Below B a w) {g:Nat} (hg:B≤g) (c:Array Value):Below B a (w.setRow g c):=
 ⟨h.os,h.tape,h.output,by simpa using h.size,fun j hj=>by
  rw [←h.block j hj];simp only [World.setRow,Array.getElem?_modify];rw [if_neg (by omega)]⟩
theorem zlg (w:World):(zeroValue 315).run Tryz.prog w = .ok (.agg zeros) w:=by kernel_rfl
set_option maxRecDepth 100000 in
theorem zox (w:World):Calls Tryz.prog 257 #[] w fun e w'=>∃ c:Array Value,e = .returned (.agg c)∧c.size=256∧(∀ i,i<256→c[i]? = some (tabF i))∧Keeps w w':=by
 have hz:=zlg;go_enter Tryz.func257,Tryz.ntmps257;go_wp2;go_loopw [2,6] (fun x i wr=>∃ k:Nat,k≤8∧i = .int .i64 k∧x = .int .u32 (sts k 1)∧wr.rowIs (w.heap.size+1) 315 256 (f1 k)∧wr.rowIs w.heap.size 315 256 (f1 0)∧Keeps w wr) (fun _ i _=>8-(intOf i).toNat)
 case atStart=>
  have a0:=World.rowIs_alloc w zeros 315 (f1 0) zj3;have a1:=World.rowIs_alloc (w.alloc (.cells zeros 315)) zeros 315 (f1 0) zj3;rw [zeD] at a0 a1;have es:(w.alloc (.cells zeros 315)).heap.size=w.heap.size+1:=by simp
  rw [es] at a1;exact ⟨0,Nat.zero_le _,rfl,rfl,a1,a0.alloc _,(Keeps.alloc' w _ _)⟩
 case round=>
  obtain ⟨k,hk,rfl,rfl,hr,hr0,hkp⟩:=hrel;by_cases hlt:k<8
  ·have hcell:=hr.cell (i:=2^(7-k)) (by have:2^(7-k)≤2^7:=Nat.pow_le_pow_right (by decide) (by omega);omega);have hfr:=hr.frozen (2^(7-k));have HR:=zH hr;have HR0:=zH hr0;have hX:=zdk k (x:=1) (by decide);obtain ⟨k1,hk1⟩:∃ k1,k1=k+1:=⟨_,rfl⟩
   have HS:=zH (zeh k 1);rw [←hk1] at HS;have H1:=zH hk1;have HF:=zH (fun i=>zrO k i hlt);rw [←hk1] at HF;have hk8:k1≤8:=by omega
   clear hk1;generalize f1 k (2^(7-k))=v at *;generalize sts k 1=X at *;clear hr hr0;rcases (show k=0∨k=1∨k=2∨k=3∨k=4∨k=5∨k=6∨k=7 by omega) with rfl|rfl|rfl|rfl|rfl|rfl|rfl|rfl
   all_goals
    simp only [Nat.reduceSub,Nat.reducePow] at hcell hfr;go_wp2_with fail
    refine (zow X hX _).mono ?_;rintro e w' ⟨rfl,rfl⟩;go_wp2;go_roundw
    case rel=>
     refine ⟨k1,hk8,by rw [H1.out];rfl,by rw [HS.out],?_,HR0.out.setOther (by simp) _,Below.setCell hkp (by simp) _⟩;refine (HR.out.set _ _).congr (fun i _=>?_);rw [←HF.out i,HS.out]
    case measure=>simp [intOf]
  ·obtain rfl:k=8:=(by omega);clear hlt hk;go_wp2;go_loopw [16] (fun i wr=>∃ k:Nat,k≤256∧i = .int .i64 k∧wr.rowIs (w.heap.size+1) 315 256 (f2 k)∧wr.rowIs w.heap.size 315 256 (f1 0)∧Keeps w wr) (fun i _=>256-(intOf i).toNat)
   case atStart=>exact ⟨0,by omega,rfl,hr.congr (fun i _=>f12 i),hr0,hkp⟩
   case round=>
    obtain ⟨k,hk,rfl,hr,hr0,hkp⟩:=hrel;by_cases hlt:k<256
    ·obtain ⟨lo,re,L⟩:=zrQ k hlt;have ha:=L.a;have hx:=L.x;have hl:=L.h;have hre:=L.r;have c1:=hr.cell (i:=lo) hl;have c2:=hr.cell (i:=re) hre;obtain ⟨v,c3⟩:∃ v,wr.cell? ⟨w.heap.size+1,k,none⟩=some v:=⟨_,hr.cell (i:=k) hlt⟩
     rw [L.fl] at c1;rw [L.fr] at c2;unfold tabF at c1 c2;have hfr:=hr.frozen k;have b1:=zdk 8 (x:=lo) (by omega);have b2:=zdk 8 (x:=re) (by omega);have hx2:=u32_xor_nat (sts 8 lo) (sts 8 re) b1 b2;rw [L.s] at hx2;have HF:=zH (fun i=>zrR k i (tabF k) rfl);have HR:=zH hr;have HR0:=zH hr0;have b3:=zdk 8 (x:=k) (by omega);unfold tabF at HF;generalize sts 8 lo=X at *;generalize sts 8 re=Y at *;generalize sts 8 k=Z at *;clear L hr hr0;go_wp2;go_region
     have HX:((wr.setCell {block:=w.heap.size+1,off:=k} (Value.int IntKind.u32 ↑Z)).drew).rowIs (w.heap.size+1) 315 256 (f2 (k+1)):=
      World.rowIs.drew ((HR.out.set k _).congr (fun i _=>HF.out i))
     have HX0:((wr.setCell {block:=w.heap.size+1,off:=k} (Value.int IntKind.u32 ↑Z)).drew).rowIs w.heap.size 315 256 (f1 0):=
      World.rowIs.drew (HR0.out.setOther (by simp) _)
     have HK:Keeps w ((wr.setCell {block:=w.heap.size+1,off:=k} (Value.int IntKind.u32 ↑Z)).drew):=zK (Below.setCell hkp (p:={block:=w.heap.size+1,off:=k}) (by simp) _) (zD _);generalize (wr.setCell {block:=w.heap.size+1,off:=k} (Value.int IntKind.u32 ↑Z)).drew=wn at *;go_wp2;go_roundw
     case rel=>exact ⟨k+1,by omega,by go_num,HX,HX0,HK⟩
     case measure=>simp [intOf];omega
    ·obtain rfl:k=256:=(by omega);clear hlt hk;obtain ⟨c,hb,hn,hc⟩:=hr.congr zsD;obtain ⟨c0,hb0,hn0,hc0⟩:=hr0;have hone:c.all (·.oneCell')=true:=by
      rw [Array.all_eq_true];intro i hi;have h:=hc i (by omega);rw [Array.getElem?_eq_getElem hi] at h;rw [Option.some.inj h];rfl
     have hsz:(Tryz.prog.info? 315).map (·.size)=some c.size:=by rw [hn];exact zlf
     have h0s:c0.size=c.size:=(by omega);have hrw:(wr.setRow w.heap.size c).heap[w.heap.size]? = some (.cells c 315 (0,0)):=setRow_heap wr w.heap.size c0 c _ _ hb0;have HC:=zH hc;have HN:=zH hn;clear hn hn0 hc hc0;go_wp2_with (first|(refine wpList_load_row rfl _ _ rfl (w.heap.size+1) rfl _ c _ _ hb Tryz.underlying315 rfl hsz ?_)|(refine wpList_store_row rfl _ _ _ rfl w.heap.size c rfl rfl _ c0 hb0 hsz h0s hone ?_))
     refine bodyPost_ret (v:=.agg c) ?_ (by rfl) ?_
     ·exact results_cell_row (p:=0) (ty:=315) (by rfl) _ _ w.heap.size 315 c (0,0) _ (by rfl) hrw Tryz.underlying315 rfl hsz
     ·exact ⟨c,rfl,HN.out,HC.out,zfi hkp (Nat.le_refl _) c⟩
theorem zmz (X:Nat) (b:UInt8):zgi X b=(X/256) ^^^ sts 8 ((X%256) ^^^ b.toNat):=by
 unfold zgi;have hb:=b.toNat_lt;rw [sts8];have e1:(X ^^^ b.toNat)%256=(X%256) ^^^ b.toNat:=by
  have:=Nat.xor_mod_two_pow (a:=X) (b:=b.toNat) (n:=8);rw [this,Nat.mod_eq_of_lt (a:=b.toNat) (by omega)]
 have e2:(X ^^^ b.toNat)/256=X/256:=by
  have:=Nat.xor_div_two_pow (a:=X) (b:=b.toNat) (n:=8);rw [this,Nat.div_eq_of_lt (a:=b.toNat) (by omega),Nat.xor_zero]
 rw [e1,e2,Nat.xor_comm]
theorem zfP (x:Nat) (hx:x<4294967296):bits .xor .u32 IntKind.u32.max (x:Int)=((x ^^^ 4294967295:Nat):Int):=by
 have h:=u32_xor_nat 4294967295 x (by decide) hx;rw [Nat.xor_comm x];exact h
set_option maxRecDepth 100000 in
theorem zlh (s:Nat) (hs:s<4294967296) (A:Option Addr) (n cp:Nat) (l:List UInt8) (w:World) (hB:Bs w A l) (hn:n=l.length) (hlen:n≤9223372036854775000) :
 Calls Tryz.prog 250 #[.int .u32 s, .slice A n cp] w fun e w'=>e = .returned (.int .u32 (extC s l))∧Keeps w w':=by
 subst hn;have HB:=zH hB;clear hB;have hz:=zlg;go_enter Tryz.func250,Tryz.ntmps250;go_wp2_with fail
 refine (zox w).mono ?_;rintro e w1 ⟨c,rfl,hn,hc,k1⟩;have hone:c.all (·.oneCell')=true:=by
  rw [Array.all_eq_true];intro i hi;have h:=hc i (by omega);rw [Array.getElem?_eq_getElem hi] at h;rw [Option.some.inj h];rfl
 have hsz:(Tryz.prog.info? 315).map (·.size)=some c.size:=by rw [hn];exact zlf
 have h0s:zeros.size=c.size:=by rw [zeD];omega
 have hb0:=heap_alloc_new w1 (.cells zeros 315);have hrw:((w1.alloc (.cells zeros 315)).setRow w1.heap.size c).heap[w1.heap.size]? = some (.cells c 315 (0,0)):=setRow_heap _ w1.heap.size zeros c _ _ hb0;have hkp:Keeps w ((w1.alloc (.cells zeros 315)).setRow w1.heap.size c):=zfi (zK k1 (zA _ _)) k1.size c;go_wp2_with (refine wpList_store_row rfl _ _ _ rfl w1.heap.size c rfl rfl _ zeros hb0 hsz h0s hone ?_)
 generalize ((w1.alloc (.cells zeros 315)).setRow w1.heap.size c)=W at *;generalize w1.heap.size=b at *;have HC:=zH (fun i (hi:i<256)=>(cell_of_row W b i c _ _ hrw).trans (hc i hi));clear hn hc hsz h0s hone hb0 hz hrw;have HB':=zH (HB.out.keep hkp)
 go_loop [6,14] (fun x i=>∃ k:Nat,k≤l.length∧i = .int .i64 k∧x = .int .u32 (runC (s ^^^ 4294967295) (l.take k))) (fun _ i=>l.length-(intOf i).toNat)
 case atStart=>exact ⟨0,Nat.zero_le _,rfl,congrArg (Value.int .u32) (zfP s hs)⟩
 case round=>
  obtain ⟨k,hk,rfl,rfl⟩:=hrel;have hR:=zhg (not_lt hs) (l.take k);by_cases hlt:k<l.length
  ·obtain ⟨ad,rfl,hcell⟩:=HB'.out.at_ hlt;have hstep:runC (s ^^^ 4294967295) (l.take (k+1))=(runC (s ^^^ 4294967295) (l.take k)/256) ^^^ sts 8 ((runC (s ^^^ 4294967295) (l.take k)%256) ^^^ (l.getD k 0).toNat):=by
    rw [List.take_succ_eq_append_getElem hlt,zfA,zfm l hlt,←zmz];rfl
   have HS:=zH hstep;have hb:=(l.getD k 0).toNat_lt;clear hstep;generalize runC (s ^^^ 4294967295) (l.take k)=X at *;generalize (l.getD k 0).toNat=y at *;have hq:(X%256) ^^^ y<256:=Nat.xor_lt_two_pow (n:=8) (by omega) (by omega);have hxy:bits .xor .u8 ((X:Int)%256) (y:Int)=(((X%256) ^^^ y:Nat):Int):=by
    have:=u8_xor_nat (X%256) y (by omega) (by omega);rw [←this];rfl
   have ht:=HC.out _ hq;unfold tabF at ht;have hT:=zdk 8 (x:=(X%256) ^^^ y) (by omega);generalize (X%256) ^^^ y=q at *;have hx2:bits .xor .u32 ((X:Int)/256) ((sts 8 q:Nat):Int)=(((X/256) ^^^ sts 8 q:Nat):Int):=by
    have:=u32_xor_nat (X/256) (sts 8 q) (by omega) hT;rw [←this];rfl
   generalize sts 8 q=T at *;go_wp2
   go_round
   case rel=>exact ⟨k+1,by omega,by go_num,by rw [HS.out]⟩
   case measure=>simp [intOf];omega
  ·go_wp2
   go_ret;have e:=zfP _ hR;refine ⟨?_,hkp⟩;obtain rfl:k=l.length:=by omega
   rw [List.take_length] at e;simp only [List.take_length];exact congrArg (fun z=>Ending.returned (Value.int .u32 z)) e
theorem zrS (A:Option Addr) (n cp:Nat) (l:List UInt8) (w:World) (hB:Bs w A l) (hn:n=l.length) (hlen:n≤9223372036854775000) :
 Calls Tryz.prog 239 #[.slice A n cp] w fun e w'=>e = .returned (.int .u32 (extC 0 l))∧Keeps w w':=by
 have E:=zH (zlh 0 (by decide) A n cp l w hB hn hlen);clear hB hn;go_enter Tryz.func239,Tryz.ntmps239;go_wp2_with fail
 refine E.out.mono ?_;rintro e w1 ⟨rfl,k1⟩;go_wp2;go_ret;exact ⟨rfl,k1⟩
theorem crcOk:CrcOk where
 ext s hs A n c l w hB hn hc hlen:=zlh s hs A n c l w hB hn (by omega)
 sum A n c l w hB hn hc hlen:=zrS A n c l w hB hn (by omega)
end Go.Proofs.YtjpldnjldindkaaGreatDoor
