/- Mathematics of no program: the sum CRC-32C over natural numbers: its step is linear and loses nothing, a table of 256 numbers does eight steps, and a burst of at most 32 bits never comes to 0. -/
import Derived.Test.YtjpldnjldindkaaGreatDoorQBase
import Derived.Test.YtjpldnjldindkaaGreatDoorProg
set_option linter.all false
set_option maxHeartbeats 0
set_option maxRecDepth 100000
namespace Go.Proofs.YtjpldnjldindkaaGreatDoor
def poly:Nat:=0x82F63B78
def st (x:Nat):Nat:=(x/2) ^^^ (if x%2=1 then poly else 0)
def sts:Nat→Nat→Nat
 | 0,x=>x
 | k+1,x=>sts k (st x)
theorem zeh (k x:Nat):sts (k+1) x=st (sts k x):=by
 induction k generalizing x with
 | zero=>rfl
 | succ k ih=>exact ih (st x)
theorem zqF (j k x:Nat):sts (j+k) x=sts k (sts j x):=by
 induction k with
 | zero=>rfl
 | succ k ih=>rw [←Nat.add_assoc,zeh,ih,zeh]
theorem zoQ (x y:Nat):(x ^^^ y)/2=(x/2) ^^^ (y/2):=by
 apply Nat.eq_of_testBit_eq;intro i;simp [Nat.testBit_div_two,Nat.testBit_xor]
theorem zqG (x:Nat):(x%2=1)=(x.testBit 0=true):=by simp [Nat.testBit_zero]
theorem zr3 (x y:Nat):st (x ^^^ y)=st x ^^^ st y:=by
 unfold st;rw [zoQ];simp only [zqG,Nat.testBit_xor];apply Nat.eq_of_testBit_eq;intro i;cases hx:x.testBit 0<;>cases hy:y.testBit 0<;>simp [Nat.testBit_xor]<;>cases (x/2).testBit i<;>cases (y/2).testBit i<;>cases poly.testBit i<;>rfl
theorem st_0:st 0=0:=rfl
theorem zkU (k x y:Nat):sts k (x ^^^ y)=sts k x ^^^ sts k y:=by
 induction k generalizing x y with
 | zero=>rfl
 | succ k ih=>simp only [sts,zr3,ih]
theorem sts_0 (k:Nat):sts k 0=0:=by
 induction k with
 | zero=>rfl
 | succ k ih=>simpa [sts,st_0] using ih
theorem st_lt {x:Nat} (h:x<4294967296):st x<4294967296:=by
 unfold st;refine Nat.xor_lt_two_pow (n:=32) (by omega) ?_;split<;>simp [poly]
theorem zdk (k:Nat) {x:Nat} (h:x<4294967296):sts k x<4294967296:=by
 induction k generalizing x with
 | zero=>exact h
 | succ k ih=>exact ih (st_lt h)
theorem zqH (z:Nat):st (2*z)=z:=by
 unfold st;rw [if_neg (by omega),Nat.xor_zero];omega
theorem ziU (k z:Nat):sts k (2^k*z)=z:=by
 induction k with
 | zero=>simp [sts]
 | succ k ih=>rw [sts,Nat.pow_succ,Nat.mul_comm (2^k) 2,Nat.mul_assoc,zqH,ih]
theorem zr4 (x:Nat):x=(x%256) ^^^ (256*(x/256)):=by
 apply Nat.eq_of_testBit_eq;intro i;have e1:x%256=x%2^8:=rfl;have e2:256*(x/256)=(x/2^8)*2^8:=by rw [Nat.mul_comm]
 rw [Nat.testBit_xor,e1,e2,Nat.testBit_mod_two_pow,Nat.testBit_mul_two_pow,Nat.testBit_div_two_pow];by_cases h:i<8
 ·have:¬ 8≤i:=(by omega);simp [h,this]
 ·have h8:8≤i:=(by omega);have e:i-8+8=i:=by omega
  simp [h,h8,e]
theorem sts8 (x:Nat):sts 8 x=sts 8 (x%256) ^^^ (x/256):=by
 have h:=zkU 8 (x%256) (256*(x/256));rw [←zr4] at h;rw [h];congr 1
 exact ziU 8 (x/256)
def zgi (x:Nat) (b:UInt8):Nat:=sts 8 (x ^^^ b.toNat)
def runC (x:Nat) (l:List UInt8):Nat:=l.foldl zgi x
def extC (sum:Nat) (l:List UInt8):Nat:=(runC (sum ^^^ 4294967295) l) ^^^ 4294967295
theorem zfA (x:Nat) (l m:List UInt8):runC x (l++m)=runC (runC x l) m:=List.foldl_append
theorem zkV (b:UInt8):b.toNat<4294967296:=by have:=b.toNat_lt;omega
theorem zmK {x:Nat} (h:x<4294967296) (b:UInt8):zgi x b<4294967296:=zdk 8 (Nat.xor_lt_two_pow (n:=32) h (zkV b))
theorem zhg {x:Nat} (h:x<4294967296) (l:List UInt8):runC x l<4294967296:=by
 induction l generalizing x with
 | nil=>exact h
 | cons b l ih=>exact ih (zmK h b)
theorem not_lt {x:Nat} (h:x<4294967296):x ^^^ 4294967295<4294967296:=Nat.xor_lt_two_pow (n:=32) h (by omega)
theorem zcA {s:Nat} (h:s<4294967296) (l:List UInt8):extC s l<4294967296:=not_lt (zhg (not_lt h) l)
def xor3L:List UInt8→List UInt8→List UInt8→List UInt8
 | a::l,b::m,c::n=>(a ^^^ b ^^^ c)::xor3L l m n
 | _,_,_=>[]
def bitAt (l:List UInt8) (j:Nat):Bool:=(l.getD (j/8) 0).toNat.testBit (j%8)
def runB (f:Nat→Bool) (x:Nat):Nat→Nat
 | 0=>x
 | n+1=>st (runB f x n ^^^ (f n).toNat)
def zr5 (f:Nat→Bool) (a:Nat):Nat→Nat
 | 0=>0
 | i+1=>zr5 f a i ^^^ (2^i*(f (a+i)).toNat)
theorem zfm (l:List UInt8) {k:Nat} (h:k<l.length):l.getD k 0=l[k]:=by simp [List.getD,h]
def turnC (l:List UInt8) (a m:Nat):Nat→List UInt8
 | 0=>l
 | i+1=>if m.testBit i=true∧a+i<8*l.length then (turnC l a m i).set ((a+i)/8) ((turnC l a m i).getD ((a+i)/8) 0 ^^^ UInt8.ofNat (2^((a+i)%8))) else turnC l a m i
open Go.RowKit
theorem zgj (k:Nat):256^k=2^(8*k):=by
 rw [show (256:Nat)=2^8 from rfl,←Nat.pow_mul]
theorem zkW (a b k:Nat) (ha:a<256^k):(a ||| b*2^(8*k))=a+256^k*b:=by
 rw [Nat.or_comm,nat_join (8*k) _ a (by simp) (by rw [←zgj];exact ha),←zgj,Nat.mul_comm b,Nat.add_comm]
theorem ziV (b k K:Nat) (hb:b<256) (hk:k<K):b*2^(8*k)<256^K:=by
 rw [←zgj];have h1:b*256^k<256*256^k:=Nat.mul_lt_mul_of_pos_right hb (Nat.pow_pos (by decide));have h2:256*256^k=256^(k+1):=by rw [Nat.pow_succ,Nat.mul_comm]
 have h3:256^(k+1)≤256^K:=Nat.pow_le_pow_right (by decide) (by omega);omega
theorem zgk (b k:Nat):((b:Int)*2^(8*k))=((b*2^(8*k):Nat):Int):=by
 rw [Int.natCast_mul,Int.natCast_pow];rfl
theorem or64 (a b k:Nat) (ha:a<256^k) (hb:b<256) (hk:k<8) :
 bits .or .u64 (a:Int) (IntKind.u64.wrap (IntKind.u64.wrap (b:Int)*2^(8*k)))=((a+256^k*b:Nat):Int):=by
 have h:=ziV b k 8 hb hk;have ha':a<256^8:=Nat.lt_of_lt_of_le ha (Nat.pow_le_pow_right (by decide) (by omega));rw [IntWalk.u64_in (b:Int) ⟨by omega,by omega⟩,zgk,IntWalk.u64_in _ ⟨by omega,by omega⟩,u64_or_nat _ _ (by omega) (by omega),zkW a b k ha]
theorem or32 (a b k:Nat) (ha:a<256^k) (hb:b<256) (hk:k<4) :
 bits .or .u32 (a:Int) (IntKind.u32.wrap (IntKind.u32.wrap (b:Int)*2^(8*k)))=((a+256^k*b:Nat):Int):=by
 have h:=ziV b k 4 hb hk;have ha':a<256^4:=Nat.lt_of_lt_of_le ha (Nat.pow_le_pow_right (by decide) (by omega));rw [IntWalk.u32_in (b:Int) ⟨by omega,by omega⟩,zgk,IntWalk.u32_in _ ⟨by omega,by omega⟩,u32_or_nat _ _ (by omega) (by omega),zkW a b k ha]
theorem zgl (l:List UInt8) (k:Nat) (hk:k≤l.length):le (l.take k)<256^k:=by
 have:=le_lt (l.take k)
 rwa [List.length_take,Nat.min_eq_left hk] at this
theorem zgm (A:Option Addr) (c:Nat) (l:List UInt8) (w:World) (h:Bs w A l) (hn:l.length≤8) (n:Nat) (hnl:n=l.length) :
 Calls Tryz.prog 107 #[.slice A n c] w fun e w'=>e = .returned (.int .u64 (le l))∧w=w':=by
 subst hnl;go_enter Tryz.func107,Tryz.ntmps107;go_wp2
 go_loop [3,8] (fun x i=>∃ k:Nat,k≤l.length∧i = .int .i64 k∧x = .int .u64 (le (l.take k))) (fun _ i=>l.length-(intOf i).toNat)
 case atStart=>exact ⟨0,Nat.zero_le _,rfl,by simp [le]⟩
 case round=>
  obtain ⟨k,hk,rfl,rfl⟩:=hrel;by_cases hlt:k<l.length
  ·obtain ⟨ad,rfl,hc⟩:=h.at_ hlt;have H:=zH h;clear h;go_wp2
   go_round
   case rel=>
    refine ⟨k+1,by omega,by go_num,?_⟩;have hb:=(l.getD k 0).toNat_lt;have e:=or64 (le (l.take k)) (l.getD k 0).toNat k (zgl l k hk) hb (by omega);rw [←zeM l k hlt] at e;rw [←e];simp [List.getD,hlt,IntKind.wrap_u32']
   case measure=>simp [intOf];omega
  ·go_wp2
   go_ret;exact ⟨by rw [List.take_of_length_le (by omega)];rfl,rfl⟩
theorem zbR (A:Option Addr) (c:Nat) (l:List UInt8) (w:World) (h:Bs w A l) (hn:l.length≤4) (n:Nat) (hnl:n=l.length) :
 Calls Tryz.prog 76 #[.slice A n c] w fun e w'=>e = .returned (.int .u32 (le l))∧w=w':=by
 subst hnl;go_enter Tryz.func76,Tryz.ntmps76;go_wp2
 go_loop [3,8] (fun x i=>∃ k:Nat,k≤l.length∧i = .int .i64 k∧x = .int .u32 (le (l.take k))) (fun _ i=>l.length-(intOf i).toNat)
 case atStart=>exact ⟨0,Nat.zero_le _,rfl,by simp [le]⟩
 case round=>
  obtain ⟨k,hk,rfl,rfl⟩:=hrel;by_cases hlt:k<l.length
  ·obtain ⟨ad,rfl,hc⟩:=h.at_ hlt;have H:=zH h;clear h;go_wp2
   go_round
   case rel=>
    refine ⟨k+1,by omega,by go_num,?_⟩;have hb:=(l.getD k 0).toNat_lt;have e:=or32 (le (l.take k)) (l.getD k 0).toNat k (zgl l k hk) hb (by omega);rw [←zeM l k hlt] at e;rw [←e];simp [List.getD,hlt,IntKind.wrap_u32']
   case measure=>simp [intOf];omega
  ·go_wp2
   go_ret;exact ⟨by rw [List.take_of_length_le (by omega)];rfl,rfl⟩
theorem zbB:(Tryz.prog.info? 5).map (fun i=>(i.zero,i.size,i.bytes))=some (some (.int .u8 0),1,1):=by kernel_rfl
def ziW (w:World) (base:Nat) (v:Value) (xs:List UInt8) (s x:Nat) (e:Ending) (w':World):Prop:=
 ∃ v',e = .returned v'∧Own w' base 5 1 v' (xs.length+s) (cel (xs++nb s x))∧Onto w v.ownBlock w' v'
theorem zkX (x k:Nat) (hx:x<18446744073709551616):(IntKind.u8.wrap ((x:Int)/2^(8*k)))=((UInt8.ofNat (x/256^k%256)).toNat:Int):=by
 have e:((x:Int)/2^(8*k))=((x/256^k:Nat):Int):=by
  rw [Int.natCast_ediv,zgj,Int.natCast_pow];rfl
 rw [e,IntKind.wrap_u8'];simp
theorem zdl (base:Nat) (v:Value) (xs:List UInt8) (s x:Nat) (hs:s≤8) (hx:x<18446744073709551616) (w:World) (hown:Own w base 5 1 v xs.length (cel xs)) (hbase:base≤w.heap.size) (hlen:xs.length≤140737488355000) :
 Calls Tryz.prog 220 #[v, .int .u64 x, .int .i64 s] w (ziW w base v xs s x):=by
 obtain ⟨i0,hi,hz0,hz1,hz2⟩:=info_parts zbB;go_enter Tryz.func220,Tryz.ntmps220;go_wp2
 go_loopw [0,9] (fun v' i wr=>∃ k:Nat,k≤s∧i = .int .i64 k∧Own wr base 5 1 v' (xs.length+k) (cel (xs++nb k x))∧Onto w v.ownBlock wr v') (fun _ i _=>s-(intOf i).toNat)
 case atStart=>exact ⟨0,Nat.zero_le _,rfl,by simpa [nb] using hown,Onto.refl _ _⟩
 case round=>
  obtain ⟨k,hk,rfl,hr,ho⟩:=hrel;by_cases hlt:k<s
  ·have hbase':base≤wr.heap.size:=Nat.le_trans hbase ho.1.size;go_wp2_with (at_builtin;refine zaj _ rfl _ _ 39 rfl base 5 i0 (.int .u8 0) 1 1 Tryz.underlying39 hi hz0 hz1 hz2 rfl (by decide) _ _ _ rfl (hr.keep (zA _ _)) (wr.heap.size+1) _ 1 1 [.int .u8 ((x:Int)/2^(8*k)%256)] rfl rfl (At.new _ _ _ _ (by omega)) (fun u hu=>by simp at hu;subst hu;rfl) (by unfold maxLen;omega) (by omega) (by simp;omega) ?_)
   intro v' w1 hown' hgrow hblk;have ho':Onto w v.ownBlock w1 v':=(ho.keep (zA _ _)).step hgrow (by simpa using hblk);have e:cel (xs++nb k x)++[.int .u8 ((x:Int)/2^(8*k)%256)]=cel (xs++nb (k+1) x):=by
    rw [zhe,←List.append_assoc,zax (xs++nb k x)];have eb:=zkX x k hx;rw [IntKind.wrap_u8'] at eb;rw [eb];rfl
   rw [e,Nat.add_assoc] at hown';clear e hgrow hblk ho hr;go_wp2
   go_roundw
   case rel=>exact ⟨k+1,by omega,by go_num,hown',ho'⟩
   case measure=>simp [intOf];omega
  ·go_wp2
   go_ret;obtain rfl:k=s:=(by omega);exact ⟨_,rfl,hr,ho⟩
theorem zbm (base:Nat) (v:Value) (xs:List UInt8) (s x:Nat) (hs:s≤4) (hx:x<4294967296) (w:World) (hown:Own w base 5 1 v xs.length (cel xs)) (hbase:base≤w.heap.size) (hlen:xs.length≤140737488355000) :
 Calls Tryz.prog 166 #[v, .int .u32 x, .int .i64 s] w (ziW w base v xs s x):=by
 obtain ⟨i0,hi,hz0,hz1,hz2⟩:=info_parts zbB;go_enter Tryz.func166,Tryz.ntmps166;go_wp2
 go_loopw [0,9] (fun v' i wr=>∃ k:Nat,k≤s∧i = .int .i64 k∧Own wr base 5 1 v' (xs.length+k) (cel (xs++nb k x))∧Onto w v.ownBlock wr v') (fun _ i _=>s-(intOf i).toNat)
 case atStart=>exact ⟨0,Nat.zero_le _,rfl,by simpa [nb] using hown,Onto.refl _ _⟩
 case round=>
  obtain ⟨k,hk,rfl,hr,ho⟩:=hrel;by_cases hlt:k<s
  ·have hbase':base≤wr.heap.size:=Nat.le_trans hbase ho.1.size;go_wp2_with (at_builtin;refine zaj _ rfl _ _ 39 rfl base 5 i0 (.int .u8 0) 1 1 Tryz.underlying39 hi hz0 hz1 hz2 rfl (by decide) _ _ _ rfl (hr.keep (zA _ _)) (wr.heap.size+1) _ 1 1 [.int .u8 ((x:Int)/2^(8*k)%256)] rfl rfl (At.new _ _ _ _ (by omega)) (fun u hu=>by simp at hu;subst hu;rfl) (by unfold maxLen;omega) (by omega) (by simp;omega) ?_)
   intro v' w1 hown' hgrow hblk;have ho':Onto w v.ownBlock w1 v':=(ho.keep (zA _ _)).step hgrow (by simpa using hblk);have e:cel (xs++nb k x)++[.int .u8 ((x:Int)/2^(8*k)%256)]=cel (xs++nb (k+1) x):=by
    rw [zhe,←List.append_assoc,zax (xs++nb k x)];have eb:=zkX x k (by omega);rw [IntKind.wrap_u8'] at eb;rw [eb];rfl
   rw [e,Nat.add_assoc] at hown';clear e hgrow hblk ho hr;go_wp2
   go_roundw
   case rel=>exact ⟨k+1,by omega,by go_num,hown',ho'⟩
   case measure=>simp [intOf];omega
  ·go_wp2
   go_ret;obtain rfl:k=s:=(by omega);exact ⟨_,rfl,hr,ho⟩
def Sizes (w:World):Prop:=w.cell? ⟨4,0,none⟩=some (.int .i64 1)∧w.cell? ⟨4,1,none⟩=some (.int .i64 2)∧w.cell? ⟨4,2,none⟩=some (.int .i64 4)∧w.cell? ⟨4,3,none⟩=some (.int .i64 8)
theorem Sizes.keep {w w':World} (h:Sizes w) (k:Keeps w w'):Sizes w':=⟨k.cellOf h.1,k.cellOf h.2.1,k.cellOf h.2.2.1,k.cellOf h.2.2.2⟩
def isSz (s:Int):Bool:=decide (s=1∨s=2∨s=4∨s=8)
theorem zdz {s:Int} (h:isSz s=true):s=1∨s=2∨s=4∨s=8:=by simpa [isSz] using h
theorem zgn (j:Nat) (s:Int) (hj:[(0,(1:Int)),(1,2),(2,4),(3,8)].contains (j,s)=true) :
 ∀ w,(Instr.index 314 (.agg #[.int .i64 1, .int .i64 2, .int .i64 4, .int .i64 8]) (.int .i64 j)).run Tryz.prog w = .ok (.int .i64 s) w:=by
 simp at hj;rcases hj with ⟨rfl,rfl⟩|⟨rfl,rfl⟩|⟨rfl,rfl⟩|⟨rfl,rfl⟩<;>exact fun _=>by kernel_rfl
theorem zbS (s:Int) (w:World) (h:Sizes w) :
 Calls Tryz.prog 249 #[.int .i64 s] w fun e w'=>e = .returned (.bool (isSz s))∧w=w':=by
 obtain ⟨h0,h1,h2,h3⟩:=h;have i0:=zgn 0 1 rfl;have i1:=zgn 1 2 rfl;have i2:=zgn 2 4 rfl;have i3:=zgn 3 8 rfl;simp only [Int.ofNat_eq_natCast,Int.cast_ofNat_Int] at i0 i1 i2 i3;go_enter Tryz.func249,Tryz.ntmps249;go_wp2
 go_rounds 5
 all_goals go_ret
 all_goals clear i0 i1 i2 i3 h0 h1 h2 h3
 ·have e:1=s:=(by simpa using ‹(1 == s)=true›);subst e;exact ⟨by simp [isSz],rfl⟩
 ·have e:2=s:=(by simpa using ‹(2 == s)=true›);subst e;exact ⟨by simp [isSz],rfl⟩
 ·have e:4=s:=(by simpa using ‹(4 == s)=true›);subst e;exact ⟨by simp [isSz],rfl⟩
 ·have e:8=s:=(by simpa using ‹(8 == s)=true›);subst e;exact ⟨by simp [isSz],rfl⟩
 ·have e1:1≠s:=(by simpa using ‹(1 == s)=false›);have e2:2≠s:=by simpa using ‹(2 == s)=false›
  have e3:4≠s:=(by simpa using ‹(4 == s)=false›);have e4:8≠s:=by simpa using ‹(8 == s)=false›
  have e:isSz s=false:=by unfold isSz;exact decide_eq_false (by omega)
  rw [e];exact ⟨rfl,rfl⟩
def numAt (l:List UInt8) (at_ size:Nat):Nat:=le ((l.drop at_).take size)
theorem get_no (A:Option Addr) (n c:Nat) (pos size:Int) (w:World) (hS:Sizes w) (hn:n≤9223372036854775807) (h1 : -9223372036854775808≤pos) (h2:pos≤9223372036854775807)
 (hno:isSz size=false∨pos<0∨(n:Int)-size<pos) :
 Calls Tryz.prog 260 #[.slice A n c, .int .i64 pos, .int .i64 size] w fun e w'=>e = .returned (.tuple #[.int .u64 0, .int .i64 1])∧w=w':=by
 cases hs:isSz size with
 | false=>
  go_enter Tryz.func260,Tryz.ntmps260;go_wp2_with (go_at_call 249;refine (zbS _ _ hS).mono ?_;rintro e w' ⟨rfl,rfl⟩)
  go_ret2
  exact ⟨rfl,rfl⟩
 | true=>
  have hsz:=zdz hs;have hb:1≤size∧size≤8:=by omega
  clear hsz;by_cases hp:pos<0
  ·go_enter Tryz.func260,Tryz.ntmps260;go_wp2_with (go_at_call 249;refine (zbS _ _ hS).mono ?_;rintro e w' ⟨rfl,rfl⟩)
   go_ret2
   exact ⟨rfl,rfl⟩
  ·have hg:(n:Int)-size<pos:=by
    rcases hno with h|h|h
    ·rw [hs] at h;cases h
    ·omega
    ·exact h
   clear hno;go_enter Tryz.func260,Tryz.ntmps260;go_wp2_with (go_at_call 249;refine (zbS _ _ hS).mono ?_;rintro e w' ⟨rfl,rfl⟩)
   go_ret2
   exact ⟨rfl,rfl⟩
theorem zqI (A:Option Addr) (n c:Nat) (l:List UInt8) (p s:Nat) (w:World) (hS:Sizes w) (hB:Bs w A l) (hnl:n=l.length) (hc:n≤c) (hn:n≤9223372036854775000)
 (hs:isSz (s:Int)=true) (hp:p+s≤n) :
 Calls Tryz.prog 260 #[.slice A n c, .int .i64 p, .int .i64 s] w fun e w'=>e = .returned (.tuple #[.int .u64 (numAt l p s), .int .i64 0])∧w=w':=by
 have hsz:=zdz hs;have hb:1≤s∧s≤8:=by omega
 clear hsz;obtain ⟨ad,rfl⟩:=hB.some_ (by omega);have hJ:Bs w (some (ad.add p)) ((l.drop p).take s):=(hB.drop p).take s;have hl:((l.drop p).take s).length=s:=by rw [List.length_take,List.length_drop];omega
 have HJ:=zH hJ;have HL:=zH hl;have HN:=zH hnl;clear hJ hl hB hnl;go_enter Tryz.func260,Tryz.ntmps260;go_wp2_with (first|(go_at_call 249;refine (zbS _ _ hS).mono ?_;rintro e w' ⟨rfl,rfl⟩)|(go_at_call 107;refine (zgm _ _ _ _ HJ.out (by rw [HL.out];omega) _ HL.out.symm).mono ?_;rintro e w' ⟨rfl,rfl⟩))
 go_ret2
 exact ⟨rfl,rfl⟩
def Made (w:World) (l:List UInt8) (e:Ending) (w':World):Prop:=
 ∃ v',e = .returned v'∧Own w' w.heap.size 5 1 v' l.length (cel l)∧Keeps w w'
theorem zhL {w w2 w3:World} {l:List UInt8} {k x:Nat} {v2 v3:Value} (h2:Own w2 w.heap.size 5 1 v2 l.length (cel l)) (k2:Keeps w w2) (h3:Own w3 w.heap.size 5 1 v3 (l.length+k) (cel (l++nb k x))) (ho:Onto w2 v2.ownBlock w3 v3) :
 Made w (l++nb k x) (.returned v3) w3:=
 ⟨v3,rfl,by rw [List.length_append,zad];exact h3,Onto.keeps k2 ho (fun g hg=>(h2.lt g hg).1)⟩
theorem ziX (A:Option Addr) (n c:Nat) (l:List UInt8) (x:Nat) (s:Int) (w:World) (hS:Sizes w) (hB:Bs w A l) (hnl:n=l.length) (hx:x<18446744073709551616) (hn:n≤140737488354000) :
 Calls Tryz.prog 238 #[.slice A n c, .int .u64 x, .int .i64 s] w (Made w (l++if isSz s then nb s.toNat x else [])):=by
 obtain ⟨i0,hi,hz0,hz1,hz2⟩:=info_parts zbB;have HN:=zH hnl;have hn':=hn;rw [hnl] at hn';cases hs:isSz s with
 | false=>
  clear hnl;have e0:(l++if false=true then nb s.toNat x else [])=l++nb 0 x:=by simp [nb]
  rw [e0];go_enter Tryz.func238,Tryz.ntmps238;go_wp2_with (first
   | (go_at_call 249;refine (zbS _ _ hS).mono ?_;rintro e w' ⟨rfl,rfl⟩)
   | (at_make;refine wpList_make_own _ rfl _ _ 39 rfl w.heap.size 5 i0 (.int .u8 0) 1 Tryz.underlying39 hi hz0 hz1 .i64 .i64 _ (n) rfl rfl (by omega) (by rw [hz2];omega) (by unfold maxLen;omega) (Nat.le_refl _) ?_;intro w1 hown1 hg1;have k1:Keeps w w1:=zcS hg1 _ (Nat.le_refl _) (by simp);have hB1:=hB.keep k1)
   | (at_builtin;refine zaj _ rfl _ _ 39 rfl w.heap.size 5 i0 (.int .u8 0) 1 1 Tryz.underlying39 hi hz0 hz1 hz2 rfl (by decide) _ 0 [] rfl (Own.of_row hown1) w1.heap.size A n c (cel l) rfl (by rw [zaq,HN.out,Nat.mul_one]) hB1 (za3 l) (by unfold maxLen;omega) (by omega) k1.size ?_;intro v2 w2 hown2 hgrow2 hblk2;have o2:Own w2 w.heap.size 5 1 v2 l.length (cel l):=(by have:=hown2;rw [HN.out] at this;simpa using this);have k2:Keeps w w2:=Below.grown k1 hgrow2 k1.size (fun g hg=>((Own.of_row hown1).lt g hg).1);clear hown2 hgrow2 hblk2)
   | (go_at_call 220;refine (zdl w.heap.size _ l 0 x (by omega) hx _ o2 k2.size (by omega)).mono ?_;rintro e w3 ⟨v3,rfl,o3,n3⟩))
  go_ret;exact zhL o2 k2 o3 n3
 | true=>
  have hsz:=zdz hs;obtain ⟨k,rfl⟩:∃ k:Nat,s=(k:Int):=⟨s.toNat,by omega⟩
  have hk:k≤8:=by omega
  clear hnl hsz;have e0:(l++if true=true then nb (k:Int).toNat x else [])=l++nb k x:=by simp
  rw [e0];clear e0;go_enter Tryz.func238,Tryz.ntmps238;go_wp2_with (first
   | (go_at_call 249;refine (zbS _ _ hS).mono ?_;rintro e w' ⟨rfl,rfl⟩)
   | (at_make;refine wpList_make_own _ rfl _ _ 39 rfl w.heap.size 5 i0 (.int .u8 0) 1 Tryz.underlying39 hi hz0 hz1 .i64 .i64 _ (n+k) rfl rfl (by omega) (by rw [hz2];omega) (by unfold maxLen;omega) (Nat.le_refl _) ?_;intro w1 hown1 hg1;have k1:Keeps w w1:=zcS hg1 _ (Nat.le_refl _) (by simp);have hB1:=hB.keep k1)
   | (at_builtin;refine zaj _ rfl _ _ 39 rfl w.heap.size 5 i0 (.int .u8 0) 1 1 Tryz.underlying39 hi hz0 hz1 hz2 rfl (by decide) _ 0 [] rfl (Own.of_row hown1) w1.heap.size A n c (cel l) rfl (by rw [zaq,HN.out,Nat.mul_one]) hB1 (za3 l) (by unfold maxLen;omega) (by omega) k1.size ?_;intro v2 w2 hown2 hgrow2 hblk2;have o2:Own w2 w.heap.size 5 1 v2 l.length (cel l):=(by have:=hown2;rw [HN.out] at this;simpa using this);have k2:Keeps w w2:=Below.grown k1 hgrow2 k1.size (fun g hg=>((Own.of_row hown1).lt g hg).1);clear hown2 hgrow2 hblk2)
   | (go_at_call 220;refine (zdl w.heap.size _ l k x (by omega) hx _ o2 k2.size (by omega)).mono ?_;rintro e w3 ⟨v3,rfl,o3,n3⟩))
  go_ret;exact zhL o2 k2 o3 n3
end Go.Proofs.YtjpldnjldindkaaGreatDoor
