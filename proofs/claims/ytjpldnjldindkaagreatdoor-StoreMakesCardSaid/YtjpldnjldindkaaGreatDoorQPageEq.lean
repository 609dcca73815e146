/- Pairs of numbers, and page heads, compared as a whole. -/
import Derived.ChangeKeysEq
import Derived.Laws.StructEq
import Derived.MapKept
import Derived.Test.YtjpldnjldindkaaGreatDoorQLawPage
import Derived.Test.YtjpldnjldindkaaGreatDoorQTurned
import Derived.Test.YtjpldnjldindkaaGreatDoorQClone
import Derived.WalkMore
import Derived.ScopeJumps
set_option linter.all false
set_option maxHeartbeats 0
set_option maxRecDepth 100000
namespace Go.Proofs.YtjpldnjldindkaaGreatDoor
open Go.RowKit
theorem zj4 (A:Option Addr) (n c:Nat) (l:List UInt8) (p s:Nat) (w:World) (hS:Sizes w) (hB:Bs w A l) (hnl:n=l.length) (hc:n≤c) (hn:n≤9223372036854775000)
 (hs:isSz (s:Int)=true) (hp:p+s≤n) :
 Calls Tryz.prog 258 #[.slice A n c, .int .i64 p, .int .i64 s] w fun e w'=>e = .returned (.int .u64 (numAt l p s))∧w=w':=by
 have G:=zH (zqI A n c l p s w hS hB hnl hc hn hs hp);clear hB hnl;go_enter Tryz.func258,Tryz.ntmps258;go_wp2_with (go_at_call 260;refine G.out.mono ?_;rintro e w' ⟨rfl,rfl⟩)
 go_ret;exact ⟨rfl,rfl⟩
theorem zbu (l:List UInt8) (p s:Nat):numAt l p s<256^s:=by
 have h:=le_lt ((l.drop p).take s);refine Nat.lt_of_lt_of_le h (Nat.pow_le_pow_right (by decide) ?_);rw [List.length_take];omega
def headV (p:List UInt8):Value:=.agg #[.int .u32 (numAt p 0 4:Int), .int .u32 (numAt p 4 4:Int), .int .u16 (numAt p 8 2:Int), .int .u16 (numAt p 10 2:Int)]
theorem zmA (A:Option Addr) (c:Nat) (p:List UInt8) (w:World) (hS:Sizes w) (hB:Bs w A p) (hp:p.length=256) (hc:256≤c) :
 Calls Tryz.prog 253 #[.slice A 256 c] w fun e w'=>e = .returned (headV p)∧Keeps w w':=by
 have G:=zH (fun W (k:Keeps w W) a s hs ha=>zj4 A 256 c p a s W (hS.keep k) (hB.keep k) hp.symm hc (by decide) hs ha);have k0:=zA w (.cells #[.int .u32 0, .int .u32 0, .int .u16 0, .int .u16 0] 301);have h0:=zbu p 0 4;have h1:=zbu p 4 4;have h2:=zbu p 8 2;have h3:=zbu p 10 2;have g0:Calls Tryz.prog 258 #[.slice A 256 c, .int .i64 0, .int .i64 4] _ _:=G.out _ k0 0 4 (by decide) (by decide);have g1:Calls Tryz.prog 258 #[.slice A 256 c, .int .i64 4, .int .i64 4] _ _:=G.out _ k0 4 4 (by decide) (by decide);have g2:Calls Tryz.prog 258 #[.slice A 256 c, .int .i64 8, .int .i64 2] _ _:=G.out _ k0 8 2 (by decide) (by decide);have g3:Calls Tryz.prog 258 #[.slice A 256 c, .int .i64 10, .int .i64 2] _ _:=G.out _ k0 10 2 (by decide) (by decide);have G0:=zH g0;have G1:=zH g1;have G2:=zH g2;have G3:=zH g3;unfold headV;clear G hB hp g0 g1 g2 g3;generalize numAt p 0 4=x0 at *;generalize numAt p 4 4=x1 at *;generalize numAt p 8 2=x2 at *;generalize numAt p 10 2=x3 at *;go_enter Tryz.func253,Tryz.ntmps253;go_wp2_with fail
 refine G0.out.mono ?_;rintro e w' ⟨rfl,rfl⟩;go_wp2_with fail
 refine G1.out.mono ?_;rintro e w' ⟨rfl,rfl⟩;go_wp2_with fail
 refine G2.out.mono ?_;rintro e w' ⟨rfl,rfl⟩;go_wp2_with fail
 refine G3.out.mono ?_;rintro e w' ⟨rfl,rfl⟩;go_wp2_with fail
 exact bodyPost_ret (v:=.agg #[.int .u32 (x0:Int), .int .u32 (x1:Int), .int .u16 (x2:Int), .int .u16 (x3:Int)]) (by simp [results,Tryz.results253,go_sem]) rfl ⟨rfl,zA w _⟩
theorem zhD (A:Option Addr) (n c:Nat) (l:List UInt8) (w:World) (hB:Bs w A l) (hn:n=l.length) (hlen:n≤1000000) :
 Calls Tryz.prog 254 #[.slice A n c] w fun e w'=>e = .returned (.bool (decide (l=zar n)))∧w=w':=by
 subst hn;have HB:=zH hB;clear hB;generalize hr:decide (l=zar l.length)=r;have HR:=zH hr;clear hr;go_enter Tryz.func254,Tryz.ntmps254;go_wp2
 go_loop [7] (fun i=>∃ k:Nat,k≤l.length∧i = .int .i64 k∧l.take k=zar k) (fun i=>l.length-(intOf i).toNat)
 case atStart=>exact ⟨0,Nat.zero_le _,rfl,rfl⟩
 case round=>
  obtain ⟨k,hk,rfl,ht⟩:=hrel;by_cases hlt:k<l.length
  ·obtain ⟨ad,rfl,hc⟩:=HB.out.at_ hlt;have hg:=List.take_succ_eq_append_getElem hlt;by_cases hz:l.getD k 0=0
   ·have hz':((((l.getD k 0).toNat:Nat):Int) == 0)=true:=by rw [hz];rfl
    have hnext:l.take (k+1)=zar (k+1):=by
     rw [hg,ht,←zfm l hlt,hz];simp [zar,List.replicate_succ']
    have HN:=zH hnext;clear hnext hz ht hg;generalize (l.getD k 0).toNat=y at *;go_wp2
    go_round
    case rel=>exact ⟨k+1,by omega,by go_num,HN.out⟩
    case measure=>simp [intOf];omega
   ·have hz':((((l.getD k 0).toNat:Nat):Int) == 0)=false:=by
     have:¬ (l.getD k 0).toNat=0:=(fun e=>hz (UInt8.toNat_inj.1 (by simpa using e)));simp only [beq_eq_false_iff_ne,ne_eq];omega
    have hno:decide (l=zar l.length)=false:=decide_eq_false (fun e=>hz (by
     rw [zfm l hlt];have:l[k]? = some 0:=by rw [e];simp [zar,hlt]
     rw [zG9 hlt] at this;exact Option.some.inj this))
    have HNO:=zH hno;clear hno hz ht hg;generalize (l.getD k 0).toNat=y at *;go_wp2
    go_ret;exact ⟨by rw [←HR.out,HNO.out];rfl,rfl⟩
  ·obtain rfl:k=l.length:=(by omega);rw [List.take_length] at ht;have HT:=zH (decide_eq_true ht);clear ht;go_wp2
   go_ret;exact ⟨by rw [←HR.out,HT.out];rfl,rfl⟩
theorem zkK (K:CrcOk) (A:Option Addr) (c:Nat) (p:List UInt8) (w:World) (hS:Sizes w) (hB:Bs w A p) (hp:p.length=256) (hc:256≤c) :
 Calls Tryz.prog 255 #[.slice A 256 c] w fun e w'=>e = .returned (.bool (decide (numAt p 252 4=extC 0 (p.take 252))))∧Keeps w w':=by
 have G:=zH (fun W (k:Keeps w W)=>zj4 A 256 c p 252 4 W (hS.keep k) (hB.keep k) hp.symm hc (by decide) (by decide) (by decide));have C:=zH (fun W (k:Keeps w W)=>K.sum A 252 c (p.take 252) W ((hB.keep k).take 252) (by rw [List.length_take,hp];rfl) (by omega) (by decide));have hs:=zcA (s:=0) (by decide) (p.take 252);clear hB hp;generalize extC 0 (p.take 252)=s at *;generalize numAt p 252 4=x at *;have hb:((x:Int) == (s:Int))=decide (x=s):=by
  by_cases e:x=s
  ·simp [e]
  ·have:¬ (x:Int)=(s:Int):=(by omega);simp [e,this]
 rw [←hb];have hc':(252:Int)≤(c:Int):=by omega
 have hw:IntKind.u64.wrap (s:Int)=(s:Int):=by
  simp [IntKind.wrap,IntKind.signed,IntKind.bits];omega
 clear hb;go_enter Tryz.func255,Tryz.ntmps255;go_wp2_with fail
 go_region_held3 (fun _=>True) (trivial) (first
  | (go_at_call 258;refine (G.out _ (zD _)).mono ?_;rintro e w1 ⟨rfl,rfl⟩;have k1:=zD w;clear G)
  | (go_at_call 239;refine (C.out _ k1).mono ?_;rintro e w2 ⟨rfl,k2⟩;replace k2:=zK k1 k2;clear C))
 go_wp2;go_ret;exact ⟨rfl,k2⟩
theorem put4 (A:Option Addr) (n c:Nat) (l:List UInt8) (x:Nat) (w:World) (hS:Sizes w) (hB:Bs w A l) (hnl:n=l.length) (hx:x<18446744073709551616) (hn:n≤140737488354000) :
 Calls Tryz.prog 238 #[.slice A n c, .int .u64 x, .int .i64 4] w (Made w (l++nb 4 x)):=ziX A n c l x 4 w hS hB hnl hx hn
theorem put2 (A:Option Addr) (n c:Nat) (l:List UInt8) (x:Nat) (w:World) (hS:Sizes w) (hB:Bs w A l) (hnl:n=l.length) (hx:x<18446744073709551616) (hn:n≤140737488354000) :
 Calls Tryz.prog 238 #[.slice A n c, .int .u64 x, .int .i64 2] w (Made w (l++nb 2 x)):=ziX A n c l x 2 w hS hB hnl hx hn
theorem zrT {s:Nat} (h:s≤240):nb 2 s++nb 2 0=nb 4 s:=by
 have e:s/256/256=0:=by omega
 simp [nb,e]
theorem zkL (t n s:Nat) (ht:t<4294967296) (hn:n<4294967296) (hs:s≤240) (w:World) (hS:Sizes w) :
 Calls Tryz.prog 237 #[.agg #[.int .u32 t, .int .u32 n, .int .u16 s, .int .u16 0]] w (Made w (headB t n s)):=by
 have k0:=zA w (.cells #[.int .u32 t, .int .u32 n, .int .u16 s, .int .u16 0] 301);have bx:=Box.new w 301 #[.int .u32 t, .int .u32 n, .int .u16 s, .int .u16 0];have P1:=zH (put4 none 0 0 [] t _ (hS.keep k0) (Bs.nil _ _) rfl (by omega) (by decide));go_enter Tryz.func237,Tryz.ntmps237;go_wp2_with fail
 refine P1.out.mono ?_;generalize (w.alloc (.cells #[.int .u32 t, .int .u32 n, .int .u16 s, .int .u16 0] 301))=w0 at *;rintro e w1 ⟨v1,rfl,o1,k1⟩;obtain ⟨A1,c1,rfl,-,-,-,-⟩:=o1.form;rw [List.nil_append,zad] at o1;have q1:=zK k0 k1;have z1:=(bx.keep k1).cell 1 rfl;have P2:=zH (put4 A1 4 c1 (nb 4 t) n w1 (hS.keep q1) (Own.at_ o1) (zad _ _).symm (by omega) (by omega));clear o1 P1;go_wp2_with fail
 refine P2.out.mono ?_;rintro e w2 ⟨v2,rfl,o2,k2⟩;obtain ⟨A2,c2,rfl,-,-,-,-⟩:=o2.form;rw [List.length_append,zad,zad] at o2;have q2:=zK q1 k2;clear z1;have z2:=(bx.keep (zK k1 k2)).cell 2 rfl;have P3:=zH (put2 A2 8 c2 (nb 4 t++nb 4 n) s w2 (hS.keep q2) (Own.at_ o2) (by simp [zad]) (by omega) (by omega));clear o2 P2;go_wp2_with fail
 refine P3.out.mono ?_;rintro e w3 ⟨v3,rfl,o3,k3⟩;obtain ⟨A3,c3,rfl,-,-,-,-⟩:=o3.form;rw [show (nb 4 t++nb 4 n++nb 2 s).length=10 by simp [zad]] at o3;have q3:=zK q2 k3;clear z2;have z3:=(bx.keep (zK k1 (zK k2 k3))).cell 3 rfl;have P4:=zH (put2 A3 10 c3 (nb 4 t++nb 4 n++nb 2 s) 0 w3 (hS.keep q3) (Own.at_ o3) (by simp [zad]) (by omega) (by omega));have e4:nb 4 t++nb 4 n++nb 2 s++nb 2 0=headB t n s:=by rw [List.append_assoc,zrT hs];rfl
 rw [e4] at P4;clear o3 P3 e4;go_wp2_with fail
 refine P4.out.mono ?_;rintro e w4 ⟨v4,rfl,o4,k4⟩;go_wp2;go_ret;exact ⟨_,rfl,o4.base_le q3.size,zK q3 k4⟩
theorem zrU (K:CrcOk) (l:List UInt8) (w:World) (hl:l.length≤100000):Calls Tryz.prog 222 #[.string (str l)] w fun e w'=>e = .returned (.int .u32 (extC 0 l))∧Keeps w w':=by
 have cv:=zfW w (str l);have o:=zcB w 5 l (by unfold maxLen;omega);have k:=zb7 w 5 (str l);rw [←zaJ l] at o;have R:=zH (K.sum _ _ (grownCap w (str l).size 0 5) l _ (Own.at_ o) (zaJ l) (grownCap_ge _ _ _ _) (by rw [zaJ];omega));generalize Lib.bytesWorld w 5 (str l)=w1 at *;generalize grownCap w (str l).size 0 5=cap at *;generalize str l=x at *;clear o;go_enter Tryz.func222,Tryz.ntmps222;go_wp2_with (first
  | (go_at_call 239;refine R.out.mono ?_;rintro e w' ⟨rfl,k2⟩))
 go_ret;exact ⟨rfl,zK k k2⟩
theorem zqw (t n:Nat) (A:Option Addr) (m c:Nat) (w:World) (hm:240<m) (hm2:m≤maxLen) :
 Calls Tryz.prog 221 #[.int .u32 t, .int .u32 n, .slice A m c] w (zd7 w 9):=by
 unfold maxLen at hm2;go_enter Tryz.func221,Tryz.ntmps221;go_wp2
 go_ret2
 exact ⟨rfl,zab _⟩
theorem zkM (t n s:Nat):zbf (cel (zar 252)) 0 ((cel (headB t n s)).take (min 12 252))=cel (headB t n s++zar 240):=by
 have e:min 12 252=12:=rfl;rw [e,List.take_of_length_le (by rw [zaq,zaP];omega)];unfold zbf;rw [List.take_zero,List.nil_append,zaq,zaP,zax];congr 1
theorem zkN (t n:Nat) (b:List UInt8) (h:b.length≤240):zbf (cel (headB t n b.length++zar 240)) 12 ((cel b).take (min b.length 240))=cel (bodyB t n b):=by
 rw [Nat.min_eq_left h,List.take_of_length_le (by rw [zaq];omega)];unfold zbf bodyB;rw [zax,zax,zax,zaq];have hl:(cel (headB t n b.length)).length=12:=by rw [zaq,zaP]
 rw [List.take_left' hl,←List.append_assoc];congr 1
 rw [List.drop_append,hl];have e1:(cel (headB t n b.length)).drop (12+b.length)=[]:=List.drop_of_length_le (by omega);rw [e1,List.nil_append];unfold zar;rw [show 12+b.length-12=b.length by omega,←zfT,List.drop_replicate]
theorem zqx (K:CrcOk) (t n:Nat) (ht:t<4294967296) (hn:n<4294967296) (A:Option Addr) (m c:Nat) (b:List UInt8) (w:World) (hS:Sizes w) (hB:Bs w A b) (hm:m=b.length) (hc:m≤c) (hb:b.length≤240) :
 Calls Tryz.prog 221 #[.int .u32 t, .int .u32 n, .slice A m c] w (Gave w (pageB t n b)):=by
 obtain ⟨i0,hi,hz0,hz1,hz2⟩:=info_parts zbB;subst hm;have HB:=zH hB;have hmz:((b.length:Nat):Int)≤240:=by omega
 have hbody:=zbn (b:=b) t n hb;have hpl:=zaF (b:=b) t n hb;have hsum:=zcA (s:=0) (by decide) (bodyB t n b);have SB:=zH (zkN t n b hb);clear hB;go_enter Tryz.func221,Tryz.ntmps221;go_wp2_with (first
  | (at_make;refine wpList_make_full _ rfl _ _ 39 rfl w.heap.size 5 i0 (.int .u8 0) 1 Tryz.underlying39 hi hz0 hz1 .i64 .i64 252 252 252 rfl rfl rfl rfl (by rw [hz2];omega) (by unfold maxLen;omega) (Nat.le_refl _) ?_;intro w1 hown1 hg1;have k1:Keeps w w1:=zcS hg1 _ (Nat.le_refl _) (by simp);rw [zjq] at hown1;have o1:=Own.of_row hown1;clear hown1 hg1))
 refine (zkL t n b.length ht hn hb w1 (hS.keep k1)).mono ?_;rintro e w2 ⟨v2,rfl,o2,k2⟩;rw [zaP] at o2;obtain ⟨A2,c2,rfl,hc2,-,-,-⟩:=o2.form;have o1':=zH (o1.keep k2);have B2:=zH (Own.at_ o2);have q2:=zK k1 k2;clear o1 o2;go_wp2_with (first
  | (refine zdv _ rfl _ _ 39 rfl w.heap.size 5 i0 Tryz.underlying39 hi hz1 (some ⟨w.heap.size,0,none⟩) 252 252 (cel (zar 252)) o1'.out 0 252 252 rfl (by omega) A2 12 c2 (cel (headB t n b.length)) rfl (by rw [zaq,zaP]) B2.out (za3 _) ?_;intro w3 o3 g3;rw [zkM] at o3;have k3:Keeps w w3:=Below.grown q2 g3 q2.size (fun g hg=>(o1'.out.lt g hg).1);have O3:=zH o3;clear o3 g3)
  | (refine zdv _ rfl _ _ 39 rfl w.heap.size 5 i0 Tryz.underlying39 hi hz1 (some ⟨w.heap.size,0,none⟩) 252 252 (cel (headB t n b.length++zar 240)) O3.out 12 240 240 rfl (by omega) A b.length c (cel b) rfl (by rw [zaq]) (HB.out.keep k3) (za3 _) ?_;intro w4 o4 g4;rw [SB.out] at o4;have k4:Keeps w w4:=Below.grown k3 g4 k3.size (fun g hg=>(O3.out.lt g hg).1);have O4:=zH o4;clear o4 g4))
 refine (K.sum (some ⟨w.heap.size,0,none⟩) 252 252 (bodyB t n b) w4 (Own.at_ O4.out) hbody.symm (by omega) (by omega)).mono ?_;rintro e w5 ⟨rfl,k5⟩;have q5:=zK k4 k5;have PS:=zH (put4 (some ⟨w.heap.size,0,none⟩) 252 252 (bodyB t n b) (extC 0 (bodyB t n b)) w5 (hS.keep q5) (Own.at_ (O4.out.keep k5)) hbody.symm (by omega) (by decide));have hpg:bodyB t n b++nb 4 (extC 0 (bodyB t n b))=pageB t n b:=rfl;rw [hpg] at PS;clear hpg SB;generalize extC 0 (bodyB t n b)=x at *;go_wp2_with fail
 refine PS.out.mono ?_;rintro e w6 ⟨v6,rfl,o6,k6⟩;go_wp2;go_ret2
 exact ⟨v6,rfl,o6.base_le q5.size,zK q5 k6⟩
theorem zg8 (p:List UInt8) (a s:Nat) (h:a+s≤p.length):(p.drop a).take s=nb s (numAt p a s):=by
 have hl:((p.drop a).take s).length=s:=by rw [List.length_take,List.length_drop];omega
 have e:=nb_le ((p.drop a).take s);rw [hl] at e;exact e.symm
theorem zkO (p:List UInt8) (a:Nat) (h:a+4≤p.length):numAt p a 4=numAt p a 2+65536*numAt p (a+2) 2:=by
 unfold numAt;have e:(p.drop a).take 4=(p.drop a).take 2++(p.drop (a+2)).take 2:=by
  rw [←List.drop_drop,show (4:Nat)=2+2 from rfl,List.take_add]
 rw [e,zhH];have hl:((p.drop a).take 2).length=2:=by rw [List.length_take,List.length_drop];omega
 rw [hl]
theorem zrV (p:List UInt8) (a:Nat):numAt p a 2<65536:=by
 have h:=le_lt ((p.drop a).take 2);refine Nat.lt_of_lt_of_le h ?_;have:((p.drop a).take 2).length≤2:=by rw [List.length_take];omega
 exact Nat.pow_le_pow_right (n:=256) (by decide) this
structure Fit (p:List UInt8) (t n:Nat):Prop where
 size:numAt p 8 2≤240
 tag:numAt p 0 4=t
 number:numAt p 4 4=n
 zero:numAt p 10 2=0
 rest:(p.take 252).drop (12+numAt p 8 2)=zar (240-numAt p 8 2)
 sum:numAt p 252 4=extC 0 (p.take 252)
theorem zgc {p:List UInt8} (hl:p.length=256) (h:numAt p 8 4≤240∨(numAt p 8 2≤240∧numAt p 10 2=0)):numAt p 8 4=numAt p 8 2∧numAt p 10 2=0:=by
 have h1:=zkO p 8 (by omega);have h2:=zrV p 8;simp only [Nat.reduceAdd] at h1;rcases h with h|⟨h,h'⟩<;>omega
theorem zsE {p:List UInt8} {t n:Nat} (ht:t<4294967296) (hn:n<4294967296) (h:zaS p t n):Fit p t n:=by
 obtain ⟨hl,hs,he⟩:=h;have hq:(saidB p).length≤240:=by rw [zdn hl hs];exact hs
 obtain ⟨h84,h10⟩:=zgc hl (.inl hs);have hsl:=zdn hl hs;have htk:p.take 252=bodyB t n (saidB p):=by
  rw [he];generalize saidB p=b at *;unfold pageB;have e:saidB (bodyB t n b++nb 4 (extC 0 (bodyB t n b)))=b:=zdP t n b hq;rw [List.take_left' (zbn t n hq),e]
 refine ⟨by omega,?_,?_,h10,?_,?_⟩
 ·rw [he,zmV,mod4 ht]
 ·rw [he,zi5,mod4 hn]
 ·rw [htk,←h84,←hsl];unfold bodyB;rw [←List.drop_drop,List.drop_left' (zaP _ _ _),List.drop_left]
 ·rw [htk];have e2:numAt p 252 4=numAt (pageB t n (saidB p)) 252 4:=congrArg (fun q=>numAt q 252 4) he;rw [e2];generalize saidB p=b at *;unfold pageB;rw [zdm _ _ _ _ (zbn t n hq).symm,List.take_of_length_le (by rw [zad];omega),le_nb,mod4 (zcA (by decide) _)]
theorem zrW {p:List UInt8} {t n:Nat} (hl:p.length=256) (h:Fit p t n):zaS p t n:=by
 obtain ⟨h84,h10⟩:=zgc hl (.inr ⟨h.size,h.zero⟩);have hs:numAt p 8 4≤240:=by have:=h.size;omega
 have hsl:=zdn hl hs;refine ⟨hl,hs,?_⟩;have e1:p.take 252=bodyB t n (saidB p):=by
  have a1:p.take 252=p.take 12++(p.take 252).drop 12:=by
   have:=List.take_append_drop 12 (p.take 252);rw [List.take_take] at this;exact this.symm
  have a2:p.take 12=headB t n (saidB p).length:=by
   unfold headB;rw [hsl,←h.tag,←h.number,←zg8 p 0 4 (by omega),←zg8 p 4 4 (by omega),←zg8 p 8 4 (by omega),List.drop_zero];rw [show (12:Nat)=(4+4)+4 from rfl,List.take_add,List.take_add]
  have a3:(p.take 252).drop 12=saidB p++zar (240-(saidB p).length):=by
   have h3:=List.take_append_drop (saidB p).length ((p.take 252).drop 12);rw [List.drop_drop] at h3;have h4:=h.rest;rw [←h84,←hsl] at h4;rw [h4] at h3;rw [←h3];congr 1
   unfold saidB at hsl ⊢;rw [hsl,List.drop_take,List.take_take,Nat.min_eq_left (by omega)]
  rw [a1,a2,a3];rfl
 have e2:p.drop 252=nb 4 (extC 0 (p.take 252)):=by
  rw [←h.sum,←zg8 p 252 4 (by omega),List.take_of_length_le (by rw [List.length_drop];omega)]
 have e3:=List.take_append_drop 252 p;unfold pageB;rw [←e1];rw [e2] at e3;exact e3.symm
theorem zmB (t n:Nat) (A:Option Addr) (m c:Nat) (w:World) (h:¬ m=256) (hmax:m≤maxLen) :
 Calls Tryz.prog 244 #[.slice A m c, .int .u32 t, .int .u32 n] w (zd7 w 7):=by
 have hne:((m:Int) == 256)=false:=by simp;omega
 unfold maxLen at hmax;have k0:=zA w (.cells #[.int .u32 0, .int .u32 0, .int .u16 0, .int .u16 0] 301);go_enter Tryz.func244,Tryz.ntmps244;go_wp2
 refine wp_scope_jumps 0 (fun a' w'=>(∃ u0 u1 u2 u3 u4 u5 u6 u7 u8 u9 u10 u11 u12 u13 u14 u15 u16 u17 u18 u19 u20 u21 u22 u23 u24 u25 u26 u27 u28 u29 u30 u31 u32 u33 u34 u35 u36 u37 u38 u39 u40 u41 u42 u43 u44:Value,a'={tmps:=#[u0,u1,u2,u3,u4,u5,u6,u7,u8,u9,u10,u11,u12,u13,u14,u15,u16,u17,u18,u19,u20,u21,u22,u23,u24,u25,u26,u27,u28,u29,u30,u31,u32,u33,u34,u35,u36,u37,u38,u39,u40,u41,u42,u43,u44],defers:=[]})∧Keeps w w') (fun _ _=>0) rfl ?_ ?_
 ·go_wp2
  go_step3
  exact ⟨rfl,⟨_,_,_,_,_,_,_,_,_,_,_,_,_,_,_,_,_,_,_,_,_,_,_,_,_,_,_,_,_,_,_,_,_,_,_,_,_,_,_,_,_,_,_,_,_,rfl⟩,k0⟩
 ·rintro a' w' ⟨⟨u0,u1,u2,u3,u4,u5,u6,u7,u8,u9,u10,u11,u12,u13,u14,u15,u16,u17,u18,u19,u20,u21,u22,u23,u24,u25,u26,u27,u28,u29,u30,u31,u32,u33,u34,u35,u36,u37,u38,u39,u40,u41,u42,u43,u44,rfl⟩,hk⟩;go_wp2
  simp only [Exit.jump]
  go_ret2
  exact ⟨rfl,hk⟩
theorem zbv {w w1:World} (k:Keeps w w1) (b i:Nat) (u:Value) (hb:w.heap.size≤b):Keeps w (w1.setCell ⟨b,i,none⟩ u):=
 Below.trans k ⟨rfl,rfl,rfl,by simp [World.setCell],fun j hj=>Below.heap_setCell _ _ _ _ (by simp only;omega)⟩
theorem zj5 (K:CrcOk) (t n:Nat) (ht:t<4294967296) (hn:n<4294967296) (A:Option Addr) (c:Nat) (p:List UInt8) (w:World) (hS:Sizes w) (hB:Bs w A p) (hp:p.length=256) (hc:256≤c) :
 Calls Tryz.prog 244 #[.slice A 256 c, .int .u32 t, .int .u32 n] w (fun e w'=>(zaS p t n∧Gave w (saidB p) e w')∨(¬ zaS p t n∧zd7 w 7 e w')):=by
 obtain ⟨ad,rfl⟩:=hB.some_ (by omega);have k0:=zA w (.cells #[.int .u32 0, .int .u32 0, .int .u16 0, .int .u16 0] 301);have bx:=Box.new w 301 #[.int .u32 0, .int .u32 0, .int .u16 0, .int .u16 0];have HO:=zH (zmA (some ad) c p _ (hS.keep k0) (hB.keep k0) hp hc);unfold headV at HO;have h0:numAt p 0 4<4294967296:=zbu p 0 4;have h1:numAt p 4 4<4294967296:=zbu p 4 4;have h2:numAt p 8 2<65536:=zbu p 8 2;have h3:numAt p 10 2<65536:=zbu p 10 2;have FO:=zH (show zaS p t n→numAt p 8 2≤240∧numAt p 0 4=t∧numAt p 4 4=n∧numAt p 10 2=0∧(p.take 252).drop (12+numAt p 8 2)=zar (240-numAt p 8 2)∧numAt p 252 4=extC 0 (p.take 252) from fun h=>by
  have f:=zsE ht hn h;exact ⟨f.size,f.tag,f.number,f.zero,f.rest,f.sum⟩)
 have SD:=zH (show numAt p 8 2≤240→numAt p 10 2=0→saidB p=(p.drop 12).take (numAt p 8 2) from fun h h'=>by
  unfold saidB;rw [(zgc hp (.inr ⟨h,h'⟩)).1])
 have PO:=zH (fun (g1:numAt p 8 2≤240) (g2:numAt p 0 4=t) (g3:numAt p 4 4=n) (g4:numAt p 10 2=0) (g5:(p.take 252).drop (12+numAt p 8 2)=zar (240-numAt p 8 2)) (g6:numAt p 252 4=extC 0 (p.take 252))=>zrW hp ⟨g1,g2,g3,g4,g5,g6⟩);generalize numAt p 0 4=x0 at *;generalize numAt p 4 4=x1 at *;generalize numAt p 8 2=x2 at *;generalize numAt p 10 2=x3 at *;go_enter Tryz.func244,Tryz.ntmps244;go_wp2
 refine wp_scope_jumps 0 (fun a' w'=>(∃ u0 u1 u2 u3 u4 u5 u6 u7 u8 u9 u10 u11 u12 u13 u14 u15 u16 u17 u18 u19 u20 u21 u22 u23 u24 u25 u26 u27 u28 u29 u30 u31 u32 u33 u34 u35 u36 u37 u38 u39 u40 u41 u42 u43 u44:Value,a'={tmps:=#[u0,u1,u2,u3,u4,u5,u6,u7,u8,u9,u10,u11,u12,u13,u14,u15,u16,u17,u18,u19,u20,u21,u22,u23,u24,u25,u26,u27,u28,u29,u30,u31,u32,u33,u34,u35,u36,u37,u38,u39,u40,u41,u42,u43,u44],defers:=[]})∧Keeps w w'∧¬ zaS p t n) (fun _ _=>0) rfl ?_ ?_
 ·go_wp2_with fail
  refine HO.out.mono ?_;rintro e w1 ⟨rfl,k1⟩;have bx1:=bx.keep k1;have c0:=bx1.cell 0 rfl;have c1:=bx1.cell 1 rfl;have c2:=bx1.cell 2 rfl;have c3:=bx1.cell 3 rfl;have f0:=bx1.frozen 0;have f1:=bx1.frozen 1;have f2:=bx1.frozen 2;have f3:=bx1.frozen 3;go_wp2_with fail
  ·have k5:Keeps w ((((w1.setCell ⟨w.heap.size,0,none⟩ (.int .u32 (t:Int))).setCell ⟨w.heap.size,1,none⟩ (.int .u32 (n:Int))).setCell ⟨w.heap.size,2,none⟩ (.int .u16 (x2:Int))).setCell ⟨w.heap.size,3,none⟩ (.int .u16 0)):=zbv (zbv (zbv (zbv (zK k0 k1) _ _ _ (Nat.le_refl _)) _ _ _ (Nat.le_refl _)) _ _ _ (Nat.le_refl _)) _ _ _ (Nat.le_refl _);generalize (((w1.setCell ⟨w.heap.size,0,none⟩ (.int .u32 (t:Int))).setCell ⟨w.heap.size,1,none⟩ (.int .u32 (n:Int))).setCell ⟨w.heap.size,2,none⟩ (.int .u16 (x2:Int))).setCell ⟨w.heap.size,3,none⟩ (.int .u16 0)=w5 at *;have hx2:x2≤240:=(by omega);have e0:x0=t:=by omega
   have e1:x1=n:=(by omega);have hl:((p.take 252).drop (12+x2)).length=252-(12+x2):=by rw [List.length_drop,List.length_take,hp];rfl
   refine (zhD (some (ad.add (12+x2))) (252-(12+x2)) (c-(12+x2)) ((p.take 252).drop (12+x2)) w5 (((hB.keep k5).take 252).drop (12+x2)) hl.symm (by omega)).mono ?_;rintro e w' ⟨rfl,rfl⟩;have hsub:252-(12+x2)=240-x2:=(by omega);have SF:=zH (zkK K (some ad) c p w5 (hS.keep k5) (hB.keep k5) hp hc);by_cases hz:(p.take 252).drop (12+x2)=zar (252-(12+x2))
   ·rw [decide_eq_true hz];by_cases hsm:numAt p 252 4=extC 0 (p.take 252)
    ·rw [decide_eq_true hsm] at SF;have hyes:zaS p t n:=PO.out hx2 e0 e1 (by assumption) (by rw [←hsub];exact hz) hsm;have CL:=zH (fun W (k:Keeps w W)=>zbN (some ⟨ad.block,ad.off+12,none⟩) x2 (c-12) ((p.drop 12).take x2) W (((hB.keep k).drop 12).take x2) (by rw [List.length_take,List.length_drop,hp];omega) (fun h=>by cases h) (by omega));rw [←SD.out hx2 (by assumption)] at CL;have HY:=zH hyes;clear hz hsm hyes PO FO;have hc12:12+(x2:Int)≤(c:Int):=by omega
     go_wp2_with fail
     refine SF.out.mono ?_;rintro e w6 ⟨rfl,k6⟩;have q6:=zK k5 k6;go_wp2_with fail
     refine (CL.out _ q6).mono ?_;rintro e w7 ⟨v7,rfl,o7,k7⟩;go_wp2_with fail
     simp only [Exit.jump]
     go_ret2
     exact .inl ⟨HY.out,v7,rfl,o7.base_le q6.size,zK q6 k7⟩
    ·rw [decide_eq_false hsm] at SF;have hno:¬ zaS p t n:=(fun h=>hsm (FO.out h).2.2.2.2.2);have HNO:=zH hno;clear hz hsm hno PO FO;go_wp2_with fail
     refine SF.out.mono ?_;rintro e w6 ⟨rfl,k6⟩;have q6:=zK k5 k6;go_wp2_with fail
     go_step3
     exact ⟨rfl,⟨_,_,_,_,_,_,_,_,_,_,_,_,_,_,_,_,_,_,_,_,_,_,_,_,_,_,_,_,_,_,_,_,_,_,_,_,_,_,_,_,_,_,_,_,_,rfl⟩,q6,HNO.out⟩
   ·rw [decide_eq_false hz];have hno:¬ zaS p t n:=(fun h=>hz (by rw [hsub];exact (FO.out h).2.2.2.2.1));have HNO:=zH hno;clear hz hno PO FO SF;go_wp2_with fail
    go_step3
    exact ⟨rfl,⟨_,_,_,_,_,_,_,_,_,_,_,_,_,_,_,_,_,_,_,_,_,_,_,_,_,_,_,_,_,_,_,_,_,_,_,_,_,_,_,_,_,_,_,_,_,rfl⟩,k5,HNO.out⟩
  all_goals
   go_step3
   refine ⟨rfl,⟨_,_,_,_,_,_,_,_,_,_,_,_,_,_,_,_,_,_,_,_,_,_,_,_,_,_,_,_,_,_,_,_,_,_,_,_,_,_,_,_,_,_,_,_,_,rfl⟩,zbv (zbv (zbv (zbv (zK k0 k1) _ _ _ (Nat.le_refl _)) _ _ _ (Nat.le_refl _)) _ _ _ (Nat.le_refl _)) _ _ _ (Nat.le_refl _),fun h=>?_⟩;obtain ⟨g1,g2,g3,g4,-,-⟩:=FO.out h;omega
 ·rintro a' w' ⟨⟨u0,u1,u2,u3,u4,u5,u6,u7,u8,u9,u10,u11,u12,u13,u14,u15,u16,u17,u18,u19,u20,u21,u22,u23,u24,u25,u26,u27,u28,u29,u30,u31,u32,u33,u34,u35,u36,u37,u38,u39,u40,u41,u42,u43,u44,rfl⟩,hk,hno⟩;go_wp2
  simp only [Exit.jump]
  go_ret2
  exact .inr ⟨hno,rfl,hk⟩
theorem zoy (K:CrcOk):PageOk where
 make:=fun t n ht hn A m c b w hS hB hm hc _ hb=>zqx K t n ht hn A m c b w hS hB hm hc hb
 many:=zqw
 takes:=fun t n ht hn A m c p w hS hB hm hc hcm hy=>by
  obtain rfl:m=256:=by rw [hm,hy.1]
  exact (zj5 K t n ht hn A c p w hS hB hm.symm hc).mono fun e w' h=>by
   rcases h with h|h
   ·exact h.2
   ·exact absurd hy h.1
 rot:=fun t n ht hn A m c p w hS hB hm hc hcm hno=>by
  by_cases h256:m=256
  ·subst h256;exact (zj5 K t n ht hn A c p w hS hB hm.symm hc).mono fun e w' h=>by
    rcases h with h|h
    ·exact absurd h.1 hno
    ·exact h.2
  ·exact zmB t n A m c w h256 (Nat.le_trans hc hcm)
 tag:=zrU K
theorem zsF:PageOk:=zoy crcOk
end Go.Proofs.YtjpldnjldindkaaGreatDoor
