/- An argument of type milepostlaw13.Net opened. -/
import Derived.Test.YtjpldnjldindkaaGreatDoorQStNm
import Derived.Test.YtjpldnjldindkaaGreatDoorQExtRf
set_option linter.all false
set_option maxHeartbeats 0
set_option maxRecDepth 100000
namespace Go.Proofs.YtjpldnjldindkaaGreatDoor
open Go.RowKit
open Go.ChangeShapes Go.WideShapes Go.ChangeAt Go.Deep
structure NetS where
 A:Option Addr
 m:Nat
 c:Nat
 Av:Option Addr
 nv:Nat
 cv:Nat
 g:Int
 f:Nat
 l:List Ed
 vs:List Vt
structure NetOk (W:World) (e:NetS):Prop where
 m:e.m=e.l.length
 c:e.m≤e.c
 mx:e.c≤maxLen
 l:At W W.heap.size e.A (edsC e.l)
 ok:∀ x∈e.l,EdOk x
 nv:e.nv=e.vs.length
 cv:e.nv≤e.cv
 mv:e.cv≤maxLen
 vs:At W W.heap.size e.Av (vtsC e.vs)
 ov:∀ x∈e.vs,VtOk x
 g : -9223372036854775808≤e.g∧e.g≤9223372036854775807
 f:e.f<256
def netA (e:NetS):Array Value:=#[.slice e.A e.m e.c, .slice e.Av e.nv e.cv, .int .i64 e.g, .int .u8 (e.f:Int)]
theorem zqm:flat Tryz.prog 6 25=some [22,23,3,5]:=by kernel_rfl
theorem zoh:Tryz.prog.cellsOf 25=[22,23,3,5].length:=by kernel_rfl
theorem zsw {H:Type} {enc:TypeId×Value→H} {W:World} {rc:Reach} {b0:Nat} {v:Value} {d:DataW H} {p:List MemPlace} (hv:Value.okWide Tryz.prog W rc b0 25 v) (hT:DataW.Trod enc Tryz.prog W 0 (fun _=>true) true 25 v d p) :
 ∃ e:NetS,v = .agg (netA e)∧NetOk W e:=by
 obtain ⟨cs,rfl,hl,hf⟩:=zoK Tryz.underlying25 zqm zoh hv hT
 match cs,hl with
 | [d0,d1,d2,d3],_=>
  obtain ⟨c0,hc0,lf0⟩:=hf 0 22 rfl;obtain ⟨c1,hc1,lf1⟩:=hf 1 23 rfl;obtain ⟨c2,hc2,lf2⟩:=hf 2 3 rfl;obtain ⟨z2,rfl,q2⟩:=lf2.int Tryz.underlying3;have m2:=zgs q2;obtain ⟨c3,hc3,lf3⟩:=hf 3 5 rfl;obtain ⟨z3,rfl,q3⟩:=lf3.int Tryz.underlying5;obtain ⟨x3,rfl,m3⟩:=zsb q3;obtain rfl:=Option.some.inj hc0;obtain rfl:=Option.some.inj hc1;obtain rfl:=Option.some.inj hc2;obtain rfl:=Option.some.inj hc3;obtain ⟨m,y,h⟩:=lf0;have hs:∃ A n c,d0 = .slice A n c:=by
   rcases open_slice Tryz.underlying22 h with ⟨hcs,_⟩|⟨a,len,cap,m',n',D,Pl,hcs,_⟩
   ·simp only [List.cons.injEq,and_true] at hcs;exact ⟨_,_,_,hcs⟩
   ·simp only [List.cons.injEq,and_true] at hcs;exact ⟨_,_,_,hcs⟩
  obtain ⟨A,n,c,rfl⟩:=hs;obtain ⟨l,h1,h2,h3,h4,h5⟩:=zoW (d:=y.1) (p:=y.2) ⟨m,h⟩;obtain ⟨m',y',h'⟩:=lf1;have hs:∃ A n c,d1 = .slice A n c:=by
   rcases open_slice Tryz.underlying23 h' with ⟨hcs,_⟩|⟨a,len,cap,m',n',D,Pl,hcs,_⟩
   ·simp only [List.cons.injEq,and_true] at hcs;exact ⟨_,_,_,hcs⟩
   ·simp only [List.cons.injEq,and_true] at hcs;exact ⟨_,_,_,hcs⟩
  obtain ⟨Av,nv,cv,rfl⟩:=hs;obtain ⟨vs,g1,g2,g3,g4,g5⟩:=zp9 (d:=y'.1) (p:=y'.2) ⟨m',h'⟩;exact ⟨⟨A,n,c,Av,nv,cv,z2,x3,l,vs⟩,rfl,⟨h1,h2,h3,h4,h5,g1,g2,g3,g4,g5,m2,m3⟩⟩
end Go.Proofs.YtjpldnjldindkaaGreatDoor
namespace Go.Proofs.YtjpldnjldindkaaGreatDoor
open Go.RowKit Go.Sort
theorem ziw:(Tryz.prog.info? 55).map (fun i=>(i.zero,i.size,i.bytes))=some (some (.agg #[.int .u32 0, .int .u32 0, .int .u32 0]),3,12):=by kernel_rfl
theorem zdW (w:World) (e:TypeId) (size:Nat):Own (w.alloc (.cells #[] e)) w.heap.size e size (.slice (some ⟨w.heap.size,0,none⟩) 0 0) 0 []:=
 ⟨by simp, .inr ⟨w.heap.size,0,#[],(0,0),rfl,Nat.le_refl _,heap_alloc_new w _, .inl rfl,Nat.le_refl _,by simp [maxLen],by simp,by simp⟩⟩
theorem zfh (l:List Vt):∀ u∈vtsC l,u.oneCell'=true:=by
 intro u hu;obtain ⟨e,_,he⟩:=List.mem_flatMap.1 hu;simp only [vtC,List.mem_cons,List.not_mem_nil,or_false] at he;rcases he with rfl|rfl|rfl<;>rfl
theorem zjY (l:List Vt):(vtsC l).length=l.length*3:=zcy vtC 3 zex l
theorem zg4 {P:Program} {w:World} {ops:Array Oper} {o:Oper} {a:Act} {K:Act→World→Prop} {Q:Exit→Act→World→Prop} {E:Prop} (hg:Region.wanted o (yielded ops a.tmps)=true) (s x:Operand) (t:TypeId)
 (ho:o.op = .call {callee:=.builtin .append,args:=#[s,x],argTypes:=#[t,t]})
 (base:Nat) (e:TypeId) (i:TypeInfo) (z:Value) (size bytes:Nat) (ht:P.underlying t=some (.slice e)) (hi:P.info? e=some i) (hz:i.zero=some z)
 (hsize:i.size=size) (hby:i.bytes=bytes) (hzs:z.cells.size=size) (hsz:0<size)
 (v:Value) (n:Nat) (xs:List Value) (hs:a.eval s=v) (hown:Own w base e size v n xs)
 (B:Nat) (A:Option Addr) (m c:Nat) (news:List Value) (hx:a.eval x = .slice A m c) (hm:news.length=m*size) (hr:At w B A news) (h1:∀ u∈news,u.oneCell'=true)
 (h63:n+m≤maxLen) (hbytes:(n+m)*bytes≤140737488355328) (hbase:base≤w.heap.size)
 (hK:∀ v' w',Own w' base e size v' (n+m) (xs++news)→w.grownBy w' v.ownBlock→(v'.ownBlock=v.ownBlock∨v'.ownBlock=some w.heap.size)→K (a.put o.dst v') w') :
 if Region.wanted o (yielded ops a.tmps)=true then Oper.wp P o a w K Q else E:=by
 rw [if_pos hg];exact ziQ w s x t ho base e i z size bytes ht hi hz hsize hby hzs hsz v n xs hs hown B A m c news hx hm hr h1 h63 hbytes hbase hK
theorem zrH (w:World) (x:NetS):Box (w.alloc (.cells (netA x) 25)) w.heap.size 25 (netA x):=Box.new _ _ _
theorem zmo (x:NetS) (w:World):Calls Tryz.prog 4 #[.agg (netA x)] w fun e w'=>e = .returned (.bool (decide (300<x.m∨100<x.nv)))∧Keeps w w':=by
 have k1:=zH (zA w (.cells #[.slice x.A x.m x.c, .slice x.Av x.nv x.cv, .int .i64 x.g, .int .u8 (x.f:Int)] 25));have B1:=zrH w x;unfold netA at *;have c0:=B1.cell 0 rfl;have c1:=B1.cell 1 rfl;clear B1;by_cases h1:300<x.m
 ·have h1':(300:Int)<(x.m:Int):=(by omega);rw [decide_eq_true (.inl h1)];clear h1;go_enter Tryz.func4,Tryz.ntmps4;go_wp2;go_ret;exact ⟨rfl,k1.out⟩
 ·have h1':decide ((300:Int)<(x.m:Int))=false:=decide_eq_false (by omega);have h1'':decide (300<x.m)=false:=decide_eq_false (by omega);by_cases h2:100<x.nv
  ·have h2':(100:Int)<(x.nv:Int):=(by omega);rw [decide_eq_true (.inr h2)];clear h1 h2;go_enter Tryz.func4,Tryz.ntmps4;go_wp2;go_ret;exact ⟨rfl,k1.out⟩
  ·have h2':decide ((100:Int)<(x.nv:Int))=false:=decide_eq_false (by omega);have h2'':decide (100<x.nv)=false:=decide_eq_false (by omega);rw [decide_eq_false (by omega)];clear h1 h2;go_enter Tryz.func4,Tryz.ntmps4;go_wp2;go_ret;exact ⟨rfl,k1.out⟩
theorem zoi (pb:Nat) (sI:ByteArray) (gi:Int) (hg:¬ (0≤gi∧gi≤1048576)) (Av:Option Addr) (nv cv:Nat) (w:World):Calls Tryz.prog 24 #[.pointer (some ⟨pb,0,none⟩), .string sI, .int .i64 gi, .slice Av nv cv] w fun e w'=>e = .returned (.int .i64 1)∧Keeps w w':=by
 have GE:=zH (fun W=>zdK gi W);rw [decide_eq_false hg] at GE;have k1:=zA w (.cells #[.pointer (some ⟨pb,0,none⟩)] 68);have k2:=zA (w.alloc (.cells #[.pointer (some ⟨pb,0,none⟩)] 68)) (.cells #[.string sI] 9);have k3:=zA ((w.alloc (.cells #[.pointer (some ⟨pb,0,none⟩)] 68)).alloc (.cells #[.string sI] 9)) (.cells #[.slice Av nv cv] 23);have c0:=(((Box.new w 68 #[.pointer (some ⟨pb,0,none⟩)]).keep k2).keep k3).cell 0 rfl;have K3:=zH (zK k1 (zK k2 k3));clear k1 k2 k3 hg;go_enter Tryz.func24,Tryz.ntmps24;go_wp2_with fail
 refine (GE.out _).mono ?_;rintro e w1 ⟨rfl,rfl⟩;go_wp2;go_ret;exact ⟨rfl,K3.out⟩
theorem zhz {K:DiskOk} {w0 w:World} {B:PB} {N Q A C:Nat} {p:Pst} {V:Vw} {ns:List (List UInt8)} {S:Nat→Prop} (h:ExS K w0 B N Q A C p V ns S w):p.d.l.length=ns.length:=by simpa using h.tid.names.length_eq
structure MadeAt (K:DiskOk) (wb:World) (B:PB) (N:Nat) (g:Nat) (a b:List Ed) (vs:List Vt) (gb bv bt bh:Nat) (q:Pst) (V:Vw) (S:Nat→Prop) (w:World):Prop where
 ex:ExS K wb B N 131072 70 50 q V [nmG 118 g,nmG 114 g,nmG 101 g,xN] S w
 gr:GrAt w S B (nmG 101 g) (nmG 114 g) (nmG 118 g) vs.length gb bv bt bh
 gn:GenV V (nmG 101 g) (nmG 114 g) (nmG 118 g) a b vs
 te:Tidy q (nmG 101 g)
 tr:Tidy q (nmG 114 g)
 tv:Tidy q (nmG 118 g)
def MadeV (K:DiskOk) (w:World) (x:NetS) (e:Ending) (w':World):Prop:=
 (¬ (0≤x.g∧x.g≤1048576)∧e = .returned (.tuple #[.pointer none, .pointer none, .bool false])∧Keeps w w')∨
 (∃ (wb:World) (B:PB) (g:Nat) (a b:List Ed) (gb bv bt bh:Nat) (q:Pst) (V:Vw) (S:Nat→Prop),x.g=(g:Int)∧g≤1048576∧e = .returned (.tuple #[.pointer (some ⟨B.db,0,none⟩), .pointer (some ⟨gb,0,none⟩), .bool false])∧Keeps w wb∧RedB false x.l a∧RedB true x.l b∧MadeAt K wb B (8+x.f%40) g a b x.vs gb bv bt bh q V S w')
theorem zmp (K:DiskOk) (PK:PageOk) (w:World) (hZ:K.Z w) (hS:Sizes w) (hT:PowT w) (x:NetS) (hx:NetOk w x) (hm:x.m≤300) (hnv:x.nv≤100) :
 Calls Tryz.prog 6 #[.agg (netA x)] w (MadeV K w x):=by
 obtain ⟨A0,m,c,Av,nv,cv,g,f,l,vs⟩:=x;obtain ⟨h1,h2,h3,h4,h5,h6,h7,h8,h9,h10,h11,h12⟩:=hx;simp only at h1 h2 h3 h4 h5 h6 h7 h8 h9 h10 h11 h12 hm hnv;have kb:=zA w (.cells #[.slice A0 m c, .slice Av nv cv, .int .i64 g, .int .u8 (f:Int)] 25);have B1:=zH (show Box (w.alloc (.cells #[.slice A0 m c, .slice Av nv cv, .int .i64 g, .int .u8 (f:Int)] 25)) w.heap.size 25 #[.slice A0 m c, .slice Av nv cv, .int .i64 g, .int .u8 (f:Int)] from Box.new _ _ _);obtain ⟨fm,hfm⟩:∃ fm,fm=f%40:=⟨_,rfl⟩
 have hf40:fm<40:=by omega
 have ht:((f:Int)).tmod 40=(fm:Int):=by rw [Int.tmod_eq_emod_of_nonneg (by omega)];omega
 have hfi:(fm:Int)<40:=by omega
 have RW:=zH (ziv K PK _ (K.keep hZ kb) (hS.keep kb) (n:=8+fm) ⟨by omega,by omega⟩ (c:=c) ((h4.keep kb).more kb.size) h5 h1 (by omega));rw [show ((8+fm:Nat):Int)=8+(fm:Int) by omega] at RW;have CR:=zH (fun (V:World) (k:Keeps (w.alloc (.cells #[.slice A0 m c, .slice Av nv cv, .int .i64 g, .int .u8 (f:Int)] 25)) V)=>show V.cell? ⟨w.heap.size,1,none⟩=some (.slice Av nv cv)∧V.cell? ⟨w.heap.size,2,none⟩=some (.int .i64 g) from ⟨(B1.out.keep k).cell 1 rfl,(B1.out.keep k).cell 2 rfl⟩);have c0:=B1.out.cell 0 rfl;have c3:=B1.out.cell 3 rfl;have HZ:=zH (K.keep hZ kb);have HS:=zH (hS.keep kb);have HT:=zH (hT.keep kb);have KB:=zH kb;have HVS:=zH (show At (w.alloc (.cells #[.slice A0 m c, .slice Av nv cv, .int .i64 g, .int .u8 (f:Int)] 25)) (w.alloc (.cells #[.slice A0 m c, .slice Av nv cv, .int .i64 g, .int .u8 (f:Int)] 25)).heap.size Av (vtsC vs) from (h9.keep kb).more kb.size);have HM:=zH (show m=l.length∧m≤300∧nv=vs.length∧nv≤100∧fm=f%40∧fm<40 from ⟨h1,hm,h6,hnv,hfm,hf40⟩);have OKE:=zH h5;have OKV:=zH h10;have HG:=zH h11;have hf256:(f:Int)<256:=by omega
 have hf0:(0:Int)≤(f:Int):=by omega
 have LEN:=zH (show (vtsC vs).length=nv*3 by rw [zjY,h6]);obtain ⟨i0,hi,hz0,hz1,hz2⟩:=info_parts ziw;unfold netA;by_cases hg:0≤g∧g≤1048576
 ·obtain ⟨gn,rfl⟩:∃ gn:Nat,g=(gn:Int):=(⟨g.toNat,by omega⟩);have hgn:gn≤1048576:=by omega
  have GI:=zH hgn;have g0:¬ (gn:Int)<0:=(by omega);have g1:¬ (1048576:Int)<(gn:Int):=by omega
  have g0':decide ((gn:Int)<0)=false:=decide_eq_false g0;have g1':decide ((1048576:Int)<(gn:Int))=false:=decide_eq_false g1;have g1'':decide (1048576<gn)=false:=decide_eq_false (by omega);clear kb h1 h2 h3 h4 h5 h6 h7 h8 h9 h10 h11 h12 hm hnv hZ hS hT hg hgn hfm hf40;go_enter Tryz.func6,Tryz.ntmps6;go_wp2_with fail
  refine RW.out.mono ?_;rintro e w1 ⟨B,S,p,V,rfl,x1,s1⟩;clear c0 c3 RW;generalize (w.alloc (.cells #[.slice A0 m c, .slice Av nv cv, .int .i64 (gn:Int), .int .u8 (f:Int)] 25))=wb at *;have X1:=zH (x1.more (A':=70) (C':=50) (by decide) (Nat.le_refl _) (by decide));have S1:=zH s1;have KP1:=zH x1.pj.kp;have KA:=zH (zK (zA w1 (.cells #[] 55)) (zD _));have Oa:=zH (show Own ((w1.alloc (.cells #[] 55)).drew) w1.heap.size 55 3 (.slice (some ⟨w1.heap.size,0,none⟩) 0 0) 0 [] from (zdW w1 55 3).keep (zD _));have AV:=zH (show At ((w1.alloc (.cells #[] 55)).drew) ((w1.alloc (.cells #[] 55)).drew).heap.size Av (vtsC vs) from (HVS.out.keep (zK KP1.out KA.out)).more (zK KP1.out KA.out).size);have MK:=zH (fun (W:World) (A5:Option Addr) (c5:Nat) (o:Own W w1.heap.size 55 3 (.slice A5 nv c5) nv (vtsC vs)) (kW:Keeps w1 W)=>by
   have h:=ziu (cv:=c5) PK (X1.out.keep kW) HZ.out HS.out HT.out (by have:=HM.out;omega) (by omega) (by decide) S1.out OKE.out gn GI.out (by simp [zcL,xN]) (by simp [zcL,xN]) (by simp [zcL,xN]) (fun x hx=>by rw [List.mem_singleton] at hx;subst hx;unfold Tdot;decide) (by decide) (by have:=HM.out;omega) (by have:=HM.out;omega) (Own.at_ o) (fun ad e=>by obtain ⟨A',c',hv,-,-,-,hlt⟩:=o.form;injection hv with e1;exact X1.out.lt (hlt ad (e1▸e)).2.1) (fun ad e=>by obtain ⟨A',c',hv,-,-,-,hlt⟩:=o.form;injection hv with e1;exact (hlt ad (e1▸e)).2.2) HM.out.2.2.1 OKV.out (by have:=HM.out;omega) (by have:=HM.out;omega);rw [zfg] at h;exact h)
  have s1:=CR.out _ KP1.out;clear x1;go_wp2_with fail
  go_region_held3 (fun V=>V.cell? ⟨w.heap.size,1,none⟩=some (.slice Av nv cv)∧V.cell? ⟨w.heap.size,2,none⟩=some (.int .i64 (gn:Int))) (first|assumption|exact CR.out _ (zK KP1.out (by first|assumption|exact zD _|exact KA.out))) (first
   | ((refine zg4 (by simp [go_sem]) (.tmp 27) (.tmp 29) 23 rfl w1.heap.size 55 i0 (.agg #[.int .u32 0, .int .u32 0, .int .u32 0]) 3 12 Tryz.underlying23 hi hz0 hz1 hz2 rfl (by decide) _ 0 [] (by simp [Act.eval,Act.put]) Oa.out _ Av nv cv (vtsC vs) (by simp [Act.eval,Act.put]) LEN.out AV.out (zfh vs) (by have:=HM.out;unfold maxLen;omega) (by have:=HM.out;omega) KA.out.size ?_);intro v5 w5 hown5 hgrow5 hblk5;have k5:Keeps w1 w5:=Below.grown KA.out hgrow5 KA.out.size (fun g hg=>(Oa.out.lt g hg).1);have O5:=zH (show Own w5 w1.heap.size 55 3 v5 nv (vtsC vs) by simpa using hown5);clear hown5 hgrow5 hblk5;obtain ⟨A5,c5,rfl,-⟩:=O5.out.form;have s5:=CR.out _ (zK KP1.out k5))
   | (go_at_call 24;refine (MK.out w5 A5 c5 O5.out k5).mono ?_;rintro ee w6 ⟨q6,V6,S6,rfl,x6,t6,m6⟩;have X6:=zH x6;have M6:=zH m6;have s6:=CR.out _ x6.pj.kp;clear x6 t6 m6))
  clear s6;obtain ⟨-,d2⟩:=CR.out _ X6.out.pj.kp;obtain ⟨a,b,ha,hb,G,te,tr,tv⟩:=GenV.of M6.out OKE.out OKV.out (by have:=HM.out;omega) (by have:=HM.out;omega);have OG:=zH (zit PK X6.out HZ.out HS.out HT.out (by have:=HM.out;omega) (by decide) gn GI.out G);have GG:=zH (And.intro G (And.intro te (And.intro tr (And.intro tv (And.intro ha hb)))));clear G te tr tv ha hb;go_wp2_with fail
  refine OG.out.mono ?_;rintro e w7 ⟨gb,bv,bt,bh,q7,S7,rfl,g7,-,x7,t7,st7⟩;have F:=zH (show MadeV K w ⟨A0,m,c,Av,nv,cv,(gn:Int),f,l,vs⟩ (.returned (.tuple #[.pointer (some ⟨B.db,0,none⟩), .pointer (some ⟨gb,0,none⟩), .bool false])) w7 from
   .inr ⟨wb,B,gn,a,b,gb,bv,bt,bh,q7,V6,S7,rfl,GI.out,rfl,KB.out,GG.out.2.2.2.2.1,GG.out.2.2.2.2.2,⟨by rw [←HM.out.2.2.2.2.1];exact x7,g7,GG.out.1,GG.out.2.1.still st7 (by simp),GG.out.2.2.1.still st7 (by simp),GG.out.2.2.2.1.still st7 (by simp)⟩⟩)
  clear g7 x7 t7 st7;go_wp2;go_returns;exact F.out
 ·have g0:g<0∨(¬ g<0∧1048576<g):=(by omega);have NG:=zH hg;clear kb h1 h2 h3 h4 h5 h6 h7 h8 h9 h10 h11 h12 hm hnv hZ hS hT hg hfm hf40;rcases g0 with g0|⟨g0,g1⟩
  all_goals
   go_enter Tryz.func6,Tryz.ntmps6;go_wp2_with fail
   refine RW.out.mono ?_;rintro e w1 ⟨B,S,p,V,rfl,x1,s1⟩;clear c0 c3 RW;generalize (w.alloc (.cells #[.slice A0 m c, .slice Av nv cv, .int .i64 g, .int .u8 (f:Int)] 25))=wb at *;have X1:=zH x1;have KP1:=zH x1.pj.kp;have KA:=zH (zK (zA w1 (.cells #[] 55)) (zD _));have Oa:=zH (show Own ((w1.alloc (.cells #[] 55)).drew) w1.heap.size 55 3 (.slice (some ⟨w1.heap.size,0,none⟩) 0 0) 0 [] from (zdW w1 55 3).keep (zD _));have AV:=zH (show At ((w1.alloc (.cells #[] 55)).drew) ((w1.alloc (.cells #[] 55)).drew).heap.size Av (vtsC vs) from (HVS.out.keep (zK KP1.out KA.out)).more (zK KP1.out KA.out).size);have MK:=zH (fun (W:World) (A5:Option Addr) (c5:Nat)=>zoi B.pb ⟨#[120]⟩ g NG.out A5 nv c5 W);have s1:=CR.out _ KP1.out;clear x1;go_wp2_with fail
   go_region_held3 (fun V=>V.cell? ⟨w.heap.size,1,none⟩=some (.slice Av nv cv)∧V.cell? ⟨w.heap.size,2,none⟩=some (.int .i64 g)) (first|assumption|exact CR.out _ (zK KP1.out (by first|assumption|exact zD _|exact KA.out))) (first
    | ((refine zg4 (by simp [go_sem]) (.tmp 27) (.tmp 29) 23 rfl w1.heap.size 55 i0 (.agg #[.int .u32 0, .int .u32 0, .int .u32 0]) 3 12 Tryz.underlying23 hi hz0 hz1 hz2 rfl (by decide) _ 0 [] (by simp [Act.eval,Act.put]) Oa.out _ Av nv cv (vtsC vs) (by simp [Act.eval,Act.put]) LEN.out AV.out (zfh vs) (by have:=HM.out;unfold maxLen;omega) (by have:=HM.out;omega) KA.out.size ?_);intro v5 w5 hown5 hgrow5 hblk5;have k5:Keeps w1 w5:=Below.grown KA.out hgrow5 KA.out.size (fun g hg=>(Oa.out.lt g hg).1);have O5:=zH (show Own w5 w1.heap.size 55 3 v5 nv (vtsC vs) by simpa using hown5);clear hown5 hgrow5 hblk5;obtain ⟨A5,c5,rfl,-⟩:=O5.out.form;have s5:=CR.out _ (zK KP1.out k5))
    | (go_at_call 24;refine (MK.out w5 A5 c5).mono ?_;rintro ee w6 ⟨rfl,k6⟩;have K6:=zH (zK k5 k6);have s6:=CR.out _ (zK KP1.out K6.out);clear k6))
   clear s6;obtain ⟨-,d2⟩:=CR.out _ (zK KP1.out K6.out);have X6:=zH (X1.out.keep K6.out);have OA:=zH (zoe B.pb g NG.out w6);have NMS:=zH (zpN X6.out.pj HZ.out (by rw [zhz X6.out];decide));rw [zhz X6.out,show ([xN]:List (List UInt8)).length=1 from rfl] at NMS;go_wp2_with fail
   refine OA.out.mono ?_;rintro e w7 ⟨rfl,rfl⟩;go_wp2_with fail
   refine NMS.out.mono ?_;rintro e w8 ⟨v8,rfl,o8,k8⟩;obtain ⟨A8,c8,rfl,-⟩:=o8.form;have K8:=zH (zK KB.out (zK X6.out.pj.kp k8));clear o8 k8;go_wp2;go_returns;exact .inl ⟨NG.out,rfl,K8.out⟩
theorem NetOk.keep {w w':World} {x:NetS} (h:NetOk w x) (k:Keeps w w'):NetOk w' x:=
 ⟨h.m,h.c,h.mx,(At.keep h.l k).more k.size,h.ok,h.nv,h.cv,h.mv,(At.keep h.vs k).more k.size,h.ov,h.g,h.f⟩
section
variable {K:DiskOk} {wb w w':World} {B:PB} {N g gb bv bt bh:Nat} {a b:List Ed} {vs:List Vt} {q q':Pst} {V:Vw} {S S':Nat→Prop}
theorem MadeAt.next (M:MadeAt K wb B N g a b vs gb bv bt bh q V S w) (h:ExS K wb B N 131072 70 50 q' V [nmG 118 g,nmG 114 g,nmG 101 g,xN] S' w') (t:Turns w w' S S') (st:Still q q' none):MadeAt K wb B N g a b vs gb bv bt bh q' V S' w':=
 ⟨h,M.gr.turn t,M.gn,M.te.still st (by simp),M.tr.still st (by simp),M.tv.still st (by simp)⟩
theorem MadeAt.keep (M:MadeAt K wb B N g a b vs gb bv bt bh q V S w) (k:Keeps w w'):MadeAt K wb B N g a b vs gb bv bt bh q V S w':=⟨M.ex.keep k,M.gr.keep k,M.gn,M.te,M.tr,M.tv⟩
end
def Once (l:List Ed) (i:Nat) (x:Ed):Prop:=l[i]? = some x∧∀ j y,l[j]? = some y→j≠i→y≠x
def zs0 (hd:Bool) (v:Nat) (a:List Ed):Nat:=(a.filter fun e=>decide (endE hd e<v)).length
theorem zjZ (base:Nat) (v:Value) (l:List (List UInt8×List UInt8)) (nm:List UInt8) (sv:ByteArray) (hv:sv=str nm) (w:World) (h:FilesAt w base v l) (hl:l.length≤9223372036854775000) :
 Calls Tryz.prog 10 #[v, .string sv] w (LookV w base (lookF l nm)):=by
 subst hv;obtain ⟨vs,h1,h2,h3⟩:=h;obtain ⟨A,c,rfl,hc,-⟩:=h2.form;have H1:=zH h1;have H2:=zH h2;have H3:=zH h3;obtain ⟨RR,hRR⟩:∃ RR,lookF l nm=RR:=⟨_,rfl⟩
 rw [hRR];have HRR:=zH hRR;clear h1 h2 h3 hRR;go_enter Tryz.func10,Tryz.ntmps10;go_wp2;go_loopw [6] (fun i wr=>∃ j:Nat,j≤l.length∧i = .int .i64 j∧(∀ k q,k<j→l[k]? = some q→q.1≠nm)∧w=wr) (fun i _=>l.length-(intOf i).toNat)
 case atStart=>exact ⟨0,Nat.zero_le _,rfl,fun k q hk=>by omega,rfl⟩
 case round=>
  obtain ⟨j,hj,rfl,hpre,rfl⟩:=hrel;have HP:=zH hpre;clear hpre;by_cases hlt:j<l.length
  ·obtain ⟨p,hp⟩:∃ p,l[j]? = some p:=(⟨_,zG9 hlt⟩);obtain ⟨x,hx,c0,c1⟩:=zfI l vs H1.out j p hp;have hxl:((l.zip vs).flatMap fun p=>[strV p.1.1,p.2]).length=l.length*2:=H2.out.1;obtain ⟨g,rfl,q0,-⟩:=H2.out.cell (j:=j*2) (by rw [hxl];omega);obtain ⟨g',hg',q1,-⟩:=H2.out.cell (j:=j*2+1) (by rw [hxl];omega);obtain rfl:g=g':=by injection hg' with hg';injection hg'
   rw [c0] at q0;rw [c1] at q1;unfold strV at q0;have hjn:(j:Int)<(l.length:Int):=(by omega);have HPP:=zH hp;have OX:=zH (H3.out j p.2 x (by rw [hp];rfl) hx);have hse:=zsf p.1 nm;clear hxl c0 c1 hg' hp hx;by_cases hn:p.1=nm
   ·have hb:decide (p.1=nm)=true:=decide_eq_true hn;rw [hb] at hse;have FD:=zH (zpg HPP.out hn HP.out);obtain ⟨Ax,cx,rfl,hcx,-⟩:=OX.out.form;clear hn hb;generalize (str p.1)=s1 at *;generalize (str nm)=s2 at *;go_wp2_with fail
    refine bodyPost_ret (v:=.tuple #[.slice Ax p.2.length cx, .bool true]) (by simp [results,Tryz.results10,go_sem]) rfl ?_;rw [←HRR.out,FD.out];exact ⟨zab _,Ax,cx,rfl,OX.out⟩
   ·have hb:decide (p.1=nm)=false:=decide_eq_false hn;rw [hb] at hse;have HN:=zH hn;clear hn hb;generalize (str p.1)=s1 at *;generalize (str nm)=s2 at *;go_wp2;go_roundw
    case rel=>exact ⟨j+1,by omega,by go_num,fun k q hk hq=>by
     by_cases e:k=j
     ·subst e;rw [HPP.out] at hq;obtain rfl:=Option.some.inj hq;exact HN.out
     ·exact HP.out k q (by omega) hq,trivial⟩
    case measure=>simp [intOf];omega
  ·obtain rfl:j=l.length:=(by omega);have NO:=zH (show lookF l nm=none from zlQ fun k q hq=>HP.out k q (zI9.1 hq).1 hq);clear hlt hj;go_wp2_with fail
   refine bodyPost_ret (v:=.tuple #[.slice none 0 0, .bool false]) (by simp [results,Tryz.results10,go_sem]) rfl ?_;rw [←HRR.out,NO.out];exact ⟨zab _,rfl⟩
section
variable {K:DiskOk} {w0 w w':World} {B:PB} {S S':Nat→Prop} {p q:Pst} {N Q A C:Nat} {V:Vw} {ns:List (List UInt8)} {nmI nmO:List UInt8} {bi:Int}
variable {sE sR sV:ByteArray} {vv:Value} {bp br bv bs:Nat}
end
end Go.Proofs.YtjpldnjldindkaaGreatDoor
namespace Go.Proofs.YtjpldnjldindkaaGreatDoor
open Go.RowKit
theorem zoj {K:DiskOk} {wb w:World} {B:PB} {N g gb bv bt bh:Nat} {a b:List Ed} {vs:List Vt} {q:Pst} {V:Vw} {S:Nat→Prop} (M:MadeAt K wb B N g a b vs gb bv bt bh q V S w) :
 lookF (q.d.l.map fun f=>(f.name,f.now)) (nmG 101 g)=some (fileB (nmG 101 g) 0 (zae 12 (a.map edB)))∧
 lookF (q.d.l.map fun f=>(f.name,f.now)) (nmG 114 g)=some (fileB (nmG 114 g) 0 (zae 12 (b.map edB)))∧
 lookF (q.d.l.map fun f=>(f.name,f.now)) (nmG 118 g)=some (fileB (nmG 118 g) 0 (zae 20 (vs.map vtB))):=by
 refine ⟨zog M.ex M.gn.e M.te,zog M.ex M.gn.r M.tr,?_⟩;obtain ⟨f,h1,h2⟩:=M.ex.tid.bytes M.gn.v M.tv;rw [zjX,h1,←h2];rfl
theorem zmq {K:DiskOk} {wb w:World} {B:PB} {N g gb bv bt bh:Nat} {a b:List Ed} {vs:List Vt} {q:Pst} {V:Vw} {S:Nat→Prop} (M:MadeAt K wb B N g a b vs gb bv bt bh q V S w):∀ p∈zaO q.d.l,p.1=xN:=by
 intro p hp;unfold zaO at hp;obtain ⟨f,hf,hp⟩:=List.mem_flatMap.1 hp;obtain ⟨k,hk,rfl⟩:=List.mem_map.1 hp;have hg:=zdc M.ex.tid.rise hf;obtain ⟨ps,hV⟩:=M.ex.tid.heal.known hg;have hm:=(M.ex.tid.mem f.name).1 (by rw [hV];simp);have no:∀ nm,Tidy q nm→f.name=nm→False:=fun nm t e=>by
  have h1:=(t.file f (by rw [←e];exact hg)).2 k;unfold zbY at hk;rw [List.mem_filter,h1] at hk;exact absurd hk.2 (by simp)
 simp only [List.mem_cons,List.not_mem_nil,or_false] at hm;rcases hm with e|e|e|e
 ·exact (no _ M.tv e).elim
 ·exact (no _ M.tr e).elim
 ·exact (no _ M.te e).elim
 ·exact e
theorem zg5 {α β:Type} (g:α→List β) (M:Nat):∀ (l:List α),(∀ x∈l,(g x).length≤M)→(l.flatMap g).length≤l.length*M
 | [],_=>by simp
 | x::l,h=>by
  have h1:=zg5 g M l (fun y hy=>h y (by simp [hy]));have h2:=h x (by simp);rw [List.flatMap_cons,List.length_append,List.length_cons,Nat.add_mul];omega
theorem zqn {K:DiskOk} {wb w:World} {B:PB} {N g gb bv bt bh:Nat} {a b:List Ed} {vs:List Vt} {q:Pst} {V:Vw} {S:Nat→Prop} (M:MadeAt K wb B N g a b vs gb bv bt bh q V S w):(zaO q.d.l).length≤1000000:=by
 have h1:=zg5 (fun f:Fl=>(zbY f).map fun k=>(f.name,k)) 12800 q.d.l (fun f hf=>by
  have h2:=M.ex.tid.heal.big f hf;have h3:(zbY f).length≤sect f.now.length:=by
   unfold zbY;exact Nat.le_trans (List.length_filter_le _ _) (by simp)
  unfold sect at h3;rw [List.length_map];omega)
 have h4:=M.ex.tid.heal.num;unfold zaO;omega
end Go.Proofs.YtjpldnjldindkaaGreatDoor
