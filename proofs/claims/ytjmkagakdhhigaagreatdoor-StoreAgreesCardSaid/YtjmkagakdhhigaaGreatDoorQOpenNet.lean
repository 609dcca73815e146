/- An argument of type milepostlaw13.Net opened. -/
import Derived.Test.YtjmkagakdhhigaaGreatDoorQFrame
import Derived.Test.YtjmkagakdhhigaaGreatDoorQStView
import Derived.Test.YtjmkagakdhhigaaGreatDoorQStNm
import Derived.Deep.RegionHeld3
import Derived.Test.YtjmkagakdhhigaaGreatDoorQPoolHeal
set_option linter.unusedVariables false
set_option linter.unusedSimpArgs false
set_option maxRecDepth 100000
namespace Go.Proofs.YtjmkagakdhhigaaGreatDoor
open Go.RowKit
open Go.ChangeShapes Go.WideShapes Go.ChangeAt Go.Deep
structure NetS where
 A:Option Addr
 m:Nat
 c:Nat
 Av:Option Addr
 nv:Nat
 cv:Nat
 g:Int
 f:Nat
 l:List Ed
 vs:List Vt
structure NetOk (W:World) (e:NetS):Prop where
 m:e.m=e.l.length
 c:e.m≤e.c
 mx:e.c≤maxLen
 l:At W W.heap.size e.A (edsC e.l)
 ok:∀ x∈e.l,EdOk x
 nv:e.nv=e.vs.length
 cv:e.nv≤e.cv
 mv:e.cv≤maxLen
 vs:At W W.heap.size e.Av (vtsC e.vs)
 ov:∀ x∈e.vs,VtOk x
 g : -9223372036854775808≤e.g∧e.g≤9223372036854775807
 f:e.f<256
def netA (e:NetS):Array Value:=#[.slice e.A e.m e.c, .slice e.Av e.nv e.cv, .int .i64 e.g, .int .u8 (e.f:Int)]
theorem flat_net:flat Tryz.prog 6 49=some [22,47,3,5]:=by kernel_rfl
theorem cells_net:Tryz.prog.cellsOf 49=[22,47,3,5].length:=by kernel_rfl
theorem net_of {H:Type} {enc:TypeId×Value→H} {W:World} {rc:Reach} {b0:Nat} {v:Value} {d:DataW H} {p:List MemPlace} (hv:Value.okWide Tryz.prog W rc b0 49 v) (hT:DataW.Trod enc Tryz.prog W 0 (fun _=>true) true 49 v d p) :
 ∃ e:NetS,v = .agg (netA e)∧NetOk W e:=by
 obtain ⟨cs,rfl,hl,hf⟩:=flat_agg Tryz.underlying49 flat_net cells_net hv hT
 match cs,hl with
 | [d0,d1,d2,d3],_=>
  obtain ⟨c0,hc0,lf0⟩:=hf 0 22 rfl
  obtain ⟨c1,hc1,lf1⟩:=hf 1 47 rfl
  obtain ⟨c2,hc2,lf2⟩:=hf 2 3 rfl
  obtain ⟨z2,rfl,q2⟩:=lf2.int Tryz.underlying3
  have m2:=bounds_i64 q2
  obtain ⟨c3,hc3,lf3⟩:=hf 3 5 rfl
  obtain ⟨z3,rfl,q3⟩:=lf3.int Tryz.underlying5
  obtain ⟨x3,rfl,m3⟩:=nat_u8 q3
  obtain rfl:=Option.some.inj hc0
  obtain rfl:=Option.some.inj hc1
  obtain rfl:=Option.some.inj hc2
  obtain rfl:=Option.some.inj hc3
  obtain ⟨m,y,h⟩:=lf0
  have hs:∃ A n c,d0 = .slice A n c:=by
   rcases open_slice Tryz.underlying22 h with ⟨hcs,_⟩|⟨a,len,cap,m',n',D,Pl,hcs,_⟩
   · simp only [List.cons.injEq,and_true] at hcs
     exact ⟨_,_,_,hcs⟩
   · simp only [List.cons.injEq,and_true] at hcs
     exact ⟨_,_,_,hcs⟩
  obtain ⟨A,n,c,rfl⟩:=hs
  obtain ⟨l,h1,h2,h3,h4,h5⟩:=edges_of (d:=y.1) (p:=y.2) ⟨m,h⟩
  obtain ⟨m',y',h'⟩:=lf1
  have hs:∃ A n c,d1 = .slice A n c:=by
   rcases open_slice Tryz.underlying47 h' with ⟨hcs,_⟩|⟨a,len,cap,m',n',D,Pl,hcs,_⟩
   · simp only [List.cons.injEq,and_true] at hcs
     exact ⟨_,_,_,hcs⟩
   · simp only [List.cons.injEq,and_true] at hcs
     exact ⟨_,_,_,hcs⟩
  obtain ⟨Av,nv,cv,rfl⟩:=hs
  obtain ⟨vs,g1,g2,g3,g4,g5⟩:=verts_of (d:=y'.1) (p:=y'.2) ⟨m',h'⟩
  exact ⟨⟨A,n,c,Av,nv,cv,z2,x3,l,vs⟩,rfl,⟨h1,h2,h3,h4,h5,g1,g2,g3,g4,g5,m2,m3⟩⟩
end Go.Proofs.YtjmkagakdhhigaaGreatDoor
namespace Go.Proofs.YtjmkagakdhhigaaGreatDoor
open Go.RowKit Go.Sort
theorem info_vert:(Tryz.prog.info? 74).map (fun i=>(i.zero,i.size,i.bytes))=some (some (.agg #[.int .u32 0, .int .u32 0, .int .u32 0]),3,12):=by kernel_rfl
theorem own_empty13 (w:World) (e:TypeId) (size:Nat):Own (w.alloc (.cells #[] e)) w.heap.size e size (.slice (some ⟨w.heap.size,0,none⟩) 0 0) 0 []:=
 ⟨by simp, .inr ⟨w.heap.size,0,#[],(0,0),rfl,Nat.le_refl _,heap_alloc_new w _, .inl rfl,Nat.le_refl _,by simp [maxLen],by simp,by simp⟩⟩
theorem vtsC_ones (l:List Vt):∀ u∈vtsC l,u.oneCell'=true:=by
 intro u hu
 obtain ⟨e,_,he⟩:=List.mem_flatMap.1 hu
 simp only [vtC,List.mem_cons,List.not_mem_nil,or_false] at he
 rcases he with rfl|rfl|rfl<;>rfl
theorem vtsC_len (l:List Vt):(vtsC l).length=l.length*3:=flatMap_length vtC 3 vtC_length l
theorem step_app13 {P:Program} {w:World} {ops:Array Oper} {o:Oper} {a:Act} {K:Act→World→Prop} {Q:Exit→Act→World→Prop} {E:Prop} (hg:Region.wanted o (yielded ops a.tmps)=true) (s x:Operand) (t:TypeId)
 (ho:o.op = .call {callee:=.builtin .append,args:=#[s,x],argTypes:=#[t,t]})
 (base:Nat) (e:TypeId) (i:TypeInfo) (z:Value) (size bytes:Nat) (ht:P.underlying t=some (.slice e)) (hi:P.info? e=some i) (hz:i.zero=some z)
 (hsize:i.size=size) (hby:i.bytes=bytes) (hzs:z.cells.size=size) (hsz:0<size)
 (v:Value) (n:Nat) (xs:List Value) (hs:a.eval s=v) (hown:Own w base e size v n xs)
 (B:Nat) (A:Option Addr) (m c:Nat) (news:List Value) (hx:a.eval x = .slice A m c) (hm:news.length=m*size) (hr:At w B A news) (h1:∀ u∈news,u.oneCell'=true)
 (h63:n+m≤maxLen) (hbytes:(n+m)*bytes≤140737488355328) (hbase:base≤w.heap.size)
 (hK:∀ v' w',Own w' base e size v' (n+m) (xs++news)→w.grownBy w' v.ownBlock→(v'.ownBlock=v.ownBlock∨v'.ownBlock=some w.heap.size)→K (a.put o.dst v') w') :
 if Region.wanted o (yielded ops a.tmps)=true then Oper.wp P o a w K Q else E:=by
 rw [if_pos hg]
 exact wp_app w s x t ho base e i z size bytes ht hi hz hsize hby hzs hsz v n xs hs hown B A m c news hx hm hr h1 h63 hbytes hbase hK
theorem net_box (w:World) (x:NetS):Box (w.alloc (.cells (netA x) 49)) w.heap.size 49 (netA x):=Box.new _ _ _
theorem vast13_any (x:NetS) (w:World):Calls Tryz.prog 17 #[.agg (netA x)] w fun e w'=>e = .returned (.bool (decide (300<x.m∨100<x.nv)))∧Keeps w w':=by
 have k1:=zH (zA w (.cells #[.slice x.A x.m x.c, .slice x.Av x.nv x.cv, .int .i64 x.g, .int .u8 (x.f:Int)] 49))
 have B1:=net_box w x
 unfold netA at *
 have c0:=B1.cell 0 rfl
 have c1:=B1.cell 1 rfl
 clear B1
 by_cases h1:300<x.m
 · have h1':(300:Int)<(x.m:Int):=by omega
   rw [decide_eq_true (.inl h1)]
   clear h1
   go_enter Tryz.func17,Tryz.ntmps17
   go_wp2_with fail
   go_ret
   exact ⟨rfl,k1.out⟩
 · have h1':decide ((300:Int)<(x.m:Int))=false:=decide_eq_false (by omega)
   have h1'':decide (300<x.m)=false:=decide_eq_false (by omega)
   by_cases h2:100<x.nv
   · have h2':(100:Int)<(x.nv:Int):=by omega
     rw [decide_eq_true (.inr h2)]
     clear h1 h2
     go_enter Tryz.func17,Tryz.ntmps17
     go_wp2_with fail
     go_ret
     exact ⟨rfl,k1.out⟩
   · have h2':decide ((100:Int)<(x.nv:Int))=false:=decide_eq_false (by omega)
     have h2'':decide (100<x.nv)=false:=decide_eq_false (by omega)
     rw [decide_eq_false (by omega)]
     clear h1 h2
     go_enter Tryz.func17,Tryz.ntmps17
     go_wp2_with fail
     go_ret
     exact ⟨rfl,k1.out⟩
theorem gmake_arg (pb:Nat) (sI:ByteArray) (gi:Int) (hg:¬ (0≤gi∧gi≤1048576)) (Av:Option Addr) (nv cv:Nat) (w:World):Calls Tryz.prog 37 #[.pointer (some ⟨pb,0,none⟩), .string sI, .int .i64 gi, .slice Av nv cv] w fun e w'=>e = .returned (.int .i64 1)∧Keeps w w':=by
 have GE:=zH (fun W=>isGen_any gi W)
 rw [decide_eq_false hg] at GE
 have k1:=zA w (.cells #[.pointer (some ⟨pb,0,none⟩)] 25)
 have k2:=zA (w.alloc (.cells #[.pointer (some ⟨pb,0,none⟩)] 25)) (.cells #[.string sI] 9)
 have k3:=zA ((w.alloc (.cells #[.pointer (some ⟨pb,0,none⟩)] 25)).alloc (.cells #[.string sI] 9)) (.cells #[.slice Av nv cv] 47)
 have c0:=(((Box.new w 25 #[.pointer (some ⟨pb,0,none⟩)]).keep k2).keep k3).cell 0 rfl
 have K3:=zH (zK k1 (zK k2 k3))
 clear k1 k2 k3 hg
 go_enter Tryz.func37,Tryz.ntmps37
 go_wp2_with fail
 refine (GE.out _).mono ?_
 rintro e w1 ⟨rfl,rfl⟩
 go_wp2_with fail
 go_ret
 exact ⟨rfl,K3.out⟩
theorem x_num13 {K:DiskOk} {w0 w:World} {B:PB} {N Q A C:Nat} {p:Pst} {V:Vw} {ns:List (List UInt8)} {S:Nat→Prop} (h:ExS K w0 B N Q A C p V ns S w):p.d.l.length=ns.length:=by simpa using h.tid.names.length_eq
structure MadeAt (K:DiskOk) (wb:World) (B:PB) (N:Nat) (g:Nat) (a b:List Ed) (vs:List Vt) (gb bv bt bh:Nat) (q:Pst) (V:Vw) (S:Nat→Prop) (w:World):Prop where
 ex:ExS K wb B N 131072 70 50 q V [nmG 118 g,nmG 114 g,nmG 101 g,xN] S w
 gr:GrAt w S B (nmG 101 g) (nmG 114 g) (nmG 118 g) vs.length gb bv bt bh
 gn:GenV V (nmG 101 g) (nmG 114 g) (nmG 118 g) a b vs
 te:Tidy q (nmG 101 g)
 tr:Tidy q (nmG 114 g)
 tv:Tidy q (nmG 118 g)
def MadeV (K:DiskOk) (w:World) (x:NetS) (e:Ending) (w':World):Prop:=
 (¬ (0≤x.g∧x.g≤1048576)∧e = .returned (.tuple #[.pointer none, .pointer none, .bool false])∧Keeps w w')∨
 (∃ (wb:World) (B:PB) (g:Nat) (a b:List Ed) (gb bv bt bh:Nat) (q:Pst) (V:Vw) (S:Nat→Prop),x.g=(g:Int)∧g≤1048576∧e = .returned (.tuple #[.pointer (some ⟨B.db,0,none⟩), .pointer (some ⟨gb,0,none⟩), .bool false])∧Keeps w wb∧RedB false x.l a∧RedB true x.l b∧MadeAt K wb B (8+x.f%40) g a b x.vs gb bv bt bh q V S w')
set_option maxHeartbeats 32000000 in
theorem made13_any (K:DiskOk) (PK:PageOk) (w:World) (hZ:K.Z w) (hS:Sizes w) (hT:PowT w) (x:NetS) (hx:NetOk w x) (hm:x.m≤300) (hnv:x.nv≤100) :
 Calls Tryz.prog 19 #[.agg (netA x)] w (MadeV K w x):=by
 obtain ⟨A0,m,c,Av,nv,cv,g,f,l,vs⟩:=x
 obtain ⟨h1,h2,h3,h4,h5,h6,h7,h8,h9,h10,h11,h12⟩:=hx
 simp only at h1 h2 h3 h4 h5 h6 h7 h8 h9 h10 h11 h12 hm hnv
 have kb:=zA w (.cells #[.slice A0 m c, .slice Av nv cv, .int .i64 g, .int .u8 (f:Int)] 49)
 have B1:=zH (show Box (w.alloc (.cells #[.slice A0 m c, .slice Av nv cv, .int .i64 g, .int .u8 (f:Int)] 49)) w.heap.size 49 #[.slice A0 m c, .slice Av nv cv, .int .i64 g, .int .u8 (f:Int)] from Box.new _ _ _)
 obtain ⟨fm,hfm⟩:∃ fm,fm=f%40:=⟨_,rfl⟩
 have hf40:fm<40:=by omega
 have ht:((f:Int)).tmod 40=(fm:Int):=by rw [Int.tmod_eq_emod_of_nonneg (by omega)];omega
 have hfi:(fm:Int)<40:=by omega
 have RW:=zH (raw13_any K PK _ (K.keep hZ kb) (hS.keep kb) (n:=8+fm) ⟨by omega,by omega⟩ (c:=c) ((h4.keep kb).more kb.size) h5 h1 (by omega))
 rw [show ((8+fm:Nat):Int)=8+(fm:Int) by omega] at RW
 have CR:=zH (fun (V:World) (k:Keeps (w.alloc (.cells #[.slice A0 m c, .slice Av nv cv, .int .i64 g, .int .u8 (f:Int)] 49)) V)=>show V.cell? ⟨w.heap.size,1,none⟩=some (.slice Av nv cv)∧V.cell? ⟨w.heap.size,2,none⟩=some (.int .i64 g) from ⟨(B1.out.keep k).cell 1 rfl,(B1.out.keep k).cell 2 rfl⟩)
 have c0:=B1.out.cell 0 rfl
 have c3:=B1.out.cell 3 rfl
 have HZ:=zH (K.keep hZ kb)
 have HS:=zH (hS.keep kb)
 have HT:=zH (hT.keep kb)
 have KB:=zH kb
 have HVS:=zH (show At (w.alloc (.cells #[.slice A0 m c, .slice Av nv cv, .int .i64 g, .int .u8 (f:Int)] 49)) (w.alloc (.cells #[.slice A0 m c, .slice Av nv cv, .int .i64 g, .int .u8 (f:Int)] 49)).heap.size Av (vtsC vs) from (h9.keep kb).more kb.size)
 have HM:=zH (show m=l.length∧m≤300∧nv=vs.length∧nv≤100∧fm=f%40∧fm<40 from ⟨h1,hm,h6,hnv,hfm,hf40⟩)
 have OKE:=zH h5
 have OKV:=zH h10
 have HG:=zH h11
 have hf256:(f:Int)<256:=by omega
 have hf0:(0:Int)≤(f:Int):=by omega
 have LEN:=zH (show (vtsC vs).length=nv*3 by rw [vtsC_len,h6])
 obtain ⟨i0,hi,hz0,hz1,hz2⟩:=info_parts info_vert
 unfold netA
 by_cases hg:0≤g∧g≤1048576
 · obtain ⟨gn,rfl⟩:∃ gn:Nat,g=(gn:Int):=⟨g.toNat,by omega⟩
   have hgn:gn≤1048576:=by omega
   have GI:=zH hgn
   have g0:¬ (gn:Int)<0:=by omega
   have g1:¬ (1048576:Int)<(gn:Int):=by omega
   have g0':decide ((gn:Int)<0)=false:=decide_eq_false g0
   have g1':decide ((1048576:Int)<(gn:Int))=false:=decide_eq_false g1
   have g1'':decide (1048576<gn)=false:=decide_eq_false (by omega)
   clear kb h1 h2 h3 h4 h5 h6 h7 h8 h9 h10 h11 h12 hm hnv hZ hS hT hg hgn hfm hf40
   go_enter Tryz.func19,Tryz.ntmps19
   go_wp2_with fail
   refine RW.out.mono ?_
   rintro e w1 ⟨B,S,p,V,rfl,x1,s1⟩
   clear c0 c3 RW
   generalize (w.alloc (.cells #[.slice A0 m c, .slice Av nv cv, .int .i64 (gn:Int), .int .u8 (f:Int)] 49))=wb at *
   have X1:=zH (x1.more (A':=70) (C':=50) (by decide) (Nat.le_refl _) (by decide))
   have S1:=zH s1
   have KP1:=zH x1.pj.kp
   have KA:=zH (zK (zA w1 (.cells #[] 74)) (zD _))
   have Oa:=zH (show Own ((w1.alloc (.cells #[] 74)).drew) w1.heap.size 74 3 (.slice (some ⟨w1.heap.size,0,none⟩) 0 0) 0 [] from (own_empty13 w1 74 3).keep (zD _))
   have AV:=zH (show At ((w1.alloc (.cells #[] 74)).drew) ((w1.alloc (.cells #[] 74)).drew).heap.size Av (vtsC vs) from (HVS.out.keep (zK KP1.out KA.out)).more (zK KP1.out KA.out).size)
   have MK:=zH (fun (W:World) (A5:Option Addr) (c5:Nat) (o:Own W w1.heap.size 74 3 (.slice A5 nv c5) nv (vtsC vs)) (kW:Keeps w1 W)=>by
    have h:=gmake_any (cv:=c5) PK (X1.out.keep kW) HZ.out HS.out HT.out (by have:=HM.out;omega) (by omega) (by decide) S1.out OKE.out gn GI.out (by simp [nmG_len1,xN]) (by simp [nmG_len1,xN]) (by simp [nmG_len1,xN]) (fun x hx=>by rw [List.mem_singleton] at hx;subst hx;unfold Tdot;decide) (by decide) (by have:=HM.out;omega) (by have:=HM.out;omega) (Own.at_ o) (fun ad e=>by obtain ⟨A',c',hv,-,-,-,hlt⟩:=o.form;injection hv with e1;exact X1.out.lt (hlt ad (e1▸e)).2.1) (fun ad e=>by obtain ⟨A',c',hv,-,-,-,hlt⟩:=o.form;injection hv with e1;exact (hlt ad (e1▸e)).2.2) HM.out.2.2.1 OKV.out (by have:=HM.out;omega) (by have:=HM.out;omega)
    rw [strX13] at h
    exact h)
   have s1:=CR.out _ KP1.out
   clear x1
   go_wp2_with fail
   go_region_held3 (fun V=>V.cell? ⟨w.heap.size,1,none⟩=some (.slice Av nv cv)∧V.cell? ⟨w.heap.size,2,none⟩=some (.int .i64 (gn:Int))) (first|assumption|exact CR.out _ (zK KP1.out (by first|assumption|exact zD _|exact KA.out))) (first
    | ((refine step_app13 (by simp [go_sem]) (.tmp 27) (.tmp 29) 47 rfl w1.heap.size 74 i0 (.agg #[.int .u32 0, .int .u32 0, .int .u32 0]) 3 12 Tryz.underlying47 hi hz0 hz1 hz2 rfl (by decide) _ 0 [] (by simp [Act.eval,Act.put]) Oa.out _ Av nv cv (vtsC vs) (by simp [Act.eval,Act.put]) LEN.out AV.out (vtsC_ones vs) (by have:=HM.out;unfold maxLen;omega) (by have:=HM.out;omega) KA.out.size ?_);intro v5 w5 hown5 hgrow5 hblk5;have k5:Keeps w1 w5:=Below.grown KA.out hgrow5 KA.out.size (fun g hg=>(Oa.out.lt g hg).1);have O5:=zH (show Own w5 w1.heap.size 74 3 v5 nv (vtsC vs) by simpa using hown5);clear hown5 hgrow5 hblk5;obtain ⟨A5,c5,rfl,-⟩:=O5.out.form;have s5:=CR.out _ (zK KP1.out k5))
    | (go_at_call 37;refine (MK.out w5 A5 c5 O5.out k5).mono ?_;rintro ee w6 ⟨q6,V6,S6,rfl,x6,t6,m6⟩;have X6:=zH x6;have M6:=zH m6;have s6:=CR.out _ x6.pj.kp;clear x6 t6 m6))
   clear s6
   obtain ⟨-,d2⟩:=CR.out _ X6.out.pj.kp
   obtain ⟨a,b,ha,hb,G,te,tr,tv⟩:=GenV.of M6.out OKE.out OKV.out (by have:=HM.out;omega) (by have:=HM.out;omega)
   have OG:=zH (openG_any PK X6.out HZ.out HS.out HT.out (by have:=HM.out;omega) (by decide) gn GI.out G)
   have GG:=zH (And.intro G (And.intro te (And.intro tr (And.intro tv (And.intro ha hb)))))
   clear G te tr tv ha hb
   go_wp2_with fail
   refine OG.out.mono ?_
   rintro e w7 ⟨gb,bv,bt,bh,q7,S7,rfl,g7,-,x7,t7,st7⟩
   have F:=zH (show MadeV K w ⟨A0,m,c,Av,nv,cv,(gn:Int),f,l,vs⟩ (.returned (.tuple #[.pointer (some ⟨B.db,0,none⟩), .pointer (some ⟨gb,0,none⟩), .bool false])) w7 from
    .inr ⟨wb,B,gn,a,b,gb,bv,bt,bh,q7,V6,S7,rfl,GI.out,rfl,KB.out,GG.out.2.2.2.2.1,GG.out.2.2.2.2.2,⟨by rw [←HM.out.2.2.2.2.1];exact x7,g7,GG.out.1,GG.out.2.1.still st7 (by simp),GG.out.2.2.1.still st7 (by simp),GG.out.2.2.2.1.still st7 (by simp)⟩⟩)
   clear g7 x7 t7 st7
   go_wp2_with fail
   go_returns
   exact F.out
 · have g0:g<0∨(¬ g<0∧1048576<g):=by omega
   have NG:=zH hg
   clear kb h1 h2 h3 h4 h5 h6 h7 h8 h9 h10 h11 h12 hm hnv hZ hS hT hg hfm hf40
   rcases g0 with g0|⟨g0,g1⟩
   all_goals
    go_enter Tryz.func19,Tryz.ntmps19
    go_wp2_with fail
    refine RW.out.mono ?_
    rintro e w1 ⟨B,S,p,V,rfl,x1,s1⟩
    clear c0 c3 RW
    generalize (w.alloc (.cells #[.slice A0 m c, .slice Av nv cv, .int .i64 g, .int .u8 (f:Int)] 49))=wb at *
    have X1:=zH x1
    have KP1:=zH x1.pj.kp
    have KA:=zH (zK (zA w1 (.cells #[] 74)) (zD _))
    have Oa:=zH (show Own ((w1.alloc (.cells #[] 74)).drew) w1.heap.size 74 3 (.slice (some ⟨w1.heap.size,0,none⟩) 0 0) 0 [] from (own_empty13 w1 74 3).keep (zD _))
    have AV:=zH (show At ((w1.alloc (.cells #[] 74)).drew) ((w1.alloc (.cells #[] 74)).drew).heap.size Av (vtsC vs) from (HVS.out.keep (zK KP1.out KA.out)).more (zK KP1.out KA.out).size)
    have MK:=zH (fun (W:World) (A5:Option Addr) (c5:Nat)=>gmake_arg B.pb ⟨#[120]⟩ g NG.out A5 nv c5 W)
    have s1:=CR.out _ KP1.out
    clear x1
    go_wp2_with fail
    go_region_held3 (fun V=>V.cell? ⟨w.heap.size,1,none⟩=some (.slice Av nv cv)∧V.cell? ⟨w.heap.size,2,none⟩=some (.int .i64 g)) (first|assumption|exact CR.out _ (zK KP1.out (by first|assumption|exact zD _|exact KA.out))) (first
     | ((refine step_app13 (by simp [go_sem]) (.tmp 27) (.tmp 29) 47 rfl w1.heap.size 74 i0 (.agg #[.int .u32 0, .int .u32 0, .int .u32 0]) 3 12 Tryz.underlying47 hi hz0 hz1 hz2 rfl (by decide) _ 0 [] (by simp [Act.eval,Act.put]) Oa.out _ Av nv cv (vtsC vs) (by simp [Act.eval,Act.put]) LEN.out AV.out (vtsC_ones vs) (by have:=HM.out;unfold maxLen;omega) (by have:=HM.out;omega) KA.out.size ?_);intro v5 w5 hown5 hgrow5 hblk5;have k5:Keeps w1 w5:=Below.grown KA.out hgrow5 KA.out.size (fun g hg=>(Oa.out.lt g hg).1);have O5:=zH (show Own w5 w1.heap.size 74 3 v5 nv (vtsC vs) by simpa using hown5);clear hown5 hgrow5 hblk5;obtain ⟨A5,c5,rfl,-⟩:=O5.out.form;have s5:=CR.out _ (zK KP1.out k5))
     | (go_at_call 37;refine (MK.out w5 A5 c5).mono ?_;rintro ee w6 ⟨rfl,k6⟩;have K6:=zH (zK k5 k6);have s6:=CR.out _ (zK KP1.out K6.out);clear k6))
    clear s6
    obtain ⟨-,d2⟩:=CR.out _ (zK KP1.out K6.out)
    have X6:=zH (X1.out.keep K6.out)
    have OA:=zH (openG_arg B.pb g NG.out w6)
    have NMS:=zH (names_pj X6.out.pj HZ.out (by rw [x_num13 X6.out];decide))
    rw [x_num13 X6.out,show ([xN]:List (List UInt8)).length=1 from rfl] at NMS
    go_wp2_with fail
    refine OA.out.mono ?_
    rintro e w7 ⟨rfl,rfl⟩
    go_wp2_with fail
    refine NMS.out.mono ?_
    rintro e w8 ⟨v8,rfl,o8,k8⟩
    obtain ⟨A8,c8,rfl,-⟩:=o8.form
    have K8:=zH (zK KB.out (zK X6.out.pj.kp k8))
    clear o8 k8
    go_wp2_with fail
    go_returns
    exact .inl ⟨NG.out,rfl,K8.out⟩
theorem NetOk.keep {w w':World} {x:NetS} (h:NetOk w x) (k:Keeps w w'):NetOk w' x:=
 ⟨h.m,h.c,h.mx,(At.keep h.l k).more k.size,h.ok,h.nv,h.cv,h.mv,(At.keep h.vs k).more k.size,h.ov,h.g,h.f⟩
section
variable {K:DiskOk} {wb w w':World} {B:PB} {N g gb bv bt bh:Nat} {a b:List Ed} {vs:List Vt} {q q':Pst} {V:Vw} {S S':Nat→Prop}
theorem MadeAt.next (M:MadeAt K wb B N g a b vs gb bv bt bh q V S w) (h:ExS K wb B N 131072 70 50 q' V [nmG 118 g,nmG 114 g,nmG 101 g,xN] S' w') (t:Turns w w' S S') (st:Still q q' none):MadeAt K wb B N g a b vs gb bv bt bh q' V S' w':=
 ⟨h,M.gr.turn t,M.gn,M.te.still st (by simp),M.tr.still st (by simp),M.tv.still st (by simp)⟩
theorem MadeAt.keep (M:MadeAt K wb B N g a b vs gb bv bt bh q V S w) (k:Keeps w w'):MadeAt K wb B N g a b vs gb bv bt bh q V S w':=⟨M.ex.keep k,M.gr.keep k,M.gn,M.te,M.tr,M.tv⟩
theorem MadeAt.stays (M:MadeAt K wb B N g a b vs gb bv bt bh q V S w) (h:Stays K wb B N 131072 70 50 q V [nmG 118 g,nmG 114 g,nmG 101 g,xN] S w w'):∃ q' S',MadeAt K wb B N g a b vs gb bv bt bh q' V S' w'∧Turns w w' S S':=by
 obtain ⟨q',S',hx,t,st⟩:=h
 exact ⟨q',S',M.next hx t st,t⟩
end
theorem ed_ways13 {x y:Ed} (heq:x≠y):((x.t:Int) == (y.t:Int))=false∨(((x.t:Int) == (y.t:Int))=true∧((x.h:Int) == (y.h:Int))=false)∨(((x.t:Int) == (y.t:Int))=true∧((x.h:Int) == (y.h:Int))=true∧((x.x:Int) == (y.x:Int))=false)∨(((x.t:Int) == (y.t:Int))=true∧((x.h:Int) == (y.h:Int))=true∧((x.x:Int) == (y.x:Int))=true∧((x.m:Int) == (y.m:Int))=false):=by
 simp only [beq_eq_false_iff_ne,beq_iff_eq,ne_eq,Int.natCast_inj]
 by_cases h1:x.t=y.t
 · by_cases h2:x.h=y.h
   · by_cases h3:x.x=y.x
     · by_cases h4:x.m=y.m
       · exact absurd (by cases x;cases y;simp_all) heq
       · exact .inr (.inr (.inr ⟨h1,h2,h3,h4⟩))
     · exact .inr (.inr (.inl ⟨h1,h2,h3⟩))
   · exact .inr (.inl ⟨h1,h2⟩)
 · exact .inl h1
def Once (l:List Ed) (i:Nat) (x:Ed):Prop:=l[i]? = some x∧∀ j y,l[j]? = some y→j≠i→y≠x
theorem once_rise {hd:Bool} {l:List Ed} (h:RiseB hd l) {x:Ed} (hx:x∈l):∃ i,Once l i x:=by
 obtain ⟨i,hi⟩:=List.getElem?_of_mem hx
 refine ⟨i,hi,fun j y hy hne e=>?_⟩
 subst e
 obtain ⟨h1,e1⟩:=List.getElem?_eq_some_iff.1 hi
 obtain ⟨h2,e2⟩:=List.getElem?_eq_some_iff.1 hy
 rcases Nat.lt_or_gt_of_ne hne with h3|h3
 · have:=(List.pairwise_iff_getElem.1 h) j i h2 h1 h3
   rw [e1,e2,ahB_irr] at this
   cases this
 · have:=(List.pairwise_iff_getElem.1 h) i j h1 h2 h3
   rw [e1,e2,ahB_irr] at this
   cases this
set_option maxHeartbeats 8000000 in
theorem count13_any {A:Option Addr} {n c:Nat} {l:List Ed} {w:World} (hB:At w w.heap.size A (edsC l)) (hn:n=l.length) (hl:n≤1000) {i:Nat} {x:Ed} (h:Once l i x) :
 Calls Tryz.prog 36 #[.slice A n c,edG x] w fun e w'=>e = .returned (.int .i64 1)∧Keeps w w':=by
 have kz:=zH (zA w (.cells #[.int .u32 (x.t:Int), .int .u32 (x.h:Int), .int .u64 (x.x:Int), .int .u32 (x.m:Int)] 42))
 have YB:=zH (EdBox.new w 42 x)
 have HB:=zH hB
 have HN:=zH (And.intro hn hl)
 have HI:=zH h.1
 have HO:=zH h.2
 have hni:(n:Int)≤1000:=by omega
 have IL:=zH (show i<n by have:=(List.getElem?_eq_some_iff.1 h.1).1;omega)
 clear hB hn hl h
 unfold edG
 go_enter Tryz.func36,Tryz.ntmps36
 go_wp2_with fail
 go_loopw [5,6] (fun k i' wr=>∃ (j k':Nat),j≤n∧k = .int .i64 (k':Int)∧i' = .int .i64 (j:Int)∧k'=(if i<j then 1 else 0)∧Keeps (w.alloc (.cells #[.int .u32 (x.t:Int), .int .u32 (x.h:Int), .int .u64 (x.x:Int), .int .u32 (x.m:Int)] 42)) wr) (fun _ i' _=>n-(intOf i').toNat)
 case atStart=>exact ⟨0,0,Nat.zero_le _,rfl,rfl,by rw [if_neg (by omega)],keeps_refl _⟩
 case round=>
  obtain ⟨j,k',hj,rfl,rfl,hk,hkp⟩:=hrel
  have HK:=zH hk
  have KP:=zH hkp
  have hk1:(k':Int)≤1:=by split at hk<;>omega
  have hk0:(0:Int)≤(k':Int):=by omega
  clear hk hkp
  by_cases hlt:j<n
  · obtain ⟨z,hz⟩:∃ z,l[j]? = some z:=⟨_,List.getElem?_eq_getElem (by have:=HN.out;omega)⟩
    obtain ⟨ad,hA,-,hE⟩:=eds_at HB.out hz
    subst hA
    obtain ⟨z0,z1,z2,z3⟩:=hE.keep (zK kz.out KP.out)
    obtain ⟨y0,y1,y2,y3⟩:=(YB.out.keep KP.out).cells
    have j0:(0:Int)≤(j:Int):=by omega
    have j1:(j:Int)<(n:Int):=by omega
    have HJ:=zH hlt
    by_cases heq:z=x
    · have hji:j=i:=Classical.byContradiction fun hne=>HO.out j z hz hne heq
      have NX:=zH (show k'+1=(if i<j+1 then 1 else 0) by have:=HK.out;rw [if_neg (by omega)] at this;rw [if_pos (by omega),this])
      subst heq
      clear hz hE hlt hj hji
      go_wp2_with fail
      go_quiet (fail)
      go_wp2_with fail
      go_roundw
      case rel=>exact ⟨j+1,k'+1,by have:=HJ.out;omega,by go_num,by go_num,NX.out,zK KP.out (keeps_drewN _ _)⟩
      case measure=>have:=HJ.out;simp [intOf];omega
    · have hji:j≠i:=fun e=>by
       subst e
       rw [HI.out] at hz
       exact heq (Option.some.inj hz).symm
      have NX:=zH (show k'=(if i<j+1 then 1 else 0) by
       have:=HK.out
       rw [this]
       by_cases h:i<j
       · rw [if_pos h,if_pos (by omega)]
       · rw [if_neg h,if_neg (by omega)])
      have ways:=ed_ways13 heq
      clear hz hE hlt hj hji heq
      rcases ways with g1|⟨g1,g2⟩|⟨g1,g2,g3⟩|⟨g1,g2,g3,g4⟩
      all_goals
       go_wp2_with fail
       go_quiet (fail)
       go_wp2_with fail
       go_roundw
       case rel=>exact ⟨j+1,k',by have:=HJ.out;omega,rfl,by go_num,NX.out,zK KP.out (keeps_drewN _ _)⟩
       case measure=>have:=HJ.out;simp [intOf];omega
  · obtain rfl:j=n:=by omega
    obtain rfl:k'=1:=by have:=HK.out;rw [if_pos IL.out] at this;exact this
    clear hlt hj
    go_wp2_with fail
    go_ret
    exact ⟨rfl,zK kz.out KP.out⟩
def belowE (hd:Bool) (v:Nat) (a:List Ed):Nat:=(a.filter fun e=>decide (endE hd e<v)).length
theorem belowE_zero (hd:Bool) (a:List Ed):belowE hd 0 a=0:=by simp [belowE]
theorem belowE_succ (hd:Bool) (v:Nat) (a:List Ed):belowE hd (v+1) a=belowE hd v a+(outE hd v a).length:=by
 unfold belowE outE
 induction a with
 | nil=>rfl
 | cons x a ih=>
  simp only [List.filter_cons]
  by_cases h1:endE hd x<v
  · rw [if_pos (by simp;omega),if_pos (by simpa using h1),if_neg (by simp;omega)]
    simp only [List.length_cons]
    omega
  · by_cases h2:endE hd x=v
    · rw [if_pos (by simp;omega),if_neg (by simpa using h1),if_pos (by simpa using h2)]
      simp only [List.length_cons]
      omega
    · rw [if_neg (by simp;omega),if_neg (by simpa using h1),if_neg (by simpa using h2)]
      exact ih
theorem belowE_all {hd:Bool} {v:Nat} {a:List Ed} (h:∀ e∈a,endE hd e<v):belowE hd v a=a.length:=by
 unfold belowE
 rw [List.filter_eq_self.2 (fun e he=>by simpa using h e he)]
theorem belowE_le (hd:Bool) (v:Nat) (a:List Ed):belowE hd v a≤a.length:=List.length_filter_le _ _
theorem red_len {l a b:List Ed} (hok:∀ e∈l,EdOk e) (ha:RedB false l a) (hb:RedB true l b):b.length=a.length:=by
 have h1:∀ e,e∈b↔e∈a:=fun e=>⟨RedB.sub hok hb ha e,RedB.sub hok ha hb e⟩
 have h2:=(ha.again.turn hb.rise h1).len_le
 have h3:=(hb.again.turn ha.rise (fun e=>(h1 e).symm)).len_le
 omega
end Go.Proofs.YtjmkagakdhhigaaGreatDoor
