/- StoreApart: a further generation turns nothing of one that is there. (Written by mkst3.py.) -/
import Derived.Test.YtjmkagakdhhigaaGreatDoorQOpenNet
set_option linter.unusedVariables false
set_option linter.unusedSimpArgs false
set_option maxRecDepth 100000
namespace Go.Proofs.YtjmkagakdhhigaaGreatDoor
open Go.RowKit Go.Sort
theorem FilesAt.turn13 {w w':World} {base:Nat} {v:Value} {l:List (List UInt8×List UInt8)} {F F':Nat→Prop} (h:FilesAt w base v l) (ht:Turns w w' F F') (hF:∀ i,F i→i<base):FilesAt w' base v l:=by
 obtain ⟨vs,h1,h2,h3⟩:=h
 exact ⟨vs,h1,(own_far h2 (fun k hk hf=>by have:=(h2.lt k hk).1;have:=hF k hf;omega) ht).1,fun i b x hi hx=>(own_far (h3 i b x hi hx) (fun k hk hf=>by have:=((h3 i b x hi hx).lt k hk).1;have:=hF k hf;omega) ht).1⟩
theorem nm_next (c:UInt8) (g:Nat):nmG c (g+1)∉[nmG 118 g,nmG 114 g,nmG 101 g,xN]:=fun h=>by
 simp only [List.mem_cons,List.not_mem_nil,or_false] at h
 rcases h with h|h|h|h
 · exact absurd (nmG_inj h) (by omega)
 · exact absurd (nmG_inj h) (by omega)
 · exact absurd (nmG_inj h) (by omega)
 · exact nmG_len1 _ _ _ h
theorem gen_dot (g:Nat):∀ x∈[nmG 118 g,nmG 114 g,nmG 101 g,xN],¬ Tdot x:=fun x hx=>by
 simp only [List.mem_cons,List.not_mem_nil,or_false] at hx
 rcases hx with rfl|rfl|rfl|rfl
 · exact nmG_dot (by decide) g
 · exact nmG_dot (by decide) g
 · exact nmG_dot (by decide) g
 · unfold Tdot;decide
theorem files_kept {K:DiskOk} {w0 w w':World} {B:PB} {N Q A C:Nat} {p6 p8:Pst} {V6 V8:Vw} {ns6 ns8:List (List UInt8)} {S6 S8:Nat→Prop} {p:List UInt8×List UInt8} (X6:ExS K w0 B N Q A C p6 V6 ns6 S6 w) (X8:ExS K w0 B N Q A C p8 V8 ns8 S8 w') (hx:xN∈ns8) (hk:∀ x∈ns6,x≠xN→getF p8.d.l x=getF p6.d.l x) (hp:p∈p6.d.l.map fun f=>(f.name,f.now)) :
 ∃ b,lookF (p8.d.l.map fun f=>(f.name,f.now)) p.1=some b∧(p.1≠xN→b=p.2):=by
 obtain ⟨f,hf,rfl⟩:=List.mem_map.1 hp
 by_cases hn:f.name=xN
 · have h1:=X8.tid.names.mem_iff.2 hx
   obtain ⟨f8,hf8,he⟩:=List.mem_map.1 h1
   have h2:=hl_get_mem X8.tid.rise hf8
   refine ⟨f8.now,?_,fun h=>absurd hn h⟩
   rw [look_get,show (f.name,f.now).1=f8.name from hn.trans he.symm,h2]
   rfl
 · have h1:f.name∈ns6:=X6.tid.names.mem_iff.1 (List.mem_map_of_mem hf)
   refine ⟨f.now,?_,fun _=>rfl⟩
   rw [look_get,show (f.name,f.now).1=f.name from rfl,hk _ h1 hn,hl_get_mem X6.tid.rise hf]
   rfl
set_option maxHeartbeats 64000000 in
theorem apart13_walk (K:DiskOk) (PK:PageOk) (w:World) (hZ:K.Z w) (hS:Sizes w) (hT:PowT w) (x y:NetS) (hx:NetOk w x) (hy:NetOk w y) :
 Calls Tryz.prog 7 #[.agg (netA x), .agg (netA y)] w (Yes12 w):=by
 have WK:=zH (fun (W:World) (k:Keeps w W)=>works13 K PK W (K.keep hZ k) (hS.keep k) (hT.keep k))
 have VAX:=zH (fun W=>vast13_any x W)
 have VAY:=zH (fun W=>vast13_any y W)
 obtain ⟨A0,m,c,Av,nv,cv,g,f,l,vs⟩:=x
 obtain ⟨A1,m1,c1,Av1,nv1,cv1,g1,f1,l1,vs1⟩:=y
 obtain ⟨h1,h2,h3,h4,h5,h6,h7,h8,h9,h10,h11,h12⟩:=hx
 obtain ⟨y1,y2,y3,y4,y5,y6,y7,y8,y9,y10,y11,y12⟩:=hy
 simp only at h1 h2 h3 h4 h5 h6 h7 h8 h9 h10 h11 h12 y1 y2 y3 y4 y5 y6 y7 y8 y9 y10 y11 y12
 unfold netA at *
 have ka:=zA w (.cells #[.slice A0 m c, .slice Av nv cv, .int .i64 g, .int .u8 (f:Int)] 49)
 have kb:=zA (w.alloc (.cells #[.slice A0 m c, .slice Av nv cv, .int .i64 g, .int .u8 (f:Int)] 49)) (.cells #[.slice A1 m1 c1, .slice Av1 nv1 cv1, .int .i64 g1, .int .u8 (f1:Int)] 49)
 have B1:=zH (show Box ((w.alloc (.cells #[.slice A0 m c, .slice Av nv cv, .int .i64 g, .int .u8 (f:Int)] 49)).alloc (.cells #[.slice A1 m1 c1, .slice Av1 nv1 cv1, .int .i64 g1, .int .u8 (f1:Int)] 49)) w.heap.size 49 #[.slice A0 m c, .slice Av nv cv, .int .i64 g, .int .u8 (f:Int)] from Box.keep (Box.new _ _ _) kb)
 have B2:=zH (show Box ((w.alloc (.cells #[.slice A0 m c, .slice Av nv cv, .int .i64 g, .int .u8 (f:Int)] 49)).alloc (.cells #[.slice A1 m1 c1, .slice Av1 nv1 cv1, .int .i64 g1, .int .u8 (f1:Int)] 49)) (w.heap.size+1) 49 #[.slice A1 m1 c1, .slice Av1 nv1 cv1, .int .i64 g1, .int .u8 (f1:Int)] from by simpa using Box.new (w.alloc (.cells #[.slice A0 m c, .slice Av nv cv, .int .i64 g, .int .u8 (f:Int)] 49)) 49 #[.slice A1 m1 c1, .slice Av1 nv1 cv1, .int .i64 g1, .int .u8 (f1:Int)])
 have CRX:=zH (fun (V:World) (k:Keeps ((w.alloc (.cells #[.slice A0 m c, .slice Av nv cv, .int .i64 g, .int .u8 (f:Int)] 49)).alloc (.cells #[.slice A1 m1 c1, .slice Av1 nv1 cv1, .int .i64 g1, .int .u8 (f1:Int)] 49)) V)=>show V.cell? ⟨w.heap.size,0,none⟩=some (.slice A0 m c)∧V.cell? ⟨w.heap.size,1,none⟩=some (.slice Av nv cv)∧V.cell? ⟨w.heap.size,2,none⟩=some (.int .i64 g)∧V.cell? ⟨w.heap.size,3,none⟩=some (.int .u8 (f:Int)) from ⟨(B1.out.keep k).cell 0 rfl,(B1.out.keep k).cell 1 rfl,(B1.out.keep k).cell 2 rfl,(B1.out.keep k).cell 3 rfl⟩)
 have CRY:=zH (fun (V:World) (k:Keeps ((w.alloc (.cells #[.slice A0 m c, .slice Av nv cv, .int .i64 g, .int .u8 (f:Int)] 49)).alloc (.cells #[.slice A1 m1 c1, .slice Av1 nv1 cv1, .int .i64 g1, .int .u8 (f1:Int)] 49)) V)=>show V.cell? ⟨w.heap.size+1,0,none⟩=some (.slice A1 m1 c1)∧V.cell? ⟨w.heap.size+1,1,none⟩=some (.slice Av1 nv1 cv1)∧V.cell? ⟨w.heap.size+1,2,none⟩=some (.int .i64 g1)∧V.cell? ⟨w.heap.size+1,3,none⟩=some (.int .u8 (f1:Int)) from ⟨(B2.out.keep k).cell 0 rfl,(B2.out.keep k).cell 1 rfl,(B2.out.keep k).cell 2 rfl,(B2.out.keep k).cell 3 rfl⟩)
 obtain ⟨c0,c1_,c2,c3⟩:=CRX.out _ (keeps_refl _)
 obtain ⟨d4,d5,d6,d7⟩:=CRY.out _ (keeps_refl _)
 have KB:=zH (zK ka kb)
 have HLX:=zH (show At ((w.alloc (.cells #[.slice A0 m c, .slice Av nv cv, .int .i64 g, .int .u8 (f:Int)] 49)).alloc (.cells #[.slice A1 m1 c1, .slice Av1 nv1 cv1, .int .i64 g1, .int .u8 (f1:Int)] 49)) ((w.alloc (.cells #[.slice A0 m c, .slice Av nv cv, .int .i64 g, .int .u8 (f:Int)] 49)).alloc (.cells #[.slice A1 m1 c1, .slice Av1 nv1 cv1, .int .i64 g1, .int .u8 (f1:Int)] 49)).heap.size A0 (edsC l) from (h4.keep (zK ka kb)).more (zK ka kb).size)
 have HVX:=zH (show At ((w.alloc (.cells #[.slice A0 m c, .slice Av nv cv, .int .i64 g, .int .u8 (f:Int)] 49)).alloc (.cells #[.slice A1 m1 c1, .slice Av1 nv1 cv1, .int .i64 g1, .int .u8 (f1:Int)] 49)) ((w.alloc (.cells #[.slice A0 m c, .slice Av nv cv, .int .i64 g, .int .u8 (f:Int)] 49)).alloc (.cells #[.slice A1 m1 c1, .slice Av1 nv1 cv1, .int .i64 g1, .int .u8 (f1:Int)] 49)).heap.size Av (vtsC vs) from (h9.keep (zK ka kb)).more (zK ka kb).size)
 have HVY:=zH (show At ((w.alloc (.cells #[.slice A0 m c, .slice Av nv cv, .int .i64 g, .int .u8 (f:Int)] 49)).alloc (.cells #[.slice A1 m1 c1, .slice Av1 nv1 cv1, .int .i64 g1, .int .u8 (f1:Int)] 49)) ((w.alloc (.cells #[.slice A0 m c, .slice Av nv cv, .int .i64 g, .int .u8 (f:Int)] 49)).alloc (.cells #[.slice A1 m1 c1, .slice Av1 nv1 cv1, .int .i64 g1, .int .u8 (f1:Int)] 49)).heap.size Av1 (vtsC vs1) from (y9.keep (zK ka kb)).more (zK ka kb).size)
 have HZ:=zH hZ
 have HS:=zH hS
 have HT:=zH hT
 have OKE:=zH h5
 have OKV:=zH h10
 have OKV1:=zH y10
 obtain ⟨i0,hi,hz0,hz1,hz2⟩:=info_parts info_vert
 obtain ⟨fm,hfm⟩:∃ fm,fm=f%40:=⟨_,rfl⟩
 have ht:((f:Int)).tmod 40=(fm:Int):=by rw [Int.tmod_eq_emod_of_nonneg (by omega)];omega
 have hfi:(fm:Int)<40:=by omega
 have hf256:(f:Int)<256:=by omega
 have hf0:(0:Int)≤(f:Int):=by omega
 have hfm40:fm<40:=by omega
 by_cases hvx:300<m∨100<nv
 · rw [decide_eq_true (show 300<(NetS.mk A0 m c Av nv cv g f l vs).m∨100<(NetS.mk A0 m c Av nv cv g f l vs).nv from hvx)] at VAX
   clear h1 h2 h3 h4 h5 h6 h7 h8 h9 h10 h11 h12 y1 y2 y3 y4 y5 y6 y7 y8 y9 y10 y11 y12 hvx hZ hS hT ka kb hfm ht hfi hf256 hf0 hfm40
   go_enter Tryz.func7,Tryz.ntmps7
   go_wp2_with fail
   refine (VAX.out _).mono ?_
   rintro e w1 ⟨rfl,k1⟩
   have KW:=zH (zK KB.out k1)
   obtain ⟨-,-,e2,-⟩:=CRX.out _ k1
   clear k1
   go_wp2_with fail
   refine (WK.out _ KW.out).mono ?_
   rintro e w3 ⟨rfl,k3⟩
   have K3:=zH (zK KW.out k3)
   clear k3
   go_wp2_with fail
   go_ret
   exact ⟨rfl,K3.out⟩
 · rw [decide_eq_false (show ¬ (300<(NetS.mk A0 m c Av nv cv g f l vs).m∨100<(NetS.mk A0 m c Av nv cv g f l vs).nv) from hvx)] at VAX
   by_cases hvy:300<m1∨100<nv1
   · rw [decide_eq_true (show 300<(NetS.mk A1 m1 c1 Av1 nv1 cv1 g1 f1 l1 vs1).m∨100<(NetS.mk A1 m1 c1 Av1 nv1 cv1 g1 f1 l1 vs1).nv from hvy)] at VAY
     clear h1 h2 h3 h4 h5 h6 h7 h8 h9 h10 h11 h12 y1 y2 y3 y4 y5 y6 y7 y8 y9 y10 y11 y12 hvx hvy hZ hS hT ka kb hfm ht hfi hf256 hf0 hfm40
     go_enter Tryz.func7,Tryz.ntmps7
     go_wp2_with fail
     refine (VAX.out _).mono ?_
     rintro e w1 ⟨rfl,k1⟩
     have K1:=zH k1
     clear k1
     obtain ⟨d4,d5,d6,d7⟩:=CRY.out _ K1.out
     go_wp2_with fail
     refine (VAY.out _).mono ?_
     rintro e w2 ⟨rfl,k2⟩
     have KW:=zH (zK KB.out (zK K1.out k2))
     clear k2
     go_wp2_with fail
     refine (WK.out _ KW.out).mono ?_
     rintro e w3 ⟨rfl,k3⟩
     have K3:=zH (zK KW.out k3)
     clear k3
     go_wp2_with fail
     go_ret
     exact ⟨rfl,K3.out⟩
   · rw [decide_eq_false (show ¬ (300<(NetS.mk A1 m1 c1 Av1 nv1 cv1 g1 f1 l1 vs1).m∨100<(NetS.mk A1 m1 c1 Av1 nv1 cv1 g1 f1 l1 vs1).nv) from hvy)] at VAY
     have HM:=zH (show m=l.length∧m≤300∧nv=vs.length∧nv≤100∧nv1=vs1.length∧nv1≤100∧fm<40 from ⟨h1,by omega,h6,by omega,y6,by omega,hfm40⟩)
     clear h1 h2 h3 h4 h5 h6 h7 h8 h9 h10 h12 y1 y2 y3 y4 y5 y6 y7 y8 y9 y10 y11 y12 hvx hvy hZ hS hT ka kb hfm hfm40
     by_cases hg:0≤g∧g<1048576
     · obtain ⟨gn,rfl⟩:∃ gn:Nat,g=(gn:Int):=⟨g.toNat,by omega⟩
       have hgn:gn<1048576:=by omega
       clear hg h11
       have GI:=zH hgn
       have gw:IntKind.i64.wrap ((gn:Int)+1)=(gn:Int)+1:=IntWalk.i64_in _ ⟨by omega,by omega⟩
       have gb1:(gn:Int)<1048576:=by omega
       have gb0:(0:Int)≤(gn:Int):=by omega
       have gb2:decide ((gn:Int)<0)=false:=decide_eq_false (by omega)
       have gb3:decide ((1048576:Int)≤(gn:Int))=false:=decide_eq_false (by omega)
       have gb4:decide (1048576≤gn)=false:=decide_eq_false (by omega)
       clear hgn
       go_enter Tryz.func7,Tryz.ntmps7
       go_wp2_with fail
       refine (VAX.out _).mono ?_
       rintro e w1 ⟨rfl,k1⟩
       have K1:=zH k1
       clear k1
       obtain ⟨d4,d5,d6,d7⟩:=CRY.out _ K1.out
       clear c0 c1_ c2 c3
       obtain ⟨c0,c1_,c2,c3⟩:=CRX.out _ K1.out
       go_wp2_with fail
       refine (VAY.out _).mono ?_
       rintro e w2 ⟨rfl,k2⟩
       have K2:=zH (zK K1.out k2)
       clear k2 c0 c1_ c2 c3 d4 d5 d6 d7
       obtain ⟨c0,c1_,c2,c3⟩:=CRX.out _ K2.out
       have RW:=zH (raw13_any K PK w2 (K.keep HZ.out (zK KB.out K2.out)) (HS.out.keep (zK KB.out K2.out)) (n:=8+fm) ⟨by have:=HM.out;omega,by have:=HM.out;omega⟩ (c:=c) ((HLX.out.keep K2.out).more K2.out.size) OKE.out HM.out.1 (by have:=HM.out;omega))
       rw [show ((8+fm:Nat):Int)=8+(fm:Int) by omega] at RW
       have ZB:=zH (show K.Z w2∧Sizes w2∧PowT w2 from ⟨K.keep HZ.out (zK KB.out K2.out),HS.out.keep (zK KB.out K2.out),HT.out.keep (zK KB.out K2.out)⟩)
       go_wp2_with fail
       refine RW.out.mono ?_
       rintro e w3 ⟨B,S,p,V,rfl,x3,s3⟩
       clear c0 c1_ c2 c3 RW
       have X3:=zH (x3.more (A':=70) (C':=50) (by decide) (Nat.le_refl _) (by decide))
       have S3:=zH s3
       have KP3:=zH x3.pj.kp
       have KA:=zH (zK (zA w3 (.cells #[] 74)) (zD _))
       have Oa:=zH (show Own ((w3.alloc (.cells #[] 74)).drew) w3.heap.size 74 3 (.slice (some ⟨w3.heap.size,0,none⟩) 0 0) 0 [] from (own_empty13 w3 74 3).keep (zD _))
       have AV:=zH (show At ((w3.alloc (.cells #[] 74)).drew) ((w3.alloc (.cells #[] 74)).drew).heap.size Av (vtsC vs) from (HVX.out.keep (zK K2.out (zK KP3.out KA.out))).more (zK K2.out (zK KP3.out KA.out)).size)
       have LEN:=zH (show (vtsC vs).length=nv*3 by rw [vtsC_len,HM.out.2.2.1])
       have MK:=zH (fun (W:World) (A5:Option Addr) (c5:Nat) (o:Own W w3.heap.size 74 3 (.slice A5 nv c5) nv (vtsC vs)) (kW:Keeps w3 W)=>by
        have h:=gmake_any (cv:=c5) PK (X3.out.keep kW) ZB.out.1 ZB.out.2.1 ZB.out.2.2 (by have:=HM.out;omega) (by omega) (by decide) S3.out OKE.out gn (by have:=GI.out;omega) (by simp [nmG_len1,xN]) (by simp [nmG_len1,xN]) (by simp [nmG_len1,xN]) (fun x hx=>by rw [List.mem_singleton] at hx;subst hx;unfold Tdot;decide) (by decide) (by have:=HM.out;omega) (by have:=HM.out;omega) (Own.at_ o) (fun ad e=>by obtain ⟨A',c',hv,-,-,-,hlt⟩:=o.form;injection hv with e1;exact X3.out.lt (hlt ad (e1▸e)).2.1) (fun ad e=>by obtain ⟨A',c',hv,-,-,-,hlt⟩:=o.form;injection hv with e1;exact (hlt ad (e1▸e)).2.2) HM.out.2.2.1 OKV.out (by have:=HM.out;omega) (by have:=HM.out;omega)
        rw [strX13] at h
        exact h)
       have SD:=zH (fun (V:World) (k:Keeps w2 V)=>show V.cell? ⟨w.heap.size,1,none⟩=some (.slice Av nv cv)∧V.cell? ⟨w.heap.size,2,none⟩=some (.int .i64 (gn:Int)) from ⟨(CRX.out _ (zK K2.out k)).2.1,(CRX.out _ (zK K2.out k)).2.2.1⟩)
       have s1:=SD.out _ KP3.out
       clear x3 s3
       go_wp2_with fail
       go_region_held3 (fun V=>V.cell? ⟨w.heap.size,1,none⟩=some (.slice Av nv cv)∧V.cell? ⟨w.heap.size,2,none⟩=some (.int .i64 (gn:Int))) (first|assumption|exact SD.out _ (zK KP3.out (by first|assumption|exact zD _|exact KA.out))) (first
        | ((refine step_app13 (by simp [go_sem]) (.tmp 57) (.tmp 59) 47 rfl w3.heap.size 74 i0 (.agg #[.int .u32 0, .int .u32 0, .int .u32 0]) 3 12 Tryz.underlying47 hi hz0 hz1 hz2 rfl (by decide) _ 0 [] (by simp [Act.eval,Act.put]) Oa.out _ Av nv cv (vtsC vs) (by simp [Act.eval,Act.put]) LEN.out AV.out (vtsC_ones vs) (by have:=HM.out;unfold maxLen;omega) (by have:=HM.out;omega) KA.out.size ?_);intro v5 w5 hown5 hgrow5 hblk5;have k5:Keeps w3 w5:=Below.grown KA.out hgrow5 KA.out.size (fun g hg=>(Oa.out.lt g hg).1);have O5:=zH (show Own w5 w3.heap.size 74 3 v5 nv (vtsC vs) by simpa using hown5);clear hown5 hgrow5 hblk5;obtain ⟨A5,c5,rfl,-⟩:=O5.out.form;have s5:=SD.out _ (zK KP3.out k5))
        | (go_at_call 37;refine (MK.out w5 A5 c5 O5.out k5).mono ?_;rintro ee w6 ⟨q6,V6,S6,rfl,x6,t6,m6⟩;have X6:=zH x6;have M6:=zH m6;have s6:=SD.out _ x6.pj.kp;clear x6 t6 m6))
       clear s6 MK SD Oa AV KA LEN
       have FI:=zH (x_files X6.out ZB.out.1 (by simp))
       go_wp2_with fail
       refine FI.out.mono ?_
       rintro e w7 ⟨v7,rfl,f7,k7⟩
       have FW:=zH f7
       have X7:=zH (X6.out.keep k7)
       have L6:=zH (fun i hi=>X6.out.pj.lt i hi)
       have KP7:=zH (zK X6.out.pj.kp k7)
       have SX6:=zH (show IsS V6 xN 20 (l.map edB) from S3.out.at (M6.out.o xN (Ne.symm (nmG_len1 _ _ _)) (Ne.symm (nmG_len1 _ _ _)) (Ne.symm (nmG_len1 _ _ _))))
       clear f7 k7 FI
       have KA:=zH (zK (zA w7 (.cells #[] 74)) (zD _))
       have Oa:=zH (show Own ((w7.alloc (.cells #[] 74)).drew) w7.heap.size 74 3 (.slice (some ⟨w7.heap.size,0,none⟩) 0 0) 0 [] from (own_empty13 w7 74 3).keep (zD _))
       have AV:=zH (show At ((w7.alloc (.cells #[] 74)).drew) ((w7.alloc (.cells #[] 74)).drew).heap.size Av1 (vtsC vs1) from (HVY.out.keep (zK K2.out (zK KP7.out KA.out))).more (zK K2.out (zK KP7.out KA.out)).size)
       have LEN:=zH (show (vtsC vs1).length=nv1*3 by rw [vtsC_len,HM.out.2.2.2.2.1])
       have MK:=zH (fun (W:World) (A5:Option Addr) (c5:Nat) (o:Own W w7.heap.size 74 3 (.slice A5 nv1 c5) nv1 (vtsC vs1)) (kW:Keeps w7 W)=>by
        have h:=gmake_any (cv:=c5) PK (X7.out.keep kW) ZB.out.1 ZB.out.2.1 ZB.out.2.2 (by have:=HM.out;omega) (by omega) (by decide) SX6.out OKE.out (gn+1) (by have:=GI.out;omega) (nm_next 101 gn) (nm_next 114 gn) (nm_next 118 gn) (gen_dot gn) (by simp) (by have:=HM.out;omega) (by have:=HM.out;omega) (Own.at_ o) (fun ad e=>by obtain ⟨A',c',hv,-,-,-,hlt⟩:=o.form;injection hv with e1;exact X7.out.lt (hlt ad (e1▸e)).2.1) (fun ad e=>by obtain ⟨A',c',hv,-,-,-,hlt⟩:=o.form;injection hv with e1;exact (hlt ad (e1▸e)).2.2) HM.out.2.2.2.2.1 OKV1.out (by have:=HM.out;omega) (by have:=HM.out;omega)
        rw [strX13,show ((gn+1:Nat):Int)=(gn:Int)+1 by omega] at h
        exact h)
       have SD:=zH (fun (V:World) (k:Keeps w2 V)=>show V.cell? ⟨w.heap.size,2,none⟩=some (.int .i64 (gn:Int))∧V.cell? ⟨w.heap.size+1,1,none⟩=some (.slice Av1 nv1 cv1) from ⟨(CRX.out _ (zK K2.out k)).2.2.1,(CRY.out _ (zK K2.out k)).2.1⟩)
       have s1:=SD.out _ KP7.out
       go_wp2_with fail
       go_region_held3 (fun V=>V.cell? ⟨w.heap.size,2,none⟩=some (.int .i64 (gn:Int))∧V.cell? ⟨w.heap.size+1,1,none⟩=some (.slice Av1 nv1 cv1)) (first|assumption|exact SD.out _ (zK KP7.out (by first|assumption|exact zD _|exact KA.out))) (first
        | ((refine step_app13 (by simp [go_sem]) (.tmp 70) (.tmp 72) 47 rfl w7.heap.size 74 i0 (.agg #[.int .u32 0, .int .u32 0, .int .u32 0]) 3 12 Tryz.underlying47 hi hz0 hz1 hz2 rfl (by decide) _ 0 [] (by simp [Act.eval,Act.put]) Oa.out _ Av1 nv1 cv1 (vtsC vs1) (by simp [Act.eval,Act.put]) LEN.out AV.out (vtsC_ones vs1) (by have:=HM.out;unfold maxLen;omega) (by have:=HM.out;omega) KA.out.size ?_);intro v5 w5 hown5 hgrow5 hblk5;have k5:Keeps w7 w5:=Below.grown KA.out hgrow5 KA.out.size (fun g hg=>(Oa.out.lt g hg).1);have O5:=zH (show Own w5 w7.heap.size 74 3 v5 nv1 (vtsC vs1) by simpa using hown5);clear hown5 hgrow5 hblk5;obtain ⟨A5,c5,rfl,-⟩:=O5.out.form;have s5:=SD.out _ (zK KP7.out k5))
        | (go_at_call 37;refine (MK.out w5 A5 c5 O5.out k5).mono ?_;rintro ee w8 ⟨q8,V8,S8,rfl,x8,t8,m8⟩;have X8:=zH x8;have M8:=zH m8;have FW8:=zH ((FW.out.keep k5).turn13 t8 L6.out);have s6:=SD.out _ x8.pj.kp;clear x8 t8 m8))
       clear s6 MK SD Oa AV KA LEN FW
       have FI:=zH (x_files X8.out ZB.out.1 (by simp))
       go_wp2_with fail
       refine FI.out.mono ?_
       rintro e w9 ⟨v9,rfl,f9,k9⟩
       have FN:=zH f9
       have FW:=zH (FW8.out.keep k9)
       have X9:=zH (X8.out.keep k9)
       clear f9 k9 FI FW8
       have HN:=zH (show 8+fm≤4096 by have:=HM.out;omega)
       obtain ⟨a,b,ha,hb,G6,te,tr,tv⟩:=GenV.of M6.out OKE.out OKV.out (by have:=HM.out;omega) (by have:=HM.out;omega)
       obtain ⟨a8,b8,ha8,hb8,G8,-,-,-⟩:=GenV.of M8.out OKE.out OKV1.out (by have:=HM.out;omega) (by have:=HM.out;omega)
       obtain rfl:=RedB.eq OKE.out ha ha8
       have AL:=zH (show a.length≤300 by have h1:=ha.len_le;have:=HM.out;omega)
       have nn:=fun (c c':UInt8)=>(show nmG c gn≠nmG c' (gn+1) from fun e=>absurd (nmG_inj e) (by omega))
       have GA:=zH (G6.at (M8.out.o _ (nn _ _) (nn _ _) (nn _ _)) (M8.out.o _ (nn _ _) (nn _ _) (nn _ _)) (M8.out.o _ (nn _ _) (nn _ _) (nn _ _)))
       have GB:=zH G8
       have SX8:=zH (show IsS V8 xN 20 (l.map edB) from SX6.out.at (M8.out.o xN (Ne.symm (nmG_len1 _ _ _)) (Ne.symm (nmG_len1 _ _ _)) (Ne.symm (nmG_len1 _ _ _))))
       have LK:=zH (fun (p:List UInt8×List UInt8) hp=>files_kept (p:=p) X6.out X8.out (by simp) (fun x hx hne=>by
        have hx':=hx
        simp only [List.mem_cons,List.not_mem_nil,or_false] at hx'
        rcases hx' with rfl|rfl|rfl|rfl
        · exact (M8.out.t _ hx tv).2
        · exact (M8.out.t _ hx tr).2
        · exact (M8.out.t _ hx te).2
        · exact absurd rfl hne) hp)
       have N8:=zH (show (q8.d.l.map fun f=>(f.name,f.now)).length≤9223372036854775000 by rw [List.length_map,x_num X8.out];simp)
       have N6:(q6.d.l.map fun f=>(f.name,f.now)).length=4:=by rw [List.length_map,x_num X6.out];rfl
       obtain ⟨vl,hvl,hW,hWb⟩:=FW.out
       obtain ⟨Aw,cw,rfl,hcw,-⟩:=hW.form
       obtain ⟨LL,hLL⟩:∃ LL,(q6.d.l.map fun f=>(f.name,f.now))=LL:=⟨_,rfl⟩
       rw [hLL] at hvl hW hWb N6 LK ⊢
       rw [N6]
       have H1:=zH hvl
       have H2:=zH hW
       have H3:=zH hWb
       have NL4:=zH N6
       clear hvl hW hWb FW hLL N6 hcw ha hb ha8 hb8 G6 G8 te tr tv nn
       go_wp2_with fail
       go_loopw [9] (fun i wr=>∃ j:Nat,j≤4∧i = .int .i64 (j:Int)∧Keeps w9 wr) (fun i _=>4-(intOf i).toNat)
       case atStart=>exact ⟨0,Nat.zero_le _,rfl,keeps_refl _⟩
       case round=>
        obtain ⟨j,hj,rfl,hkp⟩:=hrel
        have HK:=zH hkp
        clear hkp
        by_cases hlt:j<4
        · obtain ⟨p,hp⟩:∃ p,LL[j]? = some p:=⟨_,List.getElem?_eq_getElem (by have:=NL4.out;omega)⟩
          obtain ⟨x,hx,f0,f1_⟩:=files_cells LL vl H1.out j p hp
          have hxl:((LL.zip vl).flatMap fun p=>[strV p.1.1,p.2]).length=LL.length*2:=H2.out.1
          obtain ⟨g,hA,q0,-⟩:=(H2.out.keep HK.out).cell (j:=j*2) (by rw [hxl];have:=NL4.out;omega)
          obtain ⟨g',hg',q1,-⟩:=(H2.out.keep HK.out).cell (j:=j*2+1) (by rw [hxl];have:=NL4.out;omega)
          subst hA
          obtain rfl:g=g':=by injection hg' with hg';injection hg'
          rw [f0] at q0
          rw [f1_] at q1
          unfold strV at q0
          have OX:=zH ((H3.out j p.2 x (by rw [hp];rfl) hx).keep HK.out)
          obtain ⟨Ax,cx,rfl,-,-⟩:=OX.out.form
          obtain ⟨b8,hb,hbe⟩:=LK.out p (List.mem_of_getElem? hp)
          have FO:=zH (fileOf13_any w8.heap.size v9 _ p.1 (str p.1) rfl wr (FN.out.keep HK.out) N8.out)
          rw [hb] at FO
          have Q0:=zH q0
          have Q1:=zH q1
          have HJ:=zH hlt
          have HBE:=zH hbe
          have jj0:(0:Int)≤(j:Int):=by omega
          have jj1:(j:Int)<4:=by omega
          clear hxl f0 f1_ hg' hx hp hb hbe hlt hj
          go_wp2_with fail
          refine FO.out.mono ?_
          rintro e w10 ⟨k10,A8,c8,rfl,o8⟩
          have K10:=zH (zK HK.out k10)
          have q0:=k10.cellOf Q0.out
          have q1:=k10.cellOf Q1.out
          have O8:=zH o8
          have OX10:=zH (OX.out.keep k10)
          clear k10 o8 FO OX
          by_cases hn:p.1=xN
          · have hs:str p.1=⟨#[120]⟩:=by rw [hn];rfl
            rw [hs] at q0 ⊢
            clear hn hs
            go_wp2_with fail
            go_quiet (fail)
            go_wp2_with fail
            go_roundw
            case rel=>exact ⟨j+1,by have:=HJ.out;omega,by go_num,zK K10.out (keeps_drewN _ _)⟩
            case measure=>have:=HJ.out;simp [intOf];omega
          · obtain rfl:=HBE.out hn
            have n1:((str p.1).toList == (ByteArray.mk #[120]).toList)=false:=by rw [show (ByteArray.mk #[120])=str xN from rfl,str_eq];exact decide_eq_false hn
            have n2:((str p.1).toList != (ByteArray.mk #[120]).toList)=true:=by rw [bne,n1];rfl
            have n3:((str p.1).toList == [120])=false:=by rw [str_toList];exact beq_eq_false_iff_ne.2 hn
            have SD:=zH (fun (W:World) (kk:Keeps w10 W)=>show W.cell? ⟨g,j*2,none⟩=some (.string (str p.1))∧W.cell? ⟨g,j*2+1,none⟩=some (.slice Ax p.2.length cx)∧(convert 36 9 (.slice A8 p.2.length c8)).run Tryz.prog W = .ok (.string (str p.2)) W∧(convert 36 9 (.slice Ax p.2.length cx)).run Tryz.prog W = .ok (.string (str p.2)) W from
             ⟨kk.cellOf q0,kk.cellOf q1,run_str W 36 5 9 Tryz.underlying36 Tryz.underlying5 Tryz.underlying9 A8 p.2 _ c8 rfl (Bs.keep (Own.at_ O8.out) kk),run_str W 36 5 9 Tryz.underlying36 Tryz.underlying5 Tryz.underlying9 Ax p.2 _ cx rfl (Bs.keep (Own.at_ OX10.out) kk)⟩)
            have s0:=SD.out _ (keeps_refl _)
            clear hn q0 q1
            go_wp2_with fail
            refine wp_region_noPanic ?_
            refine wp_region_held_drew (S:=fun W=>W.cell? ⟨g,j*2,none⟩=some (.string (str p.1))∧W.cell? ⟨g,j*2+1,none⟩=some (.slice Ax p.2.length cx)∧(convert 36 9 (.slice A8 p.2.length c8)).run Tryz.prog W = .ok (.string (str p.2)) W∧(convert 36 9 (.slice Ax p.2.length cx)).run Tryz.prog W = .ok (.string (str p.2)) W) (by kernel_rfl) (SD.out _ (zD _)) (fun hHeld=>?_)
            refine wpAnyH_take (i:=0) (v:=?_) (by simp only [List.getElem?_toArray,List.getElem?_cons_succ,List.getElem?_cons_zero];rfl) (by kernel_rfl) (by kernel_rfl) (by kernel_rfl) (fun _ _ _ h=>h) (Or.inl ⟨by rfl,?_⟩) (by assumption) ?_
            rotate_left
            · (intro w hSw;(try dsimp only at hSw);go_simp;try with_reducible rfl)
            try simp only [Act.put,List.setIfInBounds_toArray,List.set_cons_zero,List.set_cons_succ]
            refine wpAnyH_take (i:=1) (v:=?_) (by simp only [List.getElem?_toArray,List.getElem?_cons_succ,List.getElem?_cons_zero];rfl) (by kernel_rfl) (by kernel_rfl) (by kernel_rfl) (fun _ _ _ h=>h) (Or.inl ⟨by rfl,?_⟩) (by assumption) ?_
            rotate_left
            · (intro w hSw;(try dsimp only at hSw);go_simp;try with_reducible rfl)
            try simp only [Act.put,List.setIfInBounds_toArray,List.set_cons_zero,List.set_cons_succ]
            refine wpAnyH_take (i:=2) (v:=?_) (by simp only [List.getElem?_toArray,List.getElem?_cons_succ,List.getElem?_cons_zero];rfl) (by kernel_rfl) (by kernel_rfl) (by kernel_rfl) (fun _ _ _ h=>h) (Or.inl ⟨by rfl,?_⟩) (by assumption) ?_
            rotate_left
            · (intro w hSw;(try dsimp only at hSw);go_simp;try with_reducible rfl)
            try simp only [Act.put,List.setIfInBounds_toArray,List.set_cons_zero,List.set_cons_succ]
            refine wpAnyH_take (i:=3) (v:=?_) (by simp only [List.getElem?_toArray,List.getElem?_cons_succ,List.getElem?_cons_zero];rfl) (by kernel_rfl) (by kernel_rfl) (by kernel_rfl) (fun _ _ _ h=>h) (Or.inl ⟨by rfl,?_⟩) (by assumption) ?_
            rotate_left
            · (intro w hSw;(try dsimp only at hSw);go_simp;try with_reducible rfl)
            try simp only [Act.put,List.setIfInBounds_toArray,List.set_cons_zero,List.set_cons_succ]
            refine wpAnyH_take (i:=4) (v:=?_) (by simp only [List.getElem?_toArray,List.getElem?_cons_succ,List.getElem?_cons_zero];rfl) (by kernel_rfl) (by kernel_rfl) (by kernel_rfl) (fun _ _ _ h=>h) (Or.inl ⟨by rfl,?_⟩) (by assumption) ?_
            rotate_left
            · (intro w hSw;(try dsimp only at hSw);go_simp;try with_reducible rfl)
            try simp only [Act.put,List.setIfInBounds_toArray,List.set_cons_zero,List.set_cons_succ]
            refine wpAnyH_take (i:=5) (v:=?_) (by simp only [List.getElem?_toArray,List.getElem?_cons_succ,List.getElem?_cons_zero];rfl) (by kernel_rfl) (by kernel_rfl) (by kernel_rfl) (fun _ _ _ h=>h) (Or.inl ⟨by rfl,?_⟩) (by assumption) ?_
            rotate_left
            · (intro w hSw;(try dsimp only at hSw);go_simp;try with_reducible rfl)
            try simp only [Act.put,List.setIfInBounds_toArray,List.set_cons_zero,List.set_cons_succ]
            refine wpAnyH_take (i:=6) (v:=?_) (by simp only [List.getElem?_toArray,List.getElem?_cons_succ,List.getElem?_cons_zero];rfl) (by kernel_rfl) (by kernel_rfl) (by kernel_rfl) (fun _ _ _ h=>h) (Or.inl ⟨by rfl,?_⟩) (by assumption) ?_
            rotate_left
            · (intro w hSw;(try dsimp only at hSw);go_simp;try with_reducible rfl)
            try simp only [Act.put,List.setIfInBounds_toArray,List.set_cons_zero,List.set_cons_succ]
            refine wpAnyH_take (i:=7) (v:=?_) (by simp only [List.getElem?_toArray,List.getElem?_cons_succ,List.getElem?_cons_zero];rfl) (by kernel_rfl) (by kernel_rfl) (by kernel_rfl) (fun _ _ _ h=>h) (Or.inl ⟨by rfl,?_⟩) (by assumption) ?_
            rotate_left
            · (intro w hSw;(try dsimp only at hSw);go_simp;try with_reducible rfl)
            try simp only [Act.put,List.setIfInBounds_toArray,List.set_cons_zero,List.set_cons_succ]
            refine wpAnyH_take (i:=8) (v:=?_) (by simp only [List.getElem?_toArray,List.getElem?_cons_succ,List.getElem?_cons_zero];rfl) (by kernel_rfl) (by kernel_rfl) (by kernel_rfl) (fun _ _ _ h=>h) (Or.inl ⟨by rfl,?_⟩) (by assumption) ?_
            rotate_left
            · (intro w hSw;(try dsimp only at hSw);go_simp;try with_reducible rfl)
            try simp only [Act.put,List.setIfInBounds_toArray,List.set_cons_zero,List.set_cons_succ]
            refine wpAnyH_take (i:=9) (v:=?_) (by simp only [List.getElem?_toArray,List.getElem?_cons_succ,List.getElem?_cons_zero];rfl) (by kernel_rfl) (by kernel_rfl) (by kernel_rfl) (fun _ _ _ h=>h) (Or.inl ⟨by rfl,?_⟩) (by assumption) ?_
            rotate_left
            · (intro w hSw;(try dsimp only at hSw);go_simp;try with_reducible rfl)
            try simp only [Act.put,List.setIfInBounds_toArray,List.set_cons_zero,List.set_cons_succ]
            refine wpAnyH_take (i:=10) (v:=?_) (by simp only [List.getElem?_toArray,List.getElem?_cons_succ,List.getElem?_cons_zero];rfl) (by kernel_rfl) (by kernel_rfl) (by kernel_rfl) (fun _ _ _ h=>h) (Or.inl ⟨by rfl,?_⟩) (by assumption) ?_
            rotate_left
            · (intro w hSw;(try dsimp only at hSw);go_simp;try with_reducible rfl)
            try simp only [Act.put,List.setIfInBounds_toArray,List.set_cons_zero,List.set_cons_succ]
            refine wpAnyH_take (i:=11) (v:=?_) (by simp only [List.getElem?_toArray,List.getElem?_cons_succ,List.getElem?_cons_zero];rfl) (by kernel_rfl) (by kernel_rfl) (by kernel_rfl) (fun _ _ _ h=>h) (Or.inl ⟨by rfl,?_⟩) (by assumption) ?_
            rotate_left
            · (intro w hSw;(try dsimp only at hSw);go_simp;try with_reducible rfl)
            try simp only [Act.put,List.setIfInBounds_toArray,List.set_cons_zero,List.set_cons_succ]
            refine wpAnyH_take (i:=12) (v:=?_) (by simp only [List.getElem?_toArray,List.getElem?_cons_succ,List.getElem?_cons_zero];rfl) (by kernel_rfl) (by kernel_rfl) (by kernel_rfl) (fun _ _ _ h=>h) (Or.inl ⟨by rfl,?_⟩) (by assumption) ?_
            rotate_left
            · (intro w hSw;(try dsimp only at hSw);go_simp;try with_reducible rfl)
            try simp only [Act.put,List.setIfInBounds_toArray,List.set_cons_zero,List.set_cons_succ]
            refine wpAnyH_take (i:=13) (v:=?_) (by simp only [List.getElem?_toArray,List.getElem?_cons_succ,List.getElem?_cons_zero];rfl) (by kernel_rfl) (by kernel_rfl) (by kernel_rfl) (fun _ _ _ h=>h) (Or.inl ⟨by rfl,?_⟩) (by assumption) ?_
            rotate_left
            · (intro w hSw;(try dsimp only at hSw);go_simp;try with_reducible rfl)
            try simp only [Act.put,List.setIfInBounds_toArray,List.set_cons_zero,List.set_cons_succ]
            refine wpAnyH_take (i:=14) (v:=?_) (by simp only [List.getElem?_toArray,List.getElem?_cons_succ,List.getElem?_cons_zero];rfl) (by kernel_rfl) (by kernel_rfl) (by kernel_rfl) (fun _ _ _ h=>h) (Or.inl ⟨by rfl,?_⟩) (by assumption) ?_
            rotate_left
            · (intro w hSw;(try dsimp only at hSw);go_simp;try with_reducible rfl)
            try simp only [Act.put,List.setIfInBounds_toArray,List.set_cons_zero,List.set_cons_succ]
            refine wpAnyH_take (i:=15) (v:=?_) (by simp only [List.getElem?_toArray,List.getElem?_cons_succ,List.getElem?_cons_zero];rfl) (by kernel_rfl) (by kernel_rfl) (by kernel_rfl) (fun _ _ _ h=>h) (Or.inl ⟨by rfl,?_⟩) (by assumption) ?_
            rotate_left
            · (intro w hSw;(try dsimp only at hSw);go_simp;try with_reducible rfl)
            try simp only [Act.put,List.setIfInBounds_toArray,List.set_cons_zero,List.set_cons_succ]
            refine wpAnyH_take (i:=16) (v:=?_) (by simp only [List.getElem?_toArray,List.getElem?_cons_succ,List.getElem?_cons_zero];rfl) (by kernel_rfl) (by kernel_rfl) (by kernel_rfl) (fun _ _ _ h=>h) (Or.inl ⟨by rfl,?_⟩) (by assumption) ?_
            rotate_left
            · (intro w hSw;(try dsimp only at hSw);go_simp;try with_reducible rfl)
            try simp only [Act.put,List.setIfInBounds_toArray,List.set_cons_zero,List.set_cons_succ]
            refine wpAnyH_take (i:=17) (v:=?_) (by simp only [List.getElem?_toArray,List.getElem?_cons_succ,List.getElem?_cons_zero];rfl) (by kernel_rfl) (by kernel_rfl) (by kernel_rfl) (fun _ _ _ h=>h) (Or.inl ⟨by rfl,?_⟩) (by assumption) ?_
            rotate_left
            · (intro w hSw;(try dsimp only at hSw);go_simp;try with_reducible rfl)
            try simp only [Act.put,List.setIfInBounds_toArray,List.set_cons_zero,List.set_cons_succ]
            refine wpAnyH_take (i:=18) (v:=?_) (by simp only [List.getElem?_toArray,List.getElem?_cons_succ,List.getElem?_cons_zero];rfl) (by kernel_rfl) (by kernel_rfl) (by kernel_rfl) (fun _ _ _ h=>h) (Or.inl ⟨by rfl,?_⟩) (by assumption) ?_
            rotate_left
            · (intro w hSw;(try dsimp only at hSw);go_simp;try with_reducible rfl)
            try simp only [Act.put,List.setIfInBounds_toArray,List.set_cons_zero,List.set_cons_succ]
            refine wpAnyH_take (i:=19) (v:=?_) (by simp only [List.getElem?_toArray,List.getElem?_cons_succ,List.getElem?_cons_zero];rfl) (by kernel_rfl) (by kernel_rfl) (by kernel_rfl) (fun _ _ _ h=>h) (Or.inl ⟨by rfl,?_⟩) (by assumption) ?_
            rotate_left
            · (intro w hSw;(try dsimp only at hSw);go_simp;try with_reducible rfl)
            try simp only [Act.put,List.setIfInBounds_toArray,List.set_cons_zero,List.set_cons_succ]
            refine wpAnyH_take (i:=20) (v:=?_) (by simp only [List.getElem?_toArray,List.getElem?_cons_succ,List.getElem?_cons_zero];rfl) (by kernel_rfl) (by kernel_rfl) (by kernel_rfl) (fun _ _ _ h=>h) (Or.inl ⟨by rfl,?_⟩) (by assumption) ?_
            rotate_left
            · (intro w hSw;(try dsimp only at hSw);go_simp;try with_reducible rfl)
            try simp only [Act.put,List.setIfInBounds_toArray,List.set_cons_zero,List.set_cons_succ]
            refine wpAnyH_done (by kernel_rfl) ?_ _
            refine NoPanic.normal ?_
            clear s0
            go_wp2_with fail
            go_roundw
            case rel=>exact ⟨j+1,by have:=HJ.out;omega,by go_num,zK K10.out (zD _)⟩
            case measure=>have:=HJ.out;simp [intOf];omega
        · obtain rfl:j=4:=by omega
          clear hlt hj
          have X10:=zH (X9.out.keep HK.out)
          have OG1:=zH (openG_any PK X10.out ZB.out.1 ZB.out.2.1 ZB.out.2.2 HN.out (by decide) gn (by have:=GI.out;omega) GA.out)
          rw [←HM.out.2.2.1] at OG1
          obtain ⟨b0,b1,b2,b3⟩:=CRX.out _ (zK K2.out X10.out.pj.kp)
          go_wp2_with fail
          refine OG1.out.mono ?_
          rintro e w11 ⟨gb,bv,bt,bh,q11,S11,rfl,g11,-,x11,t11,-⟩
          have G11:=zH g11
          have X11:=zH x11
          have OG2:=zH (openG_any PK x11 ZB.out.1 ZB.out.2.1 ZB.out.2.2 HN.out (by decide) (gn+1) (by have:=GI.out;omega) GB.out)
          rw [←HM.out.2.2.2.2.1,show ((gn+1:Nat):Int)=(gn:Int)+1 by omega] at OG2
          clear b0 b1 b2 b3 g11 x11 t11 OG1
          obtain ⟨b0,b1,b2,b3⟩:=CRX.out _ (zK K2.out X11.out.pj.kp)
          go_wp2_with fail
          refine OG2.out.mono ?_
          rintro e w12 ⟨gb2,bv2,bt2,bh2,q12,S12,rfl,g12,-,x12,t12,-⟩
          have GA12:=zH (G11.out.turn t12)
          have GB12:=zH g12
          have X12:=zH x12
          have SZ1:=zH (gsize_any (GA12.out.keep (zD w12)))
          have SZ2:=zH (gsize_any (GB12.out.keep (zD w12)))
          have MT:=zH (gmake_there (X12.out.keep (zD w12)) ZB.out.1 ZB.out.2.2 (by omega) SX8.out gn (by have:=GI.out;omega) (by simp) (Ne.symm (nmG_len1 _ _ _)) (by decide) none 0 0)
          rw [strX13] at MT
          have SD:=zH (fun (V:World) (k:Keeps w2 V)=>show V.cell? ⟨w.heap.size,1,none⟩=some (.slice Av nv cv)∧V.cell? ⟨w.heap.size,2,none⟩=some (.int .i64 (gn:Int))∧V.cell? ⟨w.heap.size+1,1,none⟩=some (.slice Av1 nv1 cv1) from ⟨(CRX.out _ (zK K2.out k)).2.1,(CRX.out _ (zK K2.out k)).2.2.1,(CRY.out _ (zK K2.out k)).2.1⟩)
          have s1:=SD.out _ X12.out.pj.kp
          clear b0 b1 b2 b3 g12 x12 t12 OG2
          go_wp2_with fail
          go_region_held3 (fun V=>V.cell? ⟨w.heap.size,1,none⟩=some (.slice Av nv cv)∧V.cell? ⟨w.heap.size,2,none⟩=some (.int .i64 (gn:Int))∧V.cell? ⟨w.heap.size+1,1,none⟩=some (.slice Av1 nv1 cv1)) (first|assumption|exact SD.out _ (zK X12.out.pj.kp (zD _))) (first
           | (go_at_call 27;refine SZ1.out.mono ?_;rintro ee w13 ⟨rfl,rfl⟩)
           | (go_at_call 27;refine SZ2.out.mono ?_;rintro ee w13 ⟨rfl,rfl⟩)
           | (go_at_call 37;refine MT.out.mono ?_;rintro ee w14 ⟨S14,rfl,x14,t14⟩;have X14:=zH x14;have T14:=zH ((Turns.of_keeps (S:=S12) (zD w12)).trans t14);have s14:=SD.out _ x14.pj.kp;clear x14 t14))
          clear s14
          have GA14:=zH (GA12.out.turn T14.out)
          have GB14:=zH (GB12.out.turn T14.out)
          have ED1:=zH (edges_any PK X14.out ZB.out.1 ZB.out.2.1 HN.out (by decide) GA14.out GA.out)
          go_wp2_with fail
          refine ED1.out.mono ?_
          rintro e w16 ⟨rfl,q16,S16,x16,t16,-⟩
          have GA16:=zH (GA14.out.turn t16)
          have GB16:=zH (GB14.out.turn t16)
          have X16:=zH x16
          have ED2:=zH (edges_any PK x16 ZB.out.1 ZB.out.2.1 HN.out (by decide) GB16.out GB.out)
          clear x16 t16 ED1
          go_wp2_with fail
          refine ED2.out.mono ?_
          rintro e w17 ⟨rfl,q17,S17,x17,t17,-⟩
          have GA17:=zH (GA16.out.turn t17)
          have GB17:=zH (GB16.out.turn t17)
          have X17:=zH x17
          clear x17 t17 ED2
          go_wp2_with fail
          go_loopw [18] (fun i wr=>∃ (j:Nat) (q:Pst) (S:Nat→Prop),j≤a.length∧i = .int .i64 (j:Int)∧ExS K w2 B (8+fm) 131072 70 50 q V8 [nmG 118 (gn+1),nmG 114 (gn+1),nmG 101 (gn+1),nmG 118 gn,nmG 114 gn,nmG 101 gn,xN] S wr∧GrAt wr S B (nmG 101 gn) (nmG 114 gn) (nmG 118 gn) nv gb bv bt bh∧GrAt wr S B (nmG 101 (gn+1)) (nmG 114 (gn+1)) (nmG 118 (gn+1)) nv1 gb2 bv2 bt2 bh2) (fun i _=>a.length-(intOf i).toNat)
          case atStart=>exact ⟨0,q17,S17,Nat.zero_le _,rfl,X17.out,GA17.out,GB17.out⟩
          case round=>
           obtain ⟨j,q,S,hj,rfl,hx,hg1,hg2⟩:=hrel
           have XQ:=zH hx
           have G1Q:=zH hg1
           have G2Q:=zH hg2
           clear hx hg1 hg2
           by_cases hlt:j<a.length
           · obtain ⟨x,hx⟩:∃ x,a[j]? = some x:=⟨_,List.getElem?_eq_getElem hlt⟩
             have E1:=zH (edge_yes PK XQ.out ZB.out.1 ZB.out.2.1 HN.out (by decide) G1Q.out GA.out hx)
             have HX:=zH hx
             have HJ:=zH hlt
             have j1:(j:Int)<(a.length:Int):=by omega
             have j2:(a.length:Int)≤300:=by have:=AL.out;omega
             have j0:(0:Int)≤(j:Int):=by omega
             unfold edG at E1
             clear hx hlt hj
             go_wp2_with fail
             refine E1.out.mono ?_
             rintro e w20 ⟨rfl,q20,S20,x20,t20,-⟩
             have kx:=zA w20 (.cells #[.int .u32 (x.t:Int), .int .u32 (x.h:Int), .int .u64 (x.x:Int), .int .u32 (x.m:Int)] 42)
             have YA:=zH (EdBox.new w20 42 x)
             have G1R:=zH ((G1Q.out.turn t20).keep kx)
             have G2R:=zH ((G2Q.out.turn t20).keep kx)
             have XR:=zH (x20.keep kx)
             have NL:=zH (show ¬ S20 w20.heap.size from x20.lt (Nat.le_refl _))
             have E2:=zH (edge_yes PK XR.out ZB.out.1 ZB.out.2.1 HN.out (by decide) G2R.out GB.out HX.out)
             unfold edG at E2
             clear x20 t20 kx E1
             go_wp2_with fail
             refine E2.out.mono ?_
             rintro e w21 ⟨rfl,q21,S21,x21,t21,-⟩
             have ky:=zA w21 (.cells #[.int .u32 (x.t:Int), .int .u32 (x.h:Int), .int .u64 (x.x:Int), .int .u32 (x.m:Int)] 42)
             have YA2:=(YA.out.box.turned t21 NL.out).keep ky
             obtain ⟨y0,y1,y2,y3⟩:=EdBox.cells ⟨YA2⟩
             obtain ⟨z0,z1,z2,z3⟩:=(EdBox.new w21 42 x).cells
             have G1S:=zH ((G1R.out.turn t21).keep ky)
             have G2S:=zH ((G2R.out.turn t21).keep ky)
             have XS:=zH (x21.keep ky)
             clear x21 t21 ky YA2 E2
             go_wp2_with fail
             go_roundw
             case rel=>exact ⟨j+1,q21,S21,by have:=HJ.out;omega,by go_num,XS.out,G1S.out,G2S.out⟩
             case measure=>have:=HJ.out;simp [intOf];omega
           · obtain rfl:j=a.length:=by omega
             have KW:=zH (zK (zK KB.out K2.out) XQ.out.pj.kp)
             clear hlt hj
             go_wp2_with fail
             refine (WK.out _ KW.out).mono ?_
             rintro e w3 ⟨rfl,k3⟩
             have K3:=zH (zK KW.out k3)
             clear k3
             go_wp2_with fail
             go_ret
             exact ⟨rfl,K3.out⟩
     · have g0:(g<0∧decide (g<0)=true)∨(decide (g<0)=false∧(1048576:Int)≤g∧0≤g):=by
        by_cases h:g<0
        · exact .inl ⟨h,decide_eq_true h⟩
        · exact .inr ⟨decide_eq_false h,by omega,by omega⟩
       clear hg h11
       rcases g0 with ⟨g0,g2⟩|⟨g0,g2,g3⟩
       all_goals
        go_enter Tryz.func7,Tryz.ntmps7
        go_wp2_with fail
        refine (VAX.out _).mono ?_
        rintro e w1 ⟨rfl,k1⟩
        have K1:=zH k1
        clear k1
        obtain ⟨d4,d5,d6,d7⟩:=CRY.out _ K1.out
        go_wp2_with fail
        refine (VAY.out _).mono ?_
        rintro e w2 ⟨rfl,k2⟩
        have KW:=zH (zK KB.out (zK K1.out k2))
        obtain ⟨-,-,e2,-⟩:=CRX.out _ (zK K1.out k2)
        clear k2
        go_wp2_with fail
        refine (WK.out _ KW.out).mono ?_
        rintro e w3 ⟨rfl,k3⟩
        have K3:=zH (zK KW.out k3)
        clear k3
        go_wp2_with fail
        go_ret
        exact ⟨rfl,K3.out⟩
end Go.Proofs.YtjmkagakdhhigaaGreatDoor
