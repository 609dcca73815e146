/- StoreAgrees: each edge is among those of its tail, and of its head, once, and no other is. (Written by mkst4.py.) -/
import Derived.Test.YtjmkagakdhhigaaGreatDoorQOpenNet
set_option linter.unusedVariables false
set_option linter.unusedSimpArgs false
set_option maxRecDepth 100000
namespace Go.Proofs.YtjmkagakdhhigaaGreatDoor
open Go.RowKit Go.Sort
theorem edsC_snoc13 {a:List Ed} {j:Nat} {x:Ed} (hx:a[j]? = some x):edsC (a.take j)++edC x=edsC (a.take (j+1)):=by
 obtain ⟨h1,h2⟩:=List.getElem?_eq_some_iff.1 hx
 rw [List.take_succ_eq_append_getElem h1,h2]
 simp [edsC]
theorem rise_nextS {hd:Bool} {l:List Ed} (h:RiseB hd l) {i:Nat} {a b:Ed} (ha:l[i]? = some a) (hb:l[i+1]? = some b):ahB hd a b=true:=by
 obtain ⟨h1,e1⟩:=List.getElem?_eq_some_iff.1 ha
 obtain ⟨h2,e2⟩:=List.getElem?_eq_some_iff.1 hb
 have:=(List.pairwise_iff_getElem.1 h) i (i+1) h1 h2 (by omega)
 rwa [e1,e2] at this
theorem gr_ed:140≠42:=by decide
theorem MadeAt.grown {K:DiskOk} {wb w w':World} {B:PB} {N g gb bv bt bh:Nat} {a b:List Ed} {vs:List Vt} {q:Pst} {V:Vw} {S:Nat→Prop} (M:MadeAt K wb B N g a b vs gb bv bt bh q V S w) {base n:Nat} {u:Value} {xs:List Value} (o:Own w base 42 4 u n xs) (hb:wb.heap.size≤base) (far:∀ g,u.ownBlock=some g→¬ S g) (h:w.grownBy w' u.ownBlock):MadeAt K wb B N g a b vs gb bv bt bh q V S w':=
 ⟨M.ex.only (grown_only h) (fun i e=>Nat.le_trans hb (o.lt i e).1) (fun i hi e=>far i e hi),⟨M.gr.box.grownX h (o.not_boxS M.gr.box gr_ed),Box.grownX M.gr.v h (o.not_boxS M.gr.v str_ed),Box.grownX M.gr.t h (o.not_boxS M.gr.t str_ed),Box.grownX M.gr.h h (o.not_boxS M.gr.h str_ed),M.gr.ng,M.gr.nv,M.gr.nt,M.gr.nh⟩,M.gn,M.te,M.tr,M.tv⟩
set_option maxHeartbeats 64000000 in
theorem agrees13_walk (K:DiskOk) (PK:PageOk) (w:World) (hZ:K.Z w) (hS:Sizes w) (hT:PowT w) (x:NetS) (hx:NetOk w x) :
 Calls Tryz.prog 5 #[.agg (netA x)] w (Yes12 w):=by
 have WK:=zH (fun (W:World) (k:Keeps w W)=>works13 K PK W (K.keep hZ k) (hS.keep k) (hT.keep k))
 have MD:=zH (fun (W:World) (k:Keeps w W) (h1:x.m≤300) (h2:x.nv≤100)=>made13_any K PK W (K.keep hZ k) (hS.keep k) (hT.keep k) x (hx.keep k) h1 h2)
 have VA:=zH (fun W=>vast13_any x W)
 obtain ⟨A0,m,c,Av,nv,cv,g,f,l,vs⟩:=x
 obtain ⟨h1,h2,h3,h4,h5,h6,h7,h8,h9,h10,h11,h12⟩:=hx
 simp only at h1 h2 h3 h4 h5 h6 h7 h8 h9 h10 h11 h12
 unfold netA at *
 have kb:=zA w (.cells #[.slice A0 m c, .slice Av nv cv, .int .i64 g, .int .u8 (f:Int)] 49)
 have B1:=zH (show Box (w.alloc (.cells #[.slice A0 m c, .slice Av nv cv, .int .i64 g, .int .u8 (f:Int)] 49)) w.heap.size 49 #[.slice A0 m c, .slice Av nv cv, .int .i64 g, .int .u8 (f:Int)] from Box.new _ _ _)
 have CR:=zH (fun (V:World) (k:Keeps (w.alloc (.cells #[.slice A0 m c, .slice Av nv cv, .int .i64 g, .int .u8 (f:Int)] 49)) V)=>show V.cell? ⟨w.heap.size,0,none⟩=some (.slice A0 m c)∧V.cell? ⟨w.heap.size,1,none⟩=some (.slice Av nv cv)∧V.cell? ⟨w.heap.size,2,none⟩=some (.int .i64 g)∧V.cell? ⟨w.heap.size,3,none⟩=some (.int .u8 (f:Int)) from ⟨(B1.out.keep k).cell 0 rfl,(B1.out.keep k).cell 1 rfl,(B1.out.keep k).cell 2 rfl,(B1.out.keep k).cell 3 rfl⟩)
 obtain ⟨c0,c1,c2,c3⟩:=CR.out _ (keeps_refl _)
 have KB:=zH kb
 have HB:=zH h4
 have HZ:=zH hZ
 have HS:=zH hS
 have OKE:=zH h5
 obtain ⟨i0,hi,hz0,hz1,hz2⟩:=info_parts info_edge13
 have VA:=zH (VA.out (w.alloc (.cells #[.slice A0 m c, .slice Av nv cv, .int .i64 g, .int .u8 (f:Int)] 49)))
 by_cases h6':300<m∨100<nv
 · rw [decide_eq_true (show 300<(NetS.mk A0 m c Av nv cv g f l vs).m∨100<(NetS.mk A0 m c Av nv cv g f l vs).nv from h6')] at VA
   clear h1 h2 h3 h4 h5 h6 h7 h8 h9 h10 h11 h12 h6' hZ hS hT kb
   go_enter Tryz.func5,Tryz.ntmps5
   go_wp2_with fail
   refine VA.out.mono ?_
   rintro e w1 ⟨rfl,k1⟩
   have K1:=zH (zK KB.out k1)
   clear k1
   go_wp2_with fail
   refine (WK.out _ K1.out).mono ?_
   rintro e w2 ⟨rfl,k2⟩
   have K2:=zH (zK K1.out k2)
   clear k2
   go_wp2_with fail
   go_ret
   exact ⟨rfl,K2.out⟩
 · rw [decide_eq_false (show ¬ (300<(NetS.mk A0 m c Av nv cv g f l vs).m∨100<(NetS.mk A0 m c Av nv cv g f l vs).nv) from h6')] at VA
   have HM:=zH (show m=l.length∧m≤300∧nv=vs.length∧nv≤100 from ⟨h1,by omega,h6,by omega⟩)
   have hm3:(m:Int)≤300:=by omega
   have hv1:(nv:Int)≤100:=by omega
   clear h1 h2 h3 h4 h5 h6 h7 h8 h9 h10 h11 h12 h6' hZ hS hT kb
   go_enter Tryz.func5,Tryz.ntmps5
   go_wp2_with fail
   refine VA.out.mono ?_
   rintro e w1 ⟨rfl,k1⟩
   have K1:=zH k1
   clear k1 c0 c1 c2 c3 VA
   go_wp2_with fail
   go_loopw [3] (fun i wr=>∃ j:Nat,j≤m∧i = .int .i64 (j:Int)∧Keeps (w.alloc (.cells #[.slice A0 m c, .slice Av nv cv, .int .i64 g, .int .u8 (f:Int)] 49)) wr∧(∀ k x,k<j→l[k]? = some x→x.t<nv∧x.h<nv)) (fun i _=>m-(intOf i).toNat)
   case atStart=>exact ⟨0,Nat.zero_le _,rfl,K1.out,fun k x h=>by omega⟩
   case round=>
    obtain ⟨j,hj,rfl,hkp,hin⟩:=hrel
    have KP:=zH hkp
    have HIN:=zH hin
    obtain ⟨c0,c1,c2,c3⟩:=CR.out _ hkp
    clear hkp hin
    by_cases hlt:j<m
    · obtain ⟨x,hx⟩:∃ x,l[j]? = some x:=⟨_,List.getElem?_eq_getElem (by have:=HM.out;omega)⟩
      obtain ⟨ad,hA,-,hE⟩:=eds_at HB.out hx
      subst hA
      obtain ⟨x0,x1,x2,x3⟩:=hE.keep (zK KB.out KP.out)
      have okx:=OKE.out x (List.mem_of_getElem? hx)
      have j0:(0:Int)≤(j:Int):=by omega
      have j1:(j:Int)<(m:Int):=by omega
      have HJ:=zH hlt
      have HX:=zH hx
      have wt:wrap64 (x.t:Int)=(x.t:Int):=IntWalk.wrap64_in _ ⟨by omega,by have:=okx.t;omega⟩
      have wh:wrap64 (x.h:Int)=(x.h:Int):=IntWalk.wrap64_in _ ⟨by omega,by have:=okx.h;omega⟩
      by_cases ht:x.t<nv
      · by_cases hh:x.h<nv
        · have u1:(x.t:Int)<(nv:Int):=by omega
          have u2:(x.h:Int)<(nv:Int):=by omega
          have u3:decide ((nv:Int)≤wrap64 (x.t:Int))=false:=decide_eq_false (by rw [wt];omega)
          have u4:decide ((nv:Int)≤wrap64 (x.h:Int))=false:=decide_eq_false (by rw [wh];omega)
          have u5:decide (nv≤x.t)=false:=decide_eq_false (by omega)
          have u6:decide (nv≤x.h)=false:=decide_eq_false (by omega)
          have u7:(x.t:Int)<100:=by omega
          have u8:(x.h:Int)<100:=by omega
          have NX:=zH (show ∀ k y,k<j+1→l[k]? = some y→y.t<nv∧y.h<nv from fun k y hk hy=>by
           by_cases e:k=j
           · subst e
             rw [HX.out] at hy
             obtain rfl:=Option.some.inj hy
             exact ⟨ht,hh⟩
           · exact HIN.out k y (by omega) hy)
          clear okx hlt hj hx hE wt wh ht hh
          go_wp2_with fail
          go_quiet (fail)
          go_wp2_with fail
          go_roundw
          case rel=>exact ⟨j+1,by have:=HJ.out;omega,by go_num,zK KP.out (keeps_drewN _ _),NX.out⟩
          case measure=>have:=HJ.out;simp [intOf];omega
        · have u1:(x.t:Int)<(nv:Int):=by omega
          have u3:decide ((nv:Int)≤wrap64 (x.t:Int))=false:=decide_eq_false (by rw [wt];omega)
          have u4:decide ((nv:Int)≤wrap64 (x.h:Int))=true:=decide_eq_true (by rw [wh];omega)
          have u4':(nv:Int)≤wrap64 (x.h:Int):=by rw [wh];omega
          have u5:decide (nv≤x.t)=false:=decide_eq_false (by omega)
          have u6:decide (nv≤x.h)=true:=decide_eq_true (by omega)
          have u7:(x.t:Int)<100:=by omega
          clear okx hlt hj hx hE wt wh ht hh
          go_wp2_with fail
          go_quiet (fail)
          have K9:=zH (zK KB.out (zK KP.out (keeps_drewN wr nq)))
          clear c0 c1 c2 c3 x0 x1 x2 x3
          generalize wr.drewN nq=w9 at *
          go_wp2_with fail
          refine (WK.out _ K9.out).mono ?_
          rintro e w3 ⟨rfl,k3⟩
          have K3:=zH (zK K9.out k3)
          clear k3
          go_wp2_with fail
          go_ret
          exact ⟨rfl,K3.out⟩
      · have u3:decide ((nv:Int)≤wrap64 (x.t:Int))=true:=decide_eq_true (by rw [wt];omega)
        have u4':(nv:Int)≤wrap64 (x.t:Int):=by rw [wt];omega
        have u5:decide (nv≤x.t)=true:=decide_eq_true (by omega)
        clear okx hlt hj hx hE wt wh ht
        go_wp2_with fail
        go_quiet (fail)
        have K9:=zH (zK KB.out (zK KP.out (keeps_drewN wr nq)))
        clear c0 c1 c2 c3 x0 x1 x2 x3
        generalize wr.drewN nq=w9 at *
        go_wp2_with fail
        refine (WK.out _ K9.out).mono ?_
        rintro e w3 ⟨rfl,k3⟩
        have K3:=zH (zK K9.out k3)
        clear k3
        go_wp2_with fail
        go_ret
        exact ⟨rfl,K3.out⟩
    · obtain rfl:j=m:=by omega
      have INN:=zH (show ∀ e∈l,e.t<nv∧e.h<nv from fun e he=>by
       obtain ⟨k,hk⟩:=List.getElem?_of_mem he
       exact HIN.out k e (by have:=(List.getElem?_eq_some_iff.1 hk).1;have:=HM.out;omega) hk)
      have MM:=zH (MD.out wr (zK KB.out KP.out) (by have:=HM.out;omega) (by have:=HM.out;omega))
      clear hlt hj HIN
      go_wp2_with fail
      refine MM.out.mono ?_
      rintro e w2 (⟨hbad,rfl,k2⟩|⟨wb,B,gn,a,b,gb,bv,bt,bh,q,V,S,hg,hgn,rfl,kwb,ha,hb,MA⟩)
      · have K2:=zH (zK KB.out (zK KP.out k2))
        clear k2 c0 c1 c2 c3 hbad
        go_wp2_with fail
        refine (WK.out _ K2.out).mono ?_
        rintro e w3 ⟨rfl,k3⟩
        have K3:=zH (zK K2.out k3)
        clear k3
        go_wp2_with fail
        go_ret
        exact ⟨rfl,K3.out⟩
      · have hN:8+f%40≤4096:=by omega
        have HN:=zH hN
        have RA:=zH (show RedB false l a from ha)
        have RB:=zH (show RedB true l b from hb)
        have AL:=zH (show a.length≤300∧b.length=a.length by have h1:=RA.out.len_le;have h2:=red_len OKE.out RA.out RB.out;have:=HM.out;exact ⟨by omega,h2⟩)
        have MA0:=zH (show MadeAt K wb B (8+f%40) gn a b vs gb bv bt bh q V S w2 from MA)
        have ZB:=zH (show K.Z wb∧Sizes wb from ⟨K.keep HZ.out (zK (zK KB.out KP.out) kwb),HS.out.keep (zK (zK KB.out KP.out) kwb)⟩)
        have KWB:=zH (zK (zK KB.out KP.out) kwb)
        have SE:=zH (fun (q':Pst) (S':Nat→Prop) (W:World) (M:MadeAt K wb B (8+f%40) gn a b vs gb bv bt bh q' V S' W)=>edges_any PK M.ex ZB.out.1 ZB.out.2 HN.out (by decide) M.gr M.gn)
        have EY:=zH (fun (q':Pst) (S':Nat→Prop) (W:World) (M:MadeAt K wb B (8+f%40) gn a b vs gb bv bt bh q' V S' W) (i:Nat) (x:Ed) (h:a[i]? = some x)=>edge_yes PK M.ex ZB.out.1 ZB.out.2 HN.out (by decide) M.gr M.gn h)
        have OY:=zH (fun (q':Pst) (S':Nat→Prop) (W:World) (M:MadeAt K wb B (8+f%40) gn a b vs gb bv bt bh q' V S' W) (v:Nat) (hv:v<vs.length) (h100:vs.length≤100)=>out_yes PK M.ex ZB.out.1 ZB.out.2 HN.out (by decide) M.gr M.gn v (by omega) hv (by omega))
        have IY:=zH (fun (q':Pst) (S':Nat→Prop) (W:World) (M:MadeAt K wb B (8+f%40) gn a b vs gb bv bt bh q' V S' W) (v:Nat) (hv:v<vs.length) (h100:vs.length≤100)=>in_yes PK M.ex ZB.out.1 ZB.out.2 HN.out (by decide) M.gr M.gn v (by omega) hv (by omega))
        have hal:(a.length:Int)≤300:=by have:=AL.out;omega
        clear hN ha hb MA kwb hg hgn c0 c1 c2 c3
        go_wp2_with fail
        refine (SE.out q S w2 MA0.out).mono ?_
        rintro e w3 ⟨rfl,st3⟩
        obtain ⟨q3,S3,m3,-⟩:=MA0.out.stays st3
        have M3:=zH m3
        clear st3 m3
        go_wp2_with fail
        go_loopw [9,10] (fun u i wr=>∃ (j:Nat) (q:Pst) (S:Nat→Prop),j≤a.length∧i = .int .i64 (j:Int)∧Own wr w3.heap.size 42 4 u j (edsC (a.take j))∧(∀ g,u.ownBlock=some g→¬ S g)∧MadeAt K wb B (8+f%40) gn a b vs gb bv bt bh q V S wr∧w3.heap.size≤wr.heap.size) (fun _ i _=>a.length-(intOf i).toNat)
        case atStart=>exact ⟨0,q3,S3,Nat.zero_le _,rfl,Own.nil _ _ _ _,fun g hg=>by simp [Value.ownBlock] at hg,M3.out,Nat.le_refl _⟩
        case round=>
         obtain ⟨i,q4,S4,hil,rfl,ho,hfr,hma,hsz⟩:=hrel
         have O4:=zH ho
         have F4:=zH hfr
         have M4:=zH hma
         have SZ4:=zH hsz
         obtain ⟨Au,cu,rfl,hcu,-,-,-⟩:=ho.form
         clear ho hfr hma hsz
         by_cases hlt:i<a.length
         · obtain ⟨x,hx⟩:∃ x,a[i]? = some x:=⟨_,List.getElem?_eq_getElem hlt⟩
           have ED:=zH (EY.out q4 S4 wr M4.out i x hx)
           have HX:=zH hx
           have HI:=zH hlt
           have ii1:(i:Int)<(a.length:Int):=by omega
           have ii2:(i:Int)<300:=by have:=AL.out;omega
           unfold edG at ED
           clear hx hlt hil
           go_wp2_with fail
           refine ED.out.mono ?_
           rintro e w5 ⟨rfl,q5,S5,h5,t5,st5⟩
           have M5:=zH (M4.out.next h5 t5 st5)
           obtain ⟨o5,f5⟩:=own_far O4.out F4.out t5
           have O5:=zH o5
           have F5:=zH f5
           have SZ5:=zH (Nat.le_trans SZ4.out t5.only.size)
           have kx:=zA w5 (.cells #[.int .u32 (x.t:Int), .int .u32 (x.h:Int), .int .u64 (x.x:Int), .int .u32 (x.m:Int)] 42)
           have YB:=EdBox.new w5 42 x
           obtain ⟨y0,y1,y2,y3⟩:=YB.cells
           have AT:=zH (show At ((w5.alloc (.cells #[.int .u32 (x.t:Int), .int .u32 (x.h:Int), .int .u64 (x.x:Int), .int .u32 (x.m:Int)] 42)).alloc (.cells #[.int .u32 (x.t:Int), .int .u32 (x.h:Int), .int .u64 (x.x:Int), .int .u32 (x.m:Int)] 42)) (w5.heap.size+2) (some ⟨w5.heap.size+1,0,none⟩) (edC x) by
            have h:=At.new (w5.alloc (.cells #[.int .u32 (x.t:Int), .int .u32 (x.h:Int), .int .u64 (x.x:Int), .int .u32 (x.m:Int)] 42)) (edC x) 42 (w5.heap.size+2) (by simp)
            rw [World.size_alloc] at h
            exact h)
           have OW:=zH (O5.out.keep kx)
           have MW:=zH (M5.out.keep kx)
           have KX:=zH kx
           have ML:=zH (show i≤300 by have:=AL.out;have:=HI.out;omega)
           clear h5 t5 st5 o5 f5 kx YB ED
           go_wp2_with (at_builtin;refine wpList_app _ rfl _ _ 22 rfl w3.heap.size 42 i0 (.agg #[.int .u32 0, .int .u32 0, .int .u64 0, .int .u32 0]) 4 24 Tryz.underlying22 hi hz0 hz1 hz2 rfl (by decide) _ i (edsC (a.take i)) rfl (OW.out.keep (zA _ _)) _ _ 1 1 (edC x) rfl rfl AT.out (by intro u hu;exact edsC_ones [x] u (by simpa [edsC] using hu)) (by have:=ML.out;unfold maxLen;omega) (by have:=ML.out;omega) (Nat.le_trans SZ5.out (zK KX.out (zA _ _)).size) ?_)
           intro v8 w8 o8 g8 b8
           have ka:=zA (w5.alloc (.cells #[.int .u32 (x.t:Int), .int .u32 (x.h:Int), .int .u64 (x.x:Int), .int .u32 (x.m:Int)] 42)) (.cells #[.int .u32 (x.t:Int), .int .u32 (x.h:Int), .int .u64 (x.x:Int), .int .u32 (x.m:Int)] 42)
           have M8:=zH ((MW.out.keep ka).grown (OW.out.keep ka) M3.out.ex.pj.kp.size F5.out g8)
           have F8:=zH (far_grown (MW.out.ex.keep ka) F5.out (by simp) b8)
           have O8:=zH (show Own w8 w3.heap.size 42 4 v8 (i+1) (edsC (a.take (i+1))) by rw [←edsC_snoc13 HX.out];exact o8)
           have SZ8:=zH (show w3.heap.size≤w8.heap.size from Nat.le_trans SZ5.out (Nat.le_trans (zK KX.out ka).size (grown_only g8).size))
           clear o8 g8 b8 ka y0 y1 y2 y3
           go_wp2_with fail
           refine ⟨⟨i+1,q5,S5,by have:=HI.out;omega,by go_num,O8.out,F8.out,M8.out,SZ8.out⟩,?_⟩
           have:=HI.out
           (simp [intOf];try omega)
         · obtain rfl:i=a.length:=by omega
           have OA:=zH (show Own wr w3.heap.size 42 4 (.slice Au a.length cu) a.length (edsC a) from by have:=O4.out;rwa [List.take_length] at this)
           clear O4 hlt hil hcu
           rename World=>w9
           have hvl:(vs.length:Int)≤100:=by have:=HM.out;omega
           go_wp2_with fail
           go_loopw [13,14,15] (fun o i vv wr=>∃ (v:Nat) (q:Pst) (S:Nat→Prop),v≤vs.length∧o = .int .i64 (belowE false v a:Int)∧i = .int .i64 (belowE true v b:Int)∧vv = .int .i64 (v:Int)∧MadeAt K wb B (8+f%40) gn a b vs gb bv bt bh q V S wr∧Own wr w3.heap.size 42 4 (.slice Au a.length cu) a.length (edsC a)∧(∀ g,(Value.slice Au a.length cu).ownBlock=some g→¬ S g)) (fun _ _ vv _=>vs.length-(intOf vv).toNat)
           case atStart=>exact ⟨0,q4,S4,Nat.zero_le _,by rw [belowE_zero];rfl,by rw [belowE_zero];rfl,rfl,M4.out,OA.out,F4.out⟩
           case round=>
            obtain ⟨v,q5,S5,hvl',rfl,rfl,rfl,hm,ho,hf⟩:=hrel
            have M5:=zH hm
            have OA5:=zH ho
            have FA5:=zH hf
            have b1:(belowE false v a:Int)≤300:=by have:=belowE_le false v a;have:=AL.out;omega
            have b2:(belowE true v b:Int)≤300:=by have:=belowE_le true v b;have:=AL.out;omega
            have b3:(0:Int)≤(belowE false v a:Int):=by omega
            have b4:(0:Int)≤(belowE true v b:Int):=by omega
            have SZ:=zH (gsize_any hm.gr)
            clear hm ho hf
            by_cases hlt:v<vs.length
            · have OU:=zH (OY.out q5 S5 wr M5.out v hlt (by have:=HM.out;omega))
              have v0:(0:Int)≤(v:Int):=by omega
              have v1:(v:Int)<(vs.length:Int):=by omega
              have v2:(v:Int)<100:=by omega
              have hwv:IntKind.u32.wrap (v:Int)=(v:Int):=IntWalk.u32_in _ ⟨by omega,by omega⟩
              have HV:=zH hlt
              clear hlt hvl'
              go_wp2_with fail
              refine SZ.out.mono ?_
              rintro e w4 ⟨rfl,rfl⟩
              clear SZ
              go_wp2_with fail
              refine OU.out.mono ?_
              rintro e w5 ⟨u1,q6,S6,rfl,o1,f1,x1,t1,st1⟩
              have M6:=zH (M5.out.next x1 t1 st1)
              obtain ⟨oa6,fa6⟩:=own_far OA5.out FA5.out t1
              have OA5':=zH oa6
              have FA5':=zH fa6
              obtain ⟨A1,u1c,rfl,-,-,-,-⟩:=o1.form
              have O1':=zH o1
              have F1':=zH f1
              have IU:=zH (IY.out q6 S6 w5 M6.out v HV.out (by have:=HM.out;omega))
              clear o1 f1 x1 t1 st1 oa6 fa6 OU
              go_wp2_with fail
              refine IU.out.mono ?_
              rintro e w6 ⟨u2,q7,S7,rfl,o2,f2,x2,t2,st2⟩
              have M7:=zH (M6.out.next x2 t2 st2)
              obtain ⟨oa7,fa7⟩:=own_far OA5'.out FA5'.out t2
              have OA6:=zH oa7
              have FA6:=zH fa7
              obtain ⟨o1,f1⟩:=own_far O1'.out F1'.out t2
              have O1:=zH o1
              obtain ⟨A2,u2c,rfl,-,-,-,-⟩:=o2.form
              have O2:=zH o2
              have LN:=zH (show (outE false v a).length≤300∧(outE true v b).length≤300 by have:=outE_len false v a;have:=outE_len true v b;have:=AL.out;omega)
              have ln1:((outE false v a).length:Int)≤300:=by have:=LN.out;omega
              have ln2:((outE true v b).length:Int)≤300:=by have:=LN.out;omega
              have SUM:=zH (show belowE false (v+1) a=belowE false v a+(outE false v a).length∧belowE true (v+1) b=belowE true v b+(outE true v b).length from ⟨belowE_succ _ _ _,belowE_succ _ _ _⟩)
              clear o1 f1 o2 f2 x2 t2 st2 oa7 fa7 IU
              go_wp2_with fail
              go_loopw [20] (fun i wr=>∃ i':Nat,i'≤(outE false v a).length∧i = .int .i64 (i':Int)∧Keeps w6 wr) (fun i _=>(outE false v a).length-(intOf i).toNat)
              case atStart=>exact ⟨0,Nat.zero_le _,rfl,keeps_refl _⟩
              case round=>
               obtain ⟨i,hil,rfl,hk6⟩:=hrel
               have K6:=zH hk6
               clear hk6
               by_cases hlt:i<(outE false v a).length
               · obtain ⟨x,hx⟩:∃ x,(outE false v a)[i]? = some x:=⟨_,List.getElem?_eq_getElem hlt⟩
                 obtain ⟨hxm,hxe⟩:=outE_mem.1 (List.mem_of_getElem? hx)
                 have hxa:x∈a:=hxm
                 obtain ⟨ix,hone⟩:=once_rise RA.out.rise hxa
                 obtain ⟨ad,hA,-,hE⟩:=eds_at (Own.at_ O1.out) hx
                 subst hA
                 obtain ⟨xt,xh,xx,xm⟩:=x
                 have hxe:xt=v:=hxe
                 subst xt
                 have HE:=zH hE
                 have HI:=zH hlt
                 have HXX:=zH hx
                 have CT:=zH (fun (W:World) (k:Keeps w6 W)=>count13_any (c:=cu) (Own.at_ (OA6.out.keep k)) rfl (by have:=AL.out;omega) hone)
                 unfold edG at CT
                 simp only at CT
                 have i1:(i:Int)<((outE false v a).length:Int):=by omega
                 have i2:(i:Int)<300:=by have:=LN.out;omega
                 clear hxm hxa hone hE hx hlt hil
                 rcases i with _|i
                 · have SD:=zH (fun (W:World) (kk:Keeps w6 W)=>show W.cell? ad=some (.int .u32 (v:Int))∧W.cell? ⟨ad.block,ad.off+1,none⟩=some (.int .u32 (xh:Int))∧W.cell? ⟨ad.block,ad.off+2,none⟩=some (.int .u64 (xx:Int))∧W.cell? ⟨ad.block,ad.off+3,none⟩=some (.int .u32 (xm:Int)) from (show EdIn W ad ⟨v,xh,xx,xm⟩ from HE.out.keep kk))
                   have s0:=SD.out _ K6.out
                   rw [show ((0:Nat):Int)=0 from rfl] at i1 i2 ⊢
                   go_wp2_with fail
                   refine wp_region_noPanic ?_
                   refine wp_region_held_drew (S:=fun W=>W.cell? ad=some (.int .u32 (v:Int))∧W.cell? ⟨ad.block,ad.off+1,none⟩=some (.int .u32 (xh:Int))∧W.cell? ⟨ad.block,ad.off+2,none⟩=some (.int .u64 (xx:Int))∧W.cell? ⟨ad.block,ad.off+3,none⟩=some (.int .u32 (xm:Int))) (by kernel_rfl) (SD.out _ (zK K6.out (zD _))) (fun hHeld=>?_)
                   refine wpAnyH_take (i:=0) (v:=?_) (by simp only [List.getElem?_toArray,List.getElem?_cons_succ,List.getElem?_cons_zero];rfl) (by kernel_rfl) (by kernel_rfl) (by kernel_rfl) (fun _ _ _ h=>h) (Or.inl ⟨by rfl,?_⟩) (by assumption) ?_
                   rotate_left
                   · (intro w hSw;(try dsimp only at hSw);go_simp;try with_reducible rfl)
                   try simp only [Act.put,List.setIfInBounds_toArray,List.set_cons_zero,List.set_cons_succ]
                   refine wpAnyH_take (i:=1) (v:=?_) (by simp only [List.getElem?_toArray,List.getElem?_cons_succ,List.getElem?_cons_zero];rfl) (by kernel_rfl) (by kernel_rfl) (by kernel_rfl) (fun _ _ _ h=>h) (Or.inl ⟨by rfl,?_⟩) (by assumption) ?_
                   rotate_left
                   · (intro w hSw;(try dsimp only at hSw);go_simp;try with_reducible rfl)
                   try simp only [Act.put,List.setIfInBounds_toArray,List.set_cons_zero,List.set_cons_succ]
                   refine wpAnyH_take (i:=2) (v:=?_) (by simp only [List.getElem?_toArray,List.getElem?_cons_succ,List.getElem?_cons_zero];rfl) (by kernel_rfl) (by kernel_rfl) (by kernel_rfl) (fun _ _ _ h=>h) (Or.inl ⟨by rfl,?_⟩) (by assumption) ?_
                   rotate_left
                   · (intro w hSw;(try dsimp only at hSw);go_simp;try with_reducible rfl)
                   try simp only [Act.put,List.setIfInBounds_toArray,List.set_cons_zero,List.set_cons_succ]
                   refine wpAnyH_take (i:=3) (v:=?_) (by simp only [List.getElem?_toArray,List.getElem?_cons_succ,List.getElem?_cons_zero];rfl) (by kernel_rfl) (by kernel_rfl) (by kernel_rfl) (fun _ _ _ h=>h) (Or.inl ⟨by rfl,?_⟩) (by assumption) ?_
                   rotate_left
                   · (intro w hSw;(try dsimp only at hSw);go_simp;try with_reducible rfl)
                   try simp only [Act.put,List.setIfInBounds_toArray,List.set_cons_zero,List.set_cons_succ]
                   refine wpAnyH_take (i:=4) (v:=?_) (by simp only [List.getElem?_toArray,List.getElem?_cons_succ,List.getElem?_cons_zero];rfl) (by kernel_rfl) (by kernel_rfl) (by kernel_rfl) (fun _ _ _ h=>h) (Or.inl ⟨by rfl,?_⟩) (by assumption) ?_
                   rotate_left
                   · (intro w hSw;(try dsimp only at hSw);go_simp;try with_reducible rfl)
                   try simp only [Act.put,List.setIfInBounds_toArray,List.set_cons_zero,List.set_cons_succ]
                   refine wpAnyH_take (i:=5) (v:=?_) (by simp only [List.getElem?_toArray,List.getElem?_cons_succ,List.getElem?_cons_zero];rfl) (by kernel_rfl) (by kernel_rfl) (by kernel_rfl) (fun _ _ _ h=>h) (Or.inl ⟨by rfl,?_⟩) (by assumption) ?_
                   rotate_left
                   · (intro w hSw;(try dsimp only at hSw);go_simp;try with_reducible rfl)
                   try simp only [Act.put,List.setIfInBounds_toArray,List.set_cons_zero,List.set_cons_succ]
                   refine wpAnyH_take (i:=6) (v:=?_) (by simp only [List.getElem?_toArray,List.getElem?_cons_succ,List.getElem?_cons_zero];rfl) (by kernel_rfl) (by kernel_rfl) (by kernel_rfl) (fun _ _ _ h=>h) (Or.inl ⟨by rfl,?_⟩) (by assumption) ?_
                   rotate_left
                   · (intro w hSw;(try dsimp only at hSw);go_simp;try with_reducible rfl)
                   try simp only [Act.put,List.setIfInBounds_toArray,List.set_cons_zero,List.set_cons_succ]
                   refine wpAnyH_take (i:=7) (v:=?_) (by simp only [List.getElem?_toArray,List.getElem?_cons_succ,List.getElem?_cons_zero];rfl) (by kernel_rfl) (by kernel_rfl) (by kernel_rfl) (fun _ _ _ h=>h) (Or.inl ⟨by rfl,?_⟩) (by assumption) ?_
                   rotate_left
                   · (intro w hSw;(try dsimp only at hSw);go_simp;try with_reducible rfl)
                   try simp only [Act.put,List.setIfInBounds_toArray,List.set_cons_zero,List.set_cons_succ]
                   refine wpAnyH_take (i:=8) (v:=?_) (by simp only [List.getElem?_toArray,List.getElem?_cons_succ,List.getElem?_cons_zero];rfl) (by kernel_rfl) (by kernel_rfl) (by kernel_rfl) (fun _ _ _ h=>h) (Or.inl ⟨by rfl,?_⟩) (by assumption) ?_
                   rotate_left
                   · (intro w hSw;(try dsimp only at hSw);go_simp;try with_reducible rfl)
                   try simp only [Act.put,List.setIfInBounds_toArray,List.set_cons_zero,List.set_cons_succ]
                   refine wpAnyH_take (i:=9) (v:=?_) (by simp only [List.getElem?_toArray,List.getElem?_cons_succ,List.getElem?_cons_zero];rfl) (by kernel_rfl) (by kernel_rfl) (by kernel_rfl) (fun _ _ _ h=>h) (Or.inl ⟨by rfl,?_⟩) (by assumption) ?_
                   rotate_left
                   · (intro w hSw;(try dsimp only at hSw);go_simp;try with_reducible rfl)
                   try simp only [Act.put,List.setIfInBounds_toArray,List.set_cons_zero,List.set_cons_succ]
                   refine wpAnyH_take (i:=10) (v:=?_) (by simp only [List.getElem?_toArray,List.getElem?_cons_succ,List.getElem?_cons_zero];rfl) (by kernel_rfl) (by kernel_rfl) (by kernel_rfl) (fun _ _ _ h=>h) (Or.inl ⟨by rfl,?_⟩) (by assumption) ?_
                   rotate_left
                   · (intro w hSw;(try dsimp only at hSw);go_simp;try with_reducible rfl)
                   try simp only [Act.put,List.setIfInBounds_toArray,List.set_cons_zero,List.set_cons_succ]
                   refine wpAnyH_take (i:=11) (v:=?_) (by simp only [List.getElem?_toArray,List.getElem?_cons_succ,List.getElem?_cons_zero];rfl) (by kernel_rfl) (by kernel_rfl) (by kernel_rfl) (fun _ _ _ h=>h) (Or.inl ⟨by rfl,?_⟩) (by assumption) ?_
                   rotate_left
                   · (intro w hSw;(try dsimp only at hSw);go_simp;try with_reducible rfl)
                   try simp only [Act.put,List.setIfInBounds_toArray,List.set_cons_zero,List.set_cons_succ]
                   refine wpAnyH_take (i:=12) (v:=?_) (by simp only [List.getElem?_toArray,List.getElem?_cons_succ,List.getElem?_cons_zero];rfl) (by kernel_rfl) (by kernel_rfl) (by kernel_rfl) (fun _ _ _ h=>h) (Or.inl ⟨by rfl,?_⟩) (by assumption) ?_
                   rotate_left
                   · (intro w hSw;(try dsimp only at hSw);go_simp;try with_reducible rfl)
                   try simp only [Act.put,List.setIfInBounds_toArray,List.set_cons_zero,List.set_cons_succ]
                   refine wpAnyH_take (i:=13) (v:=?_) (by simp only [List.getElem?_toArray,List.getElem?_cons_succ,List.getElem?_cons_zero];rfl) (by kernel_rfl) (by kernel_rfl) (by kernel_rfl) (fun _ _ _ h=>h) (Or.inl ⟨by rfl,?_⟩) (by assumption) ?_
                   rotate_left
                   · (intro w hSw;(try dsimp only at hSw);go_simp;try with_reducible rfl)
                   try simp only [Act.put,List.setIfInBounds_toArray,List.set_cons_zero,List.set_cons_succ]
                   refine wpAnyH_ready (rs:=[14]) (by kernel_rfl) (by simp) ?_
                   refine AllReadyH.cons rfl (fun KK hK=>?_) AllReadyH.nil
                   go_simp
                   go_at_call 36
                   refine (CT.out _ (zK K6.out (zD _))).mono ?_
                   rintro ee w7 ⟨rfl,k7⟩
                   have K7:=zH (zK K6.out (zK (zD _) k7))
                   go_wp2_with fail
                   refine hK.out _ _ (SD.out _ K7.out) (fun hHeld=>?_)
                   clear hK KK
                   try simp only [Act.put,List.setIfInBounds_toArray,List.set_cons_zero,List.set_cons_succ]
                   refine wpAnyH_take (i:=15) (v:=?_) (by simp only [List.getElem?_toArray,List.getElem?_cons_succ,List.getElem?_cons_zero];rfl) (by kernel_rfl) (by kernel_rfl) (by kernel_rfl) (fun _ _ _ h=>h) (Or.inl ⟨by rfl,?_⟩) (by assumption) ?_
                   rotate_left
                   · (intro w hSw;(try dsimp only at hSw);go_simp;try with_reducible rfl)
                   try simp only [Act.put,List.setIfInBounds_toArray,List.set_cons_zero,List.set_cons_succ]
                   refine wpAnyH_take (i:=16) (v:=?_) (by simp only [List.getElem?_toArray,List.getElem?_cons_succ,List.getElem?_cons_zero];rfl) (by kernel_rfl) (by kernel_rfl) (by kernel_rfl) (fun _ _ _ h=>h) (Or.inl ⟨by rfl,?_⟩) (by assumption) ?_
                   rotate_left
                   · (intro w hSw;(try dsimp only at hSw);go_simp;try with_reducible rfl)
                   try simp only [Act.put,List.setIfInBounds_toArray,List.set_cons_zero,List.set_cons_succ]
                   refine wpAnyH_take (i:=17) (v:=?_) (by simp only [List.getElem?_toArray,List.getElem?_cons_succ,List.getElem?_cons_zero];rfl) (by kernel_rfl) (by kernel_rfl) (by kernel_rfl) (fun _ _ _ h=>h) (Or.inl ⟨by rfl,?_⟩) (by assumption) ?_
                   rotate_left
                   · (intro w hSw;(try dsimp only at hSw);go_simp;try with_reducible rfl)
                   try simp only [Act.put,List.setIfInBounds_toArray,List.set_cons_zero,List.set_cons_succ]
                   refine wpAnyH_take (i:=18) (v:=?_) (by simp only [List.getElem?_toArray,List.getElem?_cons_succ,List.getElem?_cons_zero];rfl) (by kernel_rfl) (by kernel_rfl) (by kernel_rfl) (fun _ _ _ h=>h) (Or.inl ⟨by rfl,?_⟩) (by assumption) ?_
                   rotate_left
                   · (intro w hSw;(try dsimp only at hSw);go_simp;try with_reducible rfl)
                   try simp only [Act.put,List.setIfInBounds_toArray,List.set_cons_zero,List.set_cons_succ]
                   refine wpAnyH_take (i:=19) (v:=?_) (by simp only [List.getElem?_toArray,List.getElem?_cons_succ,List.getElem?_cons_zero];rfl) (by kernel_rfl) (by kernel_rfl) (by kernel_rfl) (fun _ _ _ h=>h) (Or.inl ⟨by rfl,?_⟩) (by assumption) ?_
                   rotate_left
                   · (intro w hSw;(try dsimp only at hSw);go_simp;try with_reducible rfl)
                   try simp only [Act.put,List.setIfInBounds_toArray,List.set_cons_zero,List.set_cons_succ]
                   refine wpAnyH_take (i:=20) (v:=?_) (by simp only [List.getElem?_toArray,List.getElem?_cons_succ,List.getElem?_cons_zero];rfl) (by kernel_rfl) (by kernel_rfl) (by kernel_rfl) (fun _ _ _ h=>h) (Or.inl ⟨by rfl,?_⟩) (by assumption) ?_
                   rotate_left
                   · (intro w hSw;(try dsimp only at hSw);go_simp;try with_reducible rfl)
                   try simp only [Act.put,List.setIfInBounds_toArray,List.set_cons_zero,List.set_cons_succ]
                   refine wpAnyH_take (i:=21) (v:=undef) (by simp only [List.getElem?_toArray,List.getElem?_cons_succ,List.getElem?_cons_zero];rfl) (by kernel_rfl) (by kernel_rfl) (by kernel_rfl) (fun _ _ _ h=>h) (Or.inr ⟨by rfl,rfl⟩) (by assumption) ?_
                   try simp only [Act.put,List.setIfInBounds_toArray,List.set_cons_zero,List.set_cons_succ]
                   refine wpAnyH_take (i:=22) (v:=undef) (by simp only [List.getElem?_toArray,List.getElem?_cons_succ,List.getElem?_cons_zero];rfl) (by kernel_rfl) (by kernel_rfl) (by kernel_rfl) (fun _ _ _ h=>h) (Or.inr ⟨by rfl,rfl⟩) (by assumption) ?_
                   try simp only [Act.put,List.setIfInBounds_toArray,List.set_cons_zero,List.set_cons_succ]
                   refine wpAnyH_take (i:=23) (v:=undef) (by simp only [List.getElem?_toArray,List.getElem?_cons_succ,List.getElem?_cons_zero];rfl) (by kernel_rfl) (by kernel_rfl) (by kernel_rfl) (fun _ _ _ h=>h) (Or.inr ⟨by rfl,rfl⟩) (by assumption) ?_
                   try simp only [Act.put,List.setIfInBounds_toArray,List.set_cons_zero,List.set_cons_succ]
                   refine wpAnyH_take (i:=24) (v:=undef) (by simp only [List.getElem?_toArray,List.getElem?_cons_succ,List.getElem?_cons_zero];rfl) (by kernel_rfl) (by kernel_rfl) (by kernel_rfl) (fun _ _ _ h=>h) (Or.inr ⟨by rfl,rfl⟩) (by assumption) ?_
                   try simp only [Act.put,List.setIfInBounds_toArray,List.set_cons_zero,List.set_cons_succ]
                   refine wpAnyH_take (i:=25) (v:=undef) (by simp only [List.getElem?_toArray,List.getElem?_cons_succ,List.getElem?_cons_zero];rfl) (by kernel_rfl) (by kernel_rfl) (by kernel_rfl) (fun _ _ _ h=>h) (Or.inr ⟨by rfl,rfl⟩) (by assumption) ?_
                   try simp only [Act.put,List.setIfInBounds_toArray,List.set_cons_zero,List.set_cons_succ]
                   refine wpAnyH_take (i:=26) (v:=undef) (by simp only [List.getElem?_toArray,List.getElem?_cons_succ,List.getElem?_cons_zero];rfl) (by kernel_rfl) (by kernel_rfl) (by kernel_rfl) (fun _ _ _ h=>h) (Or.inr ⟨by rfl,rfl⟩) (by assumption) ?_
                   try simp only [Act.put,List.setIfInBounds_toArray,List.set_cons_zero,List.set_cons_succ]
                   refine wpAnyH_take (i:=27) (v:=undef) (by simp only [List.getElem?_toArray,List.getElem?_cons_succ,List.getElem?_cons_zero];rfl) (by kernel_rfl) (by kernel_rfl) (by kernel_rfl) (fun _ _ _ h=>h) (Or.inr ⟨by rfl,rfl⟩) (by assumption) ?_
                   try simp only [Act.put,List.setIfInBounds_toArray,List.set_cons_zero,List.set_cons_succ]
                   refine wpAnyH_take (i:=28) (v:=undef) (by simp only [List.getElem?_toArray,List.getElem?_cons_succ,List.getElem?_cons_zero];rfl) (by kernel_rfl) (by kernel_rfl) (by kernel_rfl) (fun _ _ _ h=>h) (Or.inr ⟨by rfl,rfl⟩) (by assumption) ?_
                   try simp only [Act.put,List.setIfInBounds_toArray,List.set_cons_zero,List.set_cons_succ]
                   refine wpAnyH_take (i:=29) (v:=undef) (by simp only [List.getElem?_toArray,List.getElem?_cons_succ,List.getElem?_cons_zero];rfl) (by kernel_rfl) (by kernel_rfl) (by kernel_rfl) (fun _ _ _ h=>h) (Or.inr ⟨by rfl,rfl⟩) (by assumption) ?_
                   try simp only [Act.put,List.setIfInBounds_toArray,List.set_cons_zero,List.set_cons_succ]
                   refine wpAnyH_take (i:=30) (v:=undef) (by simp only [List.getElem?_toArray,List.getElem?_cons_succ,List.getElem?_cons_zero];rfl) (by kernel_rfl) (by kernel_rfl) (by kernel_rfl) (fun _ _ _ h=>h) (Or.inr ⟨by rfl,rfl⟩) (by assumption) ?_
                   try simp only [Act.put,List.setIfInBounds_toArray,List.set_cons_zero,List.set_cons_succ]
                   refine wpAnyH_take (i:=31) (v:=undef) (by simp only [List.getElem?_toArray,List.getElem?_cons_succ,List.getElem?_cons_zero];rfl) (by kernel_rfl) (by kernel_rfl) (by kernel_rfl) (fun _ _ _ h=>h) (Or.inr ⟨by rfl,rfl⟩) (by assumption) ?_
                   try simp only [Act.put,List.setIfInBounds_toArray,List.set_cons_zero,List.set_cons_succ]
                   refine wpAnyH_take (i:=32) (v:=undef) (by simp only [List.getElem?_toArray,List.getElem?_cons_succ,List.getElem?_cons_zero];rfl) (by kernel_rfl) (by kernel_rfl) (by kernel_rfl) (fun _ _ _ h=>h) (Or.inr ⟨by rfl,rfl⟩) (by assumption) ?_
                   try simp only [Act.put,List.setIfInBounds_toArray,List.set_cons_zero,List.set_cons_succ]
                   refine wpAnyH_take (i:=33) (v:=?_) (by simp only [List.getElem?_toArray,List.getElem?_cons_succ,List.getElem?_cons_zero];rfl) (by kernel_rfl) (by kernel_rfl) (by kernel_rfl) (fun _ _ _ h=>h) (Or.inl ⟨by rfl,?_⟩) (by assumption) ?_
                   rotate_left
                   · (intro w hSw;(try dsimp only at hSw);go_simp;try with_reducible rfl)
                   try simp only [Act.put,List.setIfInBounds_toArray,List.set_cons_zero,List.set_cons_succ]
                   refine wpAnyH_take (i:=34) (v:=?_) (by simp only [List.getElem?_toArray,List.getElem?_cons_succ,List.getElem?_cons_zero];rfl) (by kernel_rfl) (by kernel_rfl) (by kernel_rfl) (fun _ _ _ h=>h) (Or.inl ⟨by rfl,?_⟩) (by assumption) ?_
                   rotate_left
                   · (intro w hSw;(try dsimp only at hSw);go_simp;try with_reducible rfl)
                   try simp only [Act.put,List.setIfInBounds_toArray,List.set_cons_zero,List.set_cons_succ]
                   refine wpAnyH_done (by kernel_rfl) ?_ _
                   refine NoPanic.normal ?_
                   clear s0
                   go_wp2_with fail
                   go_roundw
                   case rel=>exact ⟨1,by have:=HI.out;omega,by go_num,K7.out⟩
                   case measure=>have:=HI.out;simp [intOf];omega
                 · obtain ⟨y,hy⟩:∃ y,(outE false v a)[i]? = some y:=⟨_,List.getElem?_eq_getElem (by have:=HI.out;omega)⟩
                   obtain ⟨hym,hye⟩:=outE_mem.1 (List.mem_of_getElem? hy)
                   obtain ⟨ad',hA',-,hE'⟩:=eds_at (Own.at_ O1.out) hy
                   obtain rfl:=Option.some.inj hA'
                   have hup:=rise_nextS (outE_rise (hd':=false) (v:=v) RA.out.rise) hy HXX.out
                   obtain ⟨yt,yh,yx,ym⟩:=y
                   have hye:yt=v:=hye
                   subst yt
                   have hless:yh<xh:=by
                    rw [ahB_true] at hup
                    simp at hup
                    omega
                   have HE':=zH hE'
                   have n1:¬ (xh:Int)≤(yh:Int):=by omega
                   have n2:decide (xh≤yh)=false:=decide_eq_false (by omega)
                   have i0':(0:Int)≤(i:Int):=by omega
                   have ip:(0:Int)<(i:Int)+1:=by omega
                   have hp1:(0:Int)≤(i:Int)+1:=by omega
                   have ht1:((i:Int)+1).toNat=i+1:=by omega
                   have hw3:IntKind.i64.wrap (i:Int)=(i:Int):=IntWalk.i64_in _ ⟨by omega,by omega⟩
                   have hi3:(i:Int)<((outE false v a).length:Int):=by omega
                   have hw2:IntKind.i64.wrap ((i:Int)+1-1)=(i:Int):=by rw [IntWalk.i64_in _ ⟨by omega,by omega⟩];omega
                   have SD:=zH (fun (W:World) (kk:Keeps w6 W)=>show (W.cell? (ad.add ((i+1)*4))=some (.int .u32 (v:Int))∧W.cell? ⟨(ad.add ((i+1)*4)).block,(ad.add ((i+1)*4)).off+1,none⟩=some (.int .u32 (xh:Int))∧W.cell? ⟨(ad.add ((i+1)*4)).block,(ad.add ((i+1)*4)).off+2,none⟩=some (.int .u64 (xx:Int))∧W.cell? ⟨(ad.add ((i+1)*4)).block,(ad.add ((i+1)*4)).off+3,none⟩=some (.int .u32 (xm:Int)))∧(W.cell? (ad.add (i*4))=some (.int .u32 (v:Int))∧W.cell? ⟨(ad.add (i*4)).block,(ad.add (i*4)).off+1,none⟩=some (.int .u32 (yh:Int))∧W.cell? ⟨(ad.add (i*4)).block,(ad.add (i*4)).off+2,none⟩=some (.int .u64 (yx:Int))∧W.cell? ⟨(ad.add (i*4)).block,(ad.add (i*4)).off+3,none⟩=some (.int .u32 (ym:Int))) from ⟨(show EdIn W (ad.add ((i+1)*4)) ⟨v,xh,xx,xm⟩ from HE.out.keep kk),(show EdIn W (ad.add (i*4)) ⟨v,yh,yx,ym⟩ from HE'.out.keep kk)⟩)
                   have s0:=SD.out _ K6.out
                   rw [show ((i+1:Nat):Int)=(i:Int)+1 from by omega] at i1 i2 ⊢
                   clear hym hE' hup hless hy
                   go_wp2_with fail
                   go_region_held3 (fun W=>(W.cell? (ad.add ((i+1)*4))=some (.int .u32 (v:Int))∧W.cell? ⟨(ad.add ((i+1)*4)).block,(ad.add ((i+1)*4)).off+1,none⟩=some (.int .u32 (xh:Int))∧W.cell? ⟨(ad.add ((i+1)*4)).block,(ad.add ((i+1)*4)).off+2,none⟩=some (.int .u64 (xx:Int))∧W.cell? ⟨(ad.add ((i+1)*4)).block,(ad.add ((i+1)*4)).off+3,none⟩=some (.int .u32 (xm:Int)))∧(W.cell? (ad.add (i*4))=some (.int .u32 (v:Int))∧W.cell? ⟨(ad.add (i*4)).block,(ad.add (i*4)).off+1,none⟩=some (.int .u32 (yh:Int))∧W.cell? ⟨(ad.add (i*4)).block,(ad.add (i*4)).off+2,none⟩=some (.int .u64 (yx:Int))∧W.cell? ⟨(ad.add (i*4)).block,(ad.add (i*4)).off+3,none⟩=some (.int .u32 (ym:Int)))) (first|assumption|exact SD.out _ (zK K6.out (zD _))) (first
                    | (go_at_call 36;refine (CT.out _ (zK K6.out (zD _))).mono ?_;rintro ee w7 ⟨rfl,k7⟩;have s7:=SD.out _ (zK K6.out (zK (zD _) k7));have K7:=zH (zK K6.out (zK (zD _) k7))))
                   clear s7 s0
                   go_wp2_with fail
                   go_roundw
                   case rel=>exact ⟨i+1+1,by have:=HI.out;omega,by go_num,K7.out⟩
                   case measure=>have:=HI.out;simp [intOf];omega
               · obtain rfl:i=(outE false v a).length:=by omega
                 clear hlt hil
                 have KL1:=zH K6.out
                 clear K6
                 rename World=>w8
                 go_wp2_with fail
                 go_loopw [21] (fun i wr=>∃ i':Nat,i'≤(outE true v b).length∧i = .int .i64 (i':Int)∧Keeps w6 wr) (fun i _=>(outE true v b).length-(intOf i).toNat)
                 case atStart=>exact ⟨0,Nat.zero_le _,rfl,KL1.out⟩
                 case round=>
                  obtain ⟨i,hil,rfl,hk6⟩:=hrel
                  have K6:=zH hk6
                  clear hk6
                  by_cases hlt:i<(outE true v b).length
                  · obtain ⟨x,hx⟩:∃ x,(outE true v b)[i]? = some x:=⟨_,List.getElem?_eq_getElem hlt⟩
                    obtain ⟨hxm,hxe⟩:=outE_mem.1 (List.mem_of_getElem? hx)
                    have hxa:x∈a:=RedB.sub OKE.out RB.out RA.out _ hxm
                    obtain ⟨ix,hone⟩:=once_rise RA.out.rise hxa
                    obtain ⟨ad,hA,-,hE⟩:=eds_at (Own.at_ O2.out) hx
                    subst hA
                    obtain ⟨xt,xh,xx,xm⟩:=x
                    have hxe:xh=v:=hxe
                    subst xh
                    have HE:=zH hE
                    have HI:=zH hlt
                    have HXX:=zH hx
                    have CT:=zH (fun (W:World) (k:Keeps w6 W)=>count13_any (c:=cu) (Own.at_ (OA6.out.keep k)) rfl (by have:=AL.out;omega) hone)
                    unfold edG at CT
                    simp only at CT
                    have i1:(i:Int)<((outE true v b).length:Int):=by omega
                    have i2:(i:Int)<300:=by have:=LN.out;omega
                    clear hxm hxa hone hE hx hlt hil
                    rcases i with _|i
                    · have SD:=zH (fun (W:World) (kk:Keeps w6 W)=>show W.cell? ad=some (.int .u32 (xt:Int))∧W.cell? ⟨ad.block,ad.off+1,none⟩=some (.int .u32 (v:Int))∧W.cell? ⟨ad.block,ad.off+2,none⟩=some (.int .u64 (xx:Int))∧W.cell? ⟨ad.block,ad.off+3,none⟩=some (.int .u32 (xm:Int)) from (show EdIn W ad ⟨xt,v,xx,xm⟩ from HE.out.keep kk))
                      have s0:=SD.out _ K6.out
                      rw [show ((0:Nat):Int)=0 from rfl] at i1 i2 ⊢
                      go_wp2_with fail
                      refine wp_region_noPanic ?_
                      refine wp_region_held_drew (S:=fun W=>W.cell? ad=some (.int .u32 (xt:Int))∧W.cell? ⟨ad.block,ad.off+1,none⟩=some (.int .u32 (v:Int))∧W.cell? ⟨ad.block,ad.off+2,none⟩=some (.int .u64 (xx:Int))∧W.cell? ⟨ad.block,ad.off+3,none⟩=some (.int .u32 (xm:Int))) (by kernel_rfl) (SD.out _ (zK K6.out (zD _))) (fun hHeld=>?_)
                      refine wpAnyH_take (i:=0) (v:=?_) (by simp only [List.getElem?_toArray,List.getElem?_cons_succ,List.getElem?_cons_zero];rfl) (by kernel_rfl) (by kernel_rfl) (by kernel_rfl) (fun _ _ _ h=>h) (Or.inl ⟨by rfl,?_⟩) (by assumption) ?_
                      rotate_left
                      · (intro w hSw;(try dsimp only at hSw);go_simp;try with_reducible rfl)
                      try simp only [Act.put,List.setIfInBounds_toArray,List.set_cons_zero,List.set_cons_succ]
                      refine wpAnyH_take (i:=1) (v:=?_) (by simp only [List.getElem?_toArray,List.getElem?_cons_succ,List.getElem?_cons_zero];rfl) (by kernel_rfl) (by kernel_rfl) (by kernel_rfl) (fun _ _ _ h=>h) (Or.inl ⟨by rfl,?_⟩) (by assumption) ?_
                      rotate_left
                      · (intro w hSw;(try dsimp only at hSw);go_simp;try with_reducible rfl)
                      try simp only [Act.put,List.setIfInBounds_toArray,List.set_cons_zero,List.set_cons_succ]
                      refine wpAnyH_take (i:=2) (v:=?_) (by simp only [List.getElem?_toArray,List.getElem?_cons_succ,List.getElem?_cons_zero];rfl) (by kernel_rfl) (by kernel_rfl) (by kernel_rfl) (fun _ _ _ h=>h) (Or.inl ⟨by rfl,?_⟩) (by assumption) ?_
                      rotate_left
                      · (intro w hSw;(try dsimp only at hSw);go_simp;try with_reducible rfl)
                      try simp only [Act.put,List.setIfInBounds_toArray,List.set_cons_zero,List.set_cons_succ]
                      refine wpAnyH_take (i:=3) (v:=?_) (by simp only [List.getElem?_toArray,List.getElem?_cons_succ,List.getElem?_cons_zero];rfl) (by kernel_rfl) (by kernel_rfl) (by kernel_rfl) (fun _ _ _ h=>h) (Or.inl ⟨by rfl,?_⟩) (by assumption) ?_
                      rotate_left
                      · (intro w hSw;(try dsimp only at hSw);go_simp;try with_reducible rfl)
                      try simp only [Act.put,List.setIfInBounds_toArray,List.set_cons_zero,List.set_cons_succ]
                      refine wpAnyH_take (i:=4) (v:=?_) (by simp only [List.getElem?_toArray,List.getElem?_cons_succ,List.getElem?_cons_zero];rfl) (by kernel_rfl) (by kernel_rfl) (by kernel_rfl) (fun _ _ _ h=>h) (Or.inl ⟨by rfl,?_⟩) (by assumption) ?_
                      rotate_left
                      · (intro w hSw;(try dsimp only at hSw);go_simp;try with_reducible rfl)
                      try simp only [Act.put,List.setIfInBounds_toArray,List.set_cons_zero,List.set_cons_succ]
                      refine wpAnyH_take (i:=5) (v:=?_) (by simp only [List.getElem?_toArray,List.getElem?_cons_succ,List.getElem?_cons_zero];rfl) (by kernel_rfl) (by kernel_rfl) (by kernel_rfl) (fun _ _ _ h=>h) (Or.inl ⟨by rfl,?_⟩) (by assumption) ?_
                      rotate_left
                      · (intro w hSw;(try dsimp only at hSw);go_simp;try with_reducible rfl)
                      try simp only [Act.put,List.setIfInBounds_toArray,List.set_cons_zero,List.set_cons_succ]
                      refine wpAnyH_take (i:=6) (v:=?_) (by simp only [List.getElem?_toArray,List.getElem?_cons_succ,List.getElem?_cons_zero];rfl) (by kernel_rfl) (by kernel_rfl) (by kernel_rfl) (fun _ _ _ h=>h) (Or.inl ⟨by rfl,?_⟩) (by assumption) ?_
                      rotate_left
                      · (intro w hSw;(try dsimp only at hSw);go_simp;try with_reducible rfl)
                      try simp only [Act.put,List.setIfInBounds_toArray,List.set_cons_zero,List.set_cons_succ]
                      refine wpAnyH_take (i:=7) (v:=?_) (by simp only [List.getElem?_toArray,List.getElem?_cons_succ,List.getElem?_cons_zero];rfl) (by kernel_rfl) (by kernel_rfl) (by kernel_rfl) (fun _ _ _ h=>h) (Or.inl ⟨by rfl,?_⟩) (by assumption) ?_
                      rotate_left
                      · (intro w hSw;(try dsimp only at hSw);go_simp;try with_reducible rfl)
                      try simp only [Act.put,List.setIfInBounds_toArray,List.set_cons_zero,List.set_cons_succ]
                      refine wpAnyH_take (i:=8) (v:=?_) (by simp only [List.getElem?_toArray,List.getElem?_cons_succ,List.getElem?_cons_zero];rfl) (by kernel_rfl) (by kernel_rfl) (by kernel_rfl) (fun _ _ _ h=>h) (Or.inl ⟨by rfl,?_⟩) (by assumption) ?_
                      rotate_left
                      · (intro w hSw;(try dsimp only at hSw);go_simp;try with_reducible rfl)
                      try simp only [Act.put,List.setIfInBounds_toArray,List.set_cons_zero,List.set_cons_succ]
                      refine wpAnyH_take (i:=9) (v:=?_) (by simp only [List.getElem?_toArray,List.getElem?_cons_succ,List.getElem?_cons_zero];rfl) (by kernel_rfl) (by kernel_rfl) (by kernel_rfl) (fun _ _ _ h=>h) (Or.inl ⟨by rfl,?_⟩) (by assumption) ?_
                      rotate_left
                      · (intro w hSw;(try dsimp only at hSw);go_simp;try with_reducible rfl)
                      try simp only [Act.put,List.setIfInBounds_toArray,List.set_cons_zero,List.set_cons_succ]
                      refine wpAnyH_take (i:=10) (v:=?_) (by simp only [List.getElem?_toArray,List.getElem?_cons_succ,List.getElem?_cons_zero];rfl) (by kernel_rfl) (by kernel_rfl) (by kernel_rfl) (fun _ _ _ h=>h) (Or.inl ⟨by rfl,?_⟩) (by assumption) ?_
                      rotate_left
                      · (intro w hSw;(try dsimp only at hSw);go_simp;try with_reducible rfl)
                      try simp only [Act.put,List.setIfInBounds_toArray,List.set_cons_zero,List.set_cons_succ]
                      refine wpAnyH_take (i:=11) (v:=?_) (by simp only [List.getElem?_toArray,List.getElem?_cons_succ,List.getElem?_cons_zero];rfl) (by kernel_rfl) (by kernel_rfl) (by kernel_rfl) (fun _ _ _ h=>h) (Or.inl ⟨by rfl,?_⟩) (by assumption) ?_
                      rotate_left
                      · (intro w hSw;(try dsimp only at hSw);go_simp;try with_reducible rfl)
                      try simp only [Act.put,List.setIfInBounds_toArray,List.set_cons_zero,List.set_cons_succ]
                      refine wpAnyH_take (i:=12) (v:=?_) (by simp only [List.getElem?_toArray,List.getElem?_cons_succ,List.getElem?_cons_zero];rfl) (by kernel_rfl) (by kernel_rfl) (by kernel_rfl) (fun _ _ _ h=>h) (Or.inl ⟨by rfl,?_⟩) (by assumption) ?_
                      rotate_left
                      · (intro w hSw;(try dsimp only at hSw);go_simp;try with_reducible rfl)
                      try simp only [Act.put,List.setIfInBounds_toArray,List.set_cons_zero,List.set_cons_succ]
                      refine wpAnyH_take (i:=13) (v:=?_) (by simp only [List.getElem?_toArray,List.getElem?_cons_succ,List.getElem?_cons_zero];rfl) (by kernel_rfl) (by kernel_rfl) (by kernel_rfl) (fun _ _ _ h=>h) (Or.inl ⟨by rfl,?_⟩) (by assumption) ?_
                      rotate_left
                      · (intro w hSw;(try dsimp only at hSw);go_simp;try with_reducible rfl)
                      try simp only [Act.put,List.setIfInBounds_toArray,List.set_cons_zero,List.set_cons_succ]
                      refine wpAnyH_ready (rs:=[14]) (by kernel_rfl) (by simp) ?_
                      refine AllReadyH.cons rfl (fun KK hK=>?_) AllReadyH.nil
                      go_simp
                      go_at_call 36
                      refine (CT.out _ (zK K6.out (zD _))).mono ?_
                      rintro ee w7 ⟨rfl,k7⟩
                      have K7:=zH (zK K6.out (zK (zD _) k7))
                      go_wp2_with fail
                      refine hK.out _ _ (SD.out _ K7.out) (fun hHeld=>?_)
                      clear hK KK
                      try simp only [Act.put,List.setIfInBounds_toArray,List.set_cons_zero,List.set_cons_succ]
                      refine wpAnyH_take (i:=15) (v:=?_) (by simp only [List.getElem?_toArray,List.getElem?_cons_succ,List.getElem?_cons_zero];rfl) (by kernel_rfl) (by kernel_rfl) (by kernel_rfl) (fun _ _ _ h=>h) (Or.inl ⟨by rfl,?_⟩) (by assumption) ?_
                      rotate_left
                      · (intro w hSw;(try dsimp only at hSw);go_simp;try with_reducible rfl)
                      try simp only [Act.put,List.setIfInBounds_toArray,List.set_cons_zero,List.set_cons_succ]
                      refine wpAnyH_take (i:=16) (v:=?_) (by simp only [List.getElem?_toArray,List.getElem?_cons_succ,List.getElem?_cons_zero];rfl) (by kernel_rfl) (by kernel_rfl) (by kernel_rfl) (fun _ _ _ h=>h) (Or.inl ⟨by rfl,?_⟩) (by assumption) ?_
                      rotate_left
                      · (intro w hSw;(try dsimp only at hSw);go_simp;try with_reducible rfl)
                      try simp only [Act.put,List.setIfInBounds_toArray,List.set_cons_zero,List.set_cons_succ]
                      refine wpAnyH_take (i:=17) (v:=?_) (by simp only [List.getElem?_toArray,List.getElem?_cons_succ,List.getElem?_cons_zero];rfl) (by kernel_rfl) (by kernel_rfl) (by kernel_rfl) (fun _ _ _ h=>h) (Or.inl ⟨by rfl,?_⟩) (by assumption) ?_
                      rotate_left
                      · (intro w hSw;(try dsimp only at hSw);go_simp;try with_reducible rfl)
                      try simp only [Act.put,List.setIfInBounds_toArray,List.set_cons_zero,List.set_cons_succ]
                      refine wpAnyH_take (i:=18) (v:=?_) (by simp only [List.getElem?_toArray,List.getElem?_cons_succ,List.getElem?_cons_zero];rfl) (by kernel_rfl) (by kernel_rfl) (by kernel_rfl) (fun _ _ _ h=>h) (Or.inl ⟨by rfl,?_⟩) (by assumption) ?_
                      rotate_left
                      · (intro w hSw;(try dsimp only at hSw);go_simp;try with_reducible rfl)
                      try simp only [Act.put,List.setIfInBounds_toArray,List.set_cons_zero,List.set_cons_succ]
                      refine wpAnyH_take (i:=19) (v:=?_) (by simp only [List.getElem?_toArray,List.getElem?_cons_succ,List.getElem?_cons_zero];rfl) (by kernel_rfl) (by kernel_rfl) (by kernel_rfl) (fun _ _ _ h=>h) (Or.inl ⟨by rfl,?_⟩) (by assumption) ?_
                      rotate_left
                      · (intro w hSw;(try dsimp only at hSw);go_simp;try with_reducible rfl)
                      try simp only [Act.put,List.setIfInBounds_toArray,List.set_cons_zero,List.set_cons_succ]
                      refine wpAnyH_take (i:=20) (v:=?_) (by simp only [List.getElem?_toArray,List.getElem?_cons_succ,List.getElem?_cons_zero];rfl) (by kernel_rfl) (by kernel_rfl) (by kernel_rfl) (fun _ _ _ h=>h) (Or.inl ⟨by rfl,?_⟩) (by assumption) ?_
                      rotate_left
                      · (intro w hSw;(try dsimp only at hSw);go_simp;try with_reducible rfl)
                      try simp only [Act.put,List.setIfInBounds_toArray,List.set_cons_zero,List.set_cons_succ]
                      refine wpAnyH_take (i:=21) (v:=undef) (by simp only [List.getElem?_toArray,List.getElem?_cons_succ,List.getElem?_cons_zero];rfl) (by kernel_rfl) (by kernel_rfl) (by kernel_rfl) (fun _ _ _ h=>h) (Or.inr ⟨by rfl,rfl⟩) (by assumption) ?_
                      try simp only [Act.put,List.setIfInBounds_toArray,List.set_cons_zero,List.set_cons_succ]
                      refine wpAnyH_take (i:=22) (v:=undef) (by simp only [List.getElem?_toArray,List.getElem?_cons_succ,List.getElem?_cons_zero];rfl) (by kernel_rfl) (by kernel_rfl) (by kernel_rfl) (fun _ _ _ h=>h) (Or.inr ⟨by rfl,rfl⟩) (by assumption) ?_
                      try simp only [Act.put,List.setIfInBounds_toArray,List.set_cons_zero,List.set_cons_succ]
                      refine wpAnyH_take (i:=23) (v:=undef) (by simp only [List.getElem?_toArray,List.getElem?_cons_succ,List.getElem?_cons_zero];rfl) (by kernel_rfl) (by kernel_rfl) (by kernel_rfl) (fun _ _ _ h=>h) (Or.inr ⟨by rfl,rfl⟩) (by assumption) ?_
                      try simp only [Act.put,List.setIfInBounds_toArray,List.set_cons_zero,List.set_cons_succ]
                      refine wpAnyH_take (i:=24) (v:=undef) (by simp only [List.getElem?_toArray,List.getElem?_cons_succ,List.getElem?_cons_zero];rfl) (by kernel_rfl) (by kernel_rfl) (by kernel_rfl) (fun _ _ _ h=>h) (Or.inr ⟨by rfl,rfl⟩) (by assumption) ?_
                      try simp only [Act.put,List.setIfInBounds_toArray,List.set_cons_zero,List.set_cons_succ]
                      refine wpAnyH_take (i:=25) (v:=undef) (by simp only [List.getElem?_toArray,List.getElem?_cons_succ,List.getElem?_cons_zero];rfl) (by kernel_rfl) (by kernel_rfl) (by kernel_rfl) (fun _ _ _ h=>h) (Or.inr ⟨by rfl,rfl⟩) (by assumption) ?_
                      try simp only [Act.put,List.setIfInBounds_toArray,List.set_cons_zero,List.set_cons_succ]
                      refine wpAnyH_take (i:=26) (v:=undef) (by simp only [List.getElem?_toArray,List.getElem?_cons_succ,List.getElem?_cons_zero];rfl) (by kernel_rfl) (by kernel_rfl) (by kernel_rfl) (fun _ _ _ h=>h) (Or.inr ⟨by rfl,rfl⟩) (by assumption) ?_
                      try simp only [Act.put,List.setIfInBounds_toArray,List.set_cons_zero,List.set_cons_succ]
                      refine wpAnyH_take (i:=27) (v:=undef) (by simp only [List.getElem?_toArray,List.getElem?_cons_succ,List.getElem?_cons_zero];rfl) (by kernel_rfl) (by kernel_rfl) (by kernel_rfl) (fun _ _ _ h=>h) (Or.inr ⟨by rfl,rfl⟩) (by assumption) ?_
                      try simp only [Act.put,List.setIfInBounds_toArray,List.set_cons_zero,List.set_cons_succ]
                      refine wpAnyH_take (i:=28) (v:=undef) (by simp only [List.getElem?_toArray,List.getElem?_cons_succ,List.getElem?_cons_zero];rfl) (by kernel_rfl) (by kernel_rfl) (by kernel_rfl) (fun _ _ _ h=>h) (Or.inr ⟨by rfl,rfl⟩) (by assumption) ?_
                      try simp only [Act.put,List.setIfInBounds_toArray,List.set_cons_zero,List.set_cons_succ]
                      refine wpAnyH_take (i:=29) (v:=undef) (by simp only [List.getElem?_toArray,List.getElem?_cons_succ,List.getElem?_cons_zero];rfl) (by kernel_rfl) (by kernel_rfl) (by kernel_rfl) (fun _ _ _ h=>h) (Or.inr ⟨by rfl,rfl⟩) (by assumption) ?_
                      try simp only [Act.put,List.setIfInBounds_toArray,List.set_cons_zero,List.set_cons_succ]
                      refine wpAnyH_take (i:=30) (v:=undef) (by simp only [List.getElem?_toArray,List.getElem?_cons_succ,List.getElem?_cons_zero];rfl) (by kernel_rfl) (by kernel_rfl) (by kernel_rfl) (fun _ _ _ h=>h) (Or.inr ⟨by rfl,rfl⟩) (by assumption) ?_
                      try simp only [Act.put,List.setIfInBounds_toArray,List.set_cons_zero,List.set_cons_succ]
                      refine wpAnyH_take (i:=31) (v:=undef) (by simp only [List.getElem?_toArray,List.getElem?_cons_succ,List.getElem?_cons_zero];rfl) (by kernel_rfl) (by kernel_rfl) (by kernel_rfl) (fun _ _ _ h=>h) (Or.inr ⟨by rfl,rfl⟩) (by assumption) ?_
                      try simp only [Act.put,List.setIfInBounds_toArray,List.set_cons_zero,List.set_cons_succ]
                      refine wpAnyH_take (i:=32) (v:=undef) (by simp only [List.getElem?_toArray,List.getElem?_cons_succ,List.getElem?_cons_zero];rfl) (by kernel_rfl) (by kernel_rfl) (by kernel_rfl) (fun _ _ _ h=>h) (Or.inr ⟨by rfl,rfl⟩) (by assumption) ?_
                      try simp only [Act.put,List.setIfInBounds_toArray,List.set_cons_zero,List.set_cons_succ]
                      refine wpAnyH_take (i:=33) (v:=?_) (by simp only [List.getElem?_toArray,List.getElem?_cons_succ,List.getElem?_cons_zero];rfl) (by kernel_rfl) (by kernel_rfl) (by kernel_rfl) (fun _ _ _ h=>h) (Or.inl ⟨by rfl,?_⟩) (by assumption) ?_
                      rotate_left
                      · (intro w hSw;(try dsimp only at hSw);go_simp;try with_reducible rfl)
                      try simp only [Act.put,List.setIfInBounds_toArray,List.set_cons_zero,List.set_cons_succ]
                      refine wpAnyH_take (i:=34) (v:=?_) (by simp only [List.getElem?_toArray,List.getElem?_cons_succ,List.getElem?_cons_zero];rfl) (by kernel_rfl) (by kernel_rfl) (by kernel_rfl) (fun _ _ _ h=>h) (Or.inl ⟨by rfl,?_⟩) (by assumption) ?_
                      rotate_left
                      · (intro w hSw;(try dsimp only at hSw);go_simp;try with_reducible rfl)
                      try simp only [Act.put,List.setIfInBounds_toArray,List.set_cons_zero,List.set_cons_succ]
                      refine wpAnyH_done (by kernel_rfl) ?_ _
                      refine NoPanic.normal ?_
                      clear s0
                      go_wp2_with fail
                      go_roundw
                      case rel=>exact ⟨1,by have:=HI.out;omega,by go_num,K7.out⟩
                      case measure=>have:=HI.out;simp [intOf];omega
                    · obtain ⟨y,hy⟩:∃ y,(outE true v b)[i]? = some y:=⟨_,List.getElem?_eq_getElem (by have:=HI.out;omega)⟩
                      obtain ⟨hym,hye⟩:=outE_mem.1 (List.mem_of_getElem? hy)
                      obtain ⟨ad',hA',-,hE'⟩:=eds_at (Own.at_ O2.out) hy
                      obtain rfl:=Option.some.inj hA'
                      have hup:=rise_nextS (outE_rise (hd':=true) (v:=v) RB.out.rise) hy HXX.out
                      obtain ⟨yt,yh,yx,ym⟩:=y
                      have hye:yh=v:=hye
                      subst yh
                      have hless:yt<xt:=by
                       rw [ahB_true] at hup
                       simp at hup
                       omega
                      have HE':=zH hE'
                      have n1:¬ (xt:Int)≤(yt:Int):=by omega
                      have n2:decide (xt≤yt)=false:=decide_eq_false (by omega)
                      have i0':(0:Int)≤(i:Int):=by omega
                      have ip:(0:Int)<(i:Int)+1:=by omega
                      have hp1:(0:Int)≤(i:Int)+1:=by omega
                      have ht1:((i:Int)+1).toNat=i+1:=by omega
                      have hw3:IntKind.i64.wrap (i:Int)=(i:Int):=IntWalk.i64_in _ ⟨by omega,by omega⟩
                      have hi3:(i:Int)<((outE true v b).length:Int):=by omega
                      have hw2:IntKind.i64.wrap ((i:Int)+1-1)=(i:Int):=by rw [IntWalk.i64_in _ ⟨by omega,by omega⟩];omega
                      have SD:=zH (fun (W:World) (kk:Keeps w6 W)=>show (W.cell? (ad.add ((i+1)*4))=some (.int .u32 (xt:Int))∧W.cell? ⟨(ad.add ((i+1)*4)).block,(ad.add ((i+1)*4)).off+1,none⟩=some (.int .u32 (v:Int))∧W.cell? ⟨(ad.add ((i+1)*4)).block,(ad.add ((i+1)*4)).off+2,none⟩=some (.int .u64 (xx:Int))∧W.cell? ⟨(ad.add ((i+1)*4)).block,(ad.add ((i+1)*4)).off+3,none⟩=some (.int .u32 (xm:Int)))∧(W.cell? (ad.add (i*4))=some (.int .u32 (yt:Int))∧W.cell? ⟨(ad.add (i*4)).block,(ad.add (i*4)).off+1,none⟩=some (.int .u32 (v:Int))∧W.cell? ⟨(ad.add (i*4)).block,(ad.add (i*4)).off+2,none⟩=some (.int .u64 (yx:Int))∧W.cell? ⟨(ad.add (i*4)).block,(ad.add (i*4)).off+3,none⟩=some (.int .u32 (ym:Int))) from ⟨(show EdIn W (ad.add ((i+1)*4)) ⟨xt,v,xx,xm⟩ from HE.out.keep kk),(show EdIn W (ad.add (i*4)) ⟨yt,v,yx,ym⟩ from HE'.out.keep kk)⟩)
                      have s0:=SD.out _ K6.out
                      rw [show ((i+1:Nat):Int)=(i:Int)+1 from by omega] at i1 i2 ⊢
                      clear hym hE' hup hless hy
                      go_wp2_with fail
                      go_region_held3 (fun W=>(W.cell? (ad.add ((i+1)*4))=some (.int .u32 (xt:Int))∧W.cell? ⟨(ad.add ((i+1)*4)).block,(ad.add ((i+1)*4)).off+1,none⟩=some (.int .u32 (v:Int))∧W.cell? ⟨(ad.add ((i+1)*4)).block,(ad.add ((i+1)*4)).off+2,none⟩=some (.int .u64 (xx:Int))∧W.cell? ⟨(ad.add ((i+1)*4)).block,(ad.add ((i+1)*4)).off+3,none⟩=some (.int .u32 (xm:Int)))∧(W.cell? (ad.add (i*4))=some (.int .u32 (yt:Int))∧W.cell? ⟨(ad.add (i*4)).block,(ad.add (i*4)).off+1,none⟩=some (.int .u32 (v:Int))∧W.cell? ⟨(ad.add (i*4)).block,(ad.add (i*4)).off+2,none⟩=some (.int .u64 (yx:Int))∧W.cell? ⟨(ad.add (i*4)).block,(ad.add (i*4)).off+3,none⟩=some (.int .u32 (ym:Int)))) (first|assumption|exact SD.out _ (zK K6.out (zD _))) (first
                       | (go_at_call 36;refine (CT.out _ (zK K6.out (zD _))).mono ?_;rintro ee w7 ⟨rfl,k7⟩;have s7:=SD.out _ (zK K6.out (zK (zD _) k7));have K7:=zH (zK K6.out (zK (zD _) k7))))
                      clear s7 s0
                      go_wp2_with fail
                      go_roundw
                      case rel=>exact ⟨i+1+1,by have:=HI.out;omega,by go_num,K7.out⟩
                      case measure=>have:=HI.out;simp [intOf];omega
                  · obtain rfl:i=(outE true v b).length:=by omega
                    clear hlt hil
                    go_wp2_with fail
                    go_roundw
                    case rel=>exact ⟨v+1,q7,S7,by have:=HV.out;omega,by rw [SUM.out.1];go_num,by rw [SUM.out.2];go_num,by go_num,M7.out.keep K6.out,OA6.out.keep K6.out,FA6.out⟩
                    case measure=>have:=HV.out;simp [intOf];omega
            · obtain rfl:v=vs.length:=by omega
              have E1:belowE false vs.length a=a.length:=belowE_all fun e he=>by have:=(INN.out e (RA.out.mem e he)).1;have:=HM.out;show e.t<_;omega
              have E2:belowE true vs.length b=a.length:=by rw [belowE_all fun e he=>by have:=(INN.out e (RB.out.mem e he)).2;have:=HM.out;show e.h<_;omega];exact AL.out.2
              rw [E1] at b1 b3 ⊢
              rw [E2] at b2 b4 ⊢
              have WW:=zH (WK.out wr (zK KWB.out M5.out.ex.pj.kp))
              have KE:=zH (zK KWB.out M5.out.ex.pj.kp)
              clear hlt hvl' E1 E2
              go_wp2_with fail
              refine SZ.out.mono ?_
              rintro e w4 ⟨rfl,rfl⟩
              go_wp2_with fail
              refine WW.out.mono ?_
              rintro e w7 ⟨rfl,k7⟩
              have K7:=zH (zK KE.out k7)
              clear k7
              go_wp2_with fail
              go_ret
              exact ⟨rfl,K7.out⟩
end Go.Proofs.YtjmkagakdhhigaaGreatDoor
