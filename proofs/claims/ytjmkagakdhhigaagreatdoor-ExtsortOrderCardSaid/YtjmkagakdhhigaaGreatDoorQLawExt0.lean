/- What the laws of extsort ask of a pool and its files. -/
import Derived.Test.YtjmkagakdhhigaaGreatDoorQExtBegun
import Derived.Test.YtjmkagakdhhigaaGreatDoorQLawDisk
import Derived.Test.YtjmkagakdhhigaaGreatDoorQPoolHeal
import Derived.Test.YtjmkagakdhhigaaGreatDoorQCrcMath
import Derived.Test.YtjmkagakdhhigaaGreatDoorQWeightMath
import Derived.Test.YtjmkagakdhhigaaGreatDoorQEdges
import Derived.Test.YtjmkagakdhhigaaGreatDoorQExtA
set_option linter.unusedVariables false
set_option linter.unusedSimpArgs false
set_option maxRecDepth 100000
namespace Go.Proofs.YtjmkagakdhhigaaGreatDoor
open Go.RowKit
section
variable {K:DiskOk} {w0 w:World} {B:PB} {S:Nat→Prop} {p:Pst} {N Q A C:Nat} {V:Vw} {ns:List (List UInt8)} {nm:List UInt8} {rs:List (List UInt8)}
end
section
variable {K:DiskOk} {w0 w1 w:World} {B:PB} {S:Nat→Prop} {p:Pst} {N Q A C:Nat} {V:Vw} {ns:List (List UInt8)} {nm:List UInt8} {rs:List (List UInt8)}
theorem PJ.rebase (h:PJ K w1 B p S w) (k:Keeps w0 w1):PJ K w0 B p S w:=by
 obtain ⟨Fd,Fp,X,sl,rfl,h⟩:=h
 exact ⟨Fd,Fp,X,sl,rfl,⟨h.D.D,fun i hi=>Nat.le_trans k.size (h.D.low i hi),zK k h.D.kp⟩,h.I,h.fr,h.ok,fun i hi=>Nat.le_trans k.size (h.low i hi),h.ap⟩
theorem ExS.rebase (h:ExS K w1 B N Q A C p V ns S w) (k:Keeps w0 w1):ExS K w0 B N Q A C p V ns S w:=⟨h.pj.rebase k,h.runs,h.tid,h.pk⟩
end
theorem info_edge4:(Tryz.prog.info? 42).map (fun i=>(i.zero,i.size,i.bytes))=some (some (.agg #[.int .u32 0, .int .u32 0, .int .u64 0, .int .u32 0]),4,24):=by kernel_rfl
def key12 (hd:Bool) (e:Ed):Nat:=if hd=true then e.h*4294967296+e.t else e.t*4294967296+e.h
theorem key_or (t h:Nat) (ht:t<4294967296) (hh:h<4294967296):bits .or .u64 (IntKind.u64.wrap ((t:Int)*4294967296)) (h:Int)=((t*4294967296+h:Nat):Int):=by
 rw [show ((t:Int)*4294967296)=((t*4294967296:Nat):Int) by omega,IntWalk.u64_in _ ⟨by omega,by omega⟩,u64_or_nat _ _ (by omega) (by omega),nat_join 32 _ h (by simp) (by omega)]
theorem key_or2 (t h:Nat) (ht:t<4294967296) (hh:h<4294967296):bits .or .u64 (IntKind.u64.wrap (IntKind.u64.wrap (t:Int)*4294967296)) (IntKind.u64.wrap (h:Int))=((t*4294967296+h:Nat):Int):=by
 rw [IntWalk.u64_in (t:Int) ⟨by omega,by omega⟩,IntWalk.u64_in (h:Int) ⟨by omega,by omega⟩,key_or t h ht hh]
theorem key_lt {a b:Ed} (ha:EdOk a) (hb:EdOk b) (hd:Bool):key12 hd a<key12 hd b↔ahB hd a b=true:=by
 obtain ⟨a1,a2,-,-⟩:=ha
 obtain ⟨b1,b2,-,-⟩:=hb
 rw [ahB_true]
 unfold key12
 cases hd
 · simp only [Bool.false_eq_true,if_false]
   omega
 · simp only [if_true]
   omega
theorem rise_next {hd:Bool} {l:List Ed} (h:RiseB hd l) {i:Nat} {a b:Ed} (ha:l[i]? = some a) (hb:l[i+1]? = some b):ahB hd a b=true:=by
 obtain ⟨h1,e1⟩:=List.getElem?_eq_some_iff.1 ha
 obtain ⟨h2,e2⟩:=List.getElem?_eq_some_iff.1 hb
 have:=(List.pairwise_iff_getElem.1 h) i (i+1) h1 h2 (by omega)
 rwa [e1,e2] at this
theorem ed_ways {x y:Ed} (heq:x≠y):((x.t:Int) == (y.t:Int))=false∨(((x.t:Int) == (y.t:Int))=true∧((x.h:Int) == (y.h:Int))=false)∨(((x.t:Int) == (y.t:Int))=true∧((x.h:Int) == (y.h:Int))=true∧((x.x:Int) == (y.x:Int))=false)∨(((x.t:Int) == (y.t:Int))=true∧((x.h:Int) == (y.h:Int))=true∧((x.x:Int) == (y.x:Int))=true∧((x.m:Int) == (y.m:Int))=false):=by
 simp only [beq_eq_false_iff_ne,beq_iff_eq,ne_eq,Int.natCast_inj]
 by_cases h1:x.t=y.t
 · by_cases h2:x.h=y.h
   · by_cases h3:x.x=y.x
     · by_cases h4:x.m=y.m
       · exact absurd (by cases x;cases y;simp_all) heq
       · exact .inr (.inr (.inr ⟨h1,h2,h3,h4⟩))
     · exact .inr (.inr (.inl ⟨h1,h2,h3⟩))
   · exact .inr (.inl ⟨h1,h2⟩)
 · exact .inl h1
theorem pair_ways {x y:Ed} (hp:¬ Pair x y):((x.t:Int) == (y.t:Int))=false∨(((x.t:Int) == (y.t:Int))=true∧((x.h:Int) == (y.h:Int))=false):=by
 simp only [beq_eq_false_iff_ne,beq_iff_eq,ne_eq,Int.natCast_inj]
 by_cases h1:x.t=y.t
 · exact .inr ⟨h1,fun h2=>hp ⟨h1,h2⟩⟩
 · exact .inl h1
theorem pair_yes {x y:Ed} (hp:Pair x y):((x.t:Int) == (y.t:Int))=true∧((x.h:Int) == (y.h:Int))=true:=by
 simp only [beq_iff_eq,Int.natCast_inj]
 exact hp
theorem edsC_snoc {a:List Ed} {j:Nat} {x:Ed} (hx:a[j]? = some x):edsC (a.take j)++edC x=edsC (a.take (j+1)):=by
 obtain ⟨h1,h2⟩:=List.getElem?_eq_some_iff.1 hx
 rw [List.take_succ_eq_append_getElem h1,h2]
 simp [edsC]
def Known (l:List Ed) (k:Nat) (x:Ed) (b:Bool):Prop:=b=true∨∀ i:Nat,i<k→l[i]? ≠ some x
theorem Known.next {l:List Ed} {k:Nat} {x y:Ed} {b:Bool} (h:Known l k x b) (hy:l[k]? = some y) (hne:y≠x):Known l (k+1) x b:=by
 rcases h with h|h
 · exact .inl h
 · refine .inr fun i hi e=>?_
   by_cases hik:i=k
   · subst hik
     rw [hy] at e
     exact hne (Option.some.inj e)
   · exact h i (by omega) e
theorem Known.all {l:List Ed} {x:Ed} {b:Bool} (h:Known l l.length x b) (hm:x∈l):b=true:=by
 rcases h with h|h
 · exact h
 · obtain ⟨i,hi⟩:=List.getElem?_of_mem hm
   exact absurd hi (h i (List.getElem?_eq_some_iff.1 hi).1)
def KnownP (a:List Ed) (k:Nat) (x:Ed) (b:Bool):Prop:=b=true∨(x.t≠x.h∧∀ (i:Nat) (y:Ed),i<k→a[i]? = some y→¬ Pair y x)
theorem KnownP.next {a:List Ed} {k:Nat} {x y:Ed} {b:Bool} (h:KnownP a k x b) (hy:a[k]? = some y) (hne:¬ Pair y x):KnownP a (k+1) x b:=by
 rcases h with h|⟨h0,h⟩
 · exact .inl h
 · refine .inr ⟨h0,fun i z hi e=>?_⟩
   by_cases hik:i=k
   · subst hik
     rw [hy] at e
     obtain rfl:=Option.some.inj e
     exact hne
   · exact h i z (by omega) e
theorem KnownP.all {hd:Bool} {l a:List Ed} {x:Ed} {b:Bool} (h:KnownP a a.length x b) (hr:RedB hd l a) (hm:x∈l):b=true:=by
 rcases h with h|⟨h0,h⟩
 · exact h
 · obtain ⟨y,hy,hp⟩:=hr.all x hm h0
   obtain ⟨i,hi⟩:=List.getElem?_of_mem hy
   exact absurd hp.symm (h i y (List.getElem?_eq_some_iff.1 hi).1 hi)
set_option maxHeartbeats 64000000 in
theorem order12_f (K:DiskOk) (PK:PageOk) (SK:SortOk K) (w:World) (hZ:K.Z w) (hS:Sizes w) (n1:Nat) (hn1:n1<256) {Al:Option Addr} {m c:Nat} {l:List Ed} (hB:At w w.heap.size Al (edsC l)) (hok:∀ e∈l,EdOk e) (hm:m=l.length) :
 Calls Tryz.prog 3 #[.int .u8 (n1:Int), .slice Al m c, .bool false] w (Yes12 w):=by
 have WK:=zH (fun (W:World) (k:Keeps w W)=>works12 K PK SK W (K.keep hZ k) (hS.keep k))
 have HZ:=zH hZ
 have HS:=zH hS
 by_cases h6:600<m
 · have h6':(600:Int)<(m:Int):=by omega
   clear hB hok hm h6
   go_enter Tryz.func3,Tryz.ntmps3
   go_wp2_with fail
   refine (WK.out w (keeps_refl w)).mono ?_
   rintro e w1 ⟨rfl,k1⟩
   have K1:=zH k1
   clear k1
   go_wp2_with fail
   go_ret
   exact ⟨rfl,K1.out⟩
 · have h6':decide ((600:Int)<(m:Int))=false:=decide_eq_false (by omega)
   have h6'':decide (600<m)=false:=decide_eq_false (by omega)
   obtain ⟨i0,hi,hz0,hz1,hz2⟩:=info_parts info_edge4
   have FR:=zH (frames8_any n1 hn1 w)
   obtain ⟨N,hN⟩:∃ N,N=8+n1%56:=⟨_,rfl⟩
   have N8:=zH (show 8≤N∧N≤4096 by omega)
   rw [←hN] at FR
   have BG:=zH (begun12_any K PK w hZ hS (n:=N) (Q:=65536) ⟨by omega,by omega⟩ (by decide) (c:=c) hB hok hm (by omega))
   have HB:=zH hB
   have HOK:=zH hok
   have HM:=zH (show m=l.length∧m≤600 from ⟨hm,by omega⟩)
   have hm600:(m:Int)≤600:=by omega
   clear hB hok hm h6 hN
   go_enter Tryz.func3,Tryz.ntmps3
   go_wp2_with fail
   refine FR.out.mono ?_
   rintro e w' ⟨rfl,rfl⟩
   go_wp2_with fail
   refine BG.out.mono ?_
   rintro e w1 ⟨B,S,p,V,rfl,x1,s1,d1⟩
   have SO:=zH (SK.sort (nmO:=outN) (bi:=0) (x1.more (A':=61) (C':=50) (by decide) (Nat.le_refl _) (by decide)) HZ.out HS.out N8.out.1 N8.out.2 s1 HOK.out d1 (by decide) (by decide) (by decide) (by decide) (by decide) (by decide) (by have:=HM.out;omega) (by have:=HM.out;omega))
   rw [strIn12,strOut12] at SO
   clear x1 s1 d1 BG
   go_wp2_with fail
   refine SO.out.mono ?_
   rintro e w2 ⟨E,q,V',ns',S',rfl,x2,-,⟨rfl,⟨a,ha,hV⟩,rfl,d2,-⟩|⟨-,hbad,-⟩⟩
   rotate_left
   · exact absurd hbad (by decide)
   have T2:=zH (show IsS V' outN 20 (a.map edB) from ⟨⟨by decide,by decide⟩,fun r hr=>by
    obtain ⟨y,-,rfl⟩:=List.mem_map.1 hr
    exact edB_len y,by rw [hV,upV_self]⟩)
   have RA:=zH (show RedB false l a from ha)
   have AL:=zH (show a.length≤600 by have:=ha.len_le;have:=HM.out;omega)
   have OKA:=zH (show ∀ e∈a,EdOk e from fun e he=>HOK.out e (ha.mem e he))
   have OP:=zH (sopen_any x2.pj HZ.out x2.runs (by decide) (show outN.length≤maxLen by decide) 20)
   have e0:openT q outN 20=0:=by
    unfold openT
    rw [if_neg (by decide),x2.tid.find T2.out.file]
   rw [strOut12,e0] at OP
   have X2:=zH x2
   clear x2 ha e0 hV d2 SO
   go_wp2_with fail
   refine OP.out.mono ?_
   rintro e w3 ⟨k3,⟨-,-,-,sb,rfl,hs,hlt⟩|⟨hne,-⟩⟩
   rotate_left
   · exact absurd rfl hne
   have hs:StrAt w3 sb B.pb outN 20:=hs
   have N3:=zH (show ¬ S' sb from fun e=>by have:=X2.out.pj.lt _ e;omega)
   have LN:=zH (x_len PK (X2.out.keep k3) HZ.out HS.out N8.out.2 hs N3.out T2.out)
   have S3:=zH hs
   clear k3 hs hlt OP
   go_wp2_with fail
   refine LN.out.mono ?_
   rintro e w4 ⟨E,n,q4,S4,rfl,x4,t4,-,⟨rfl,hn4⟩|⟨-,-,hbad⟩⟩
   rotate_left
   · exact absurd hbad (by decide)
   rw [List.length_map] at hn4
   subst hn4
   have X4:=zH x4
   have B4:=zH (S3.out.turn t4 N3.out)
   have N4:=zH (t4.notIn S3.out.lt N3.out)
   have hal:(a.length:Int)≤600:=by have:=AL.out;omega
   clear x4 t4 LN
   go_wp2_with fail
   go_loopw [13,14] (fun v i wr=>∃ (j:Nat) (q:Pst) (S:Nat→Prop),j≤a.length∧i = .int .i64 j∧Own wr w.heap.size 42 4 v j (edsC (a.take j))∧(∀ g,v.ownBlock=some g→¬ S g)∧ExS K w B N 65536 61 50 q V' [outN,inN] S wr∧StrAt wr sb B.pb outN 20∧¬ S sb) (fun _ i _=>a.length-(intOf i).toNat)
   case atStart=>exact ⟨0,q4,S4,Nat.zero_le _,rfl,Own.nil _ _ _ _,fun g hg=>by simp [Value.ownBlock] at hg,X4.out,B4.out,N4.out⟩
   case round=>
    obtain ⟨j,q5,S5,hj,rfl,hO,hF,hx5,hb5,hn5⟩:=hrel
    have HO:=zH hO
    have HF:=zH hF
    have X5:=zH hx5
    have B5:=zH hb5
    have N5:=zH hn5
    obtain ⟨Av,cv,rfl,hcv,-,-,-⟩:=hO.form
    clear hO hF hx5 hb5 hn5
    by_cases hlt:j<a.length
    · obtain ⟨x,hx⟩:∃ x,a[j]? = some x:=⟨_,List.getElem?_eq_getElem hlt⟩
      have okx:=OKA.out x (List.mem_of_getElem? hx)
      have hji:(j:Int)<(a.length:Int):=by omega
      have hj6:(j:Int)<600:=by have:=AL.out;omega
      have GT:=zH (x_get PK X5.out HZ.out HS.out N8.out.2 B5.out N5.out T2.out j ⟨by omega,by omega⟩ (r:=edB x) (by rw [List.getElem?_map,hx];rfl))
      have HX:=zH hx
      have OKX:=zH okx
      have HJ:=zH hlt
      have xo:=zH (RA.out.loop x (List.mem_of_getElem? hx))
      have t1:((x.t:Int) == (x.h:Int))=false:=by rw [beq_eq_false_iff_ne];have:=xo.out;omega
      clear hx okx hlt hj
      go_wp2_with fail
      refine GT.out.mono ?_
      rintro e w6 ⟨E,t,q6,v6,S6,rfl,o6,n6,x6,t6,-,⟨rfl,rfl⟩|⟨-,-,hbad⟩⟩
      rotate_left
      · exact absurd hbad (by decide)
      obtain ⟨A6,c6,rfl,hc6,-,-,-⟩:=o6.form
      have el:(edB x).length=20:=edB_len _
      rw [el] at hc6
      have RD:=zH (readEdge_yes A6 c6 (edB x) w6 (Own.at_ o6) el hc6)
      obtain ⟨n0,n1,n2,n3⟩:=edB_nums OKX.out
      rw [n0,n1,n2,n3] at RD
      obtain ⟨o7,f7⟩:=own_far HO.out HF.out t6
      have X6:=zH x6
      have O7:=zH o7
      have F7:=zH f7
      have B7:=zH (B5.out.turn t6 N5.out)
      have N7:=zH (t6.notIn B5.out.lt N5.out)
      rw [el]
      clear o6 n6 x6 hc6 el n0 n1 n2 n3 GT t6 o7 f7
      go_wp2_with fail
      refine RD.out.mono ?_
      rintro e w7 ⟨rfl,k7⟩
      have ky:=zA w7 (.cells #[.int .u32 (x.t:Int), .int .u32 (x.h:Int), .int .u64 (x.x:Int), .int .u32 (x.m:Int)] 42)
      have K7:=zH (zK k7 ky)
      have YB:=zH (EdBox.new w7 42 x)
      obtain ⟨y0,y1,y2,y3⟩:=YB.out.cells
      have NX:=zH (edsC_snoc HX.out)
      clear k7 ky RD
      rcases j with _|j
      · have XW:=zH (X6.out.keep K7.out)
        have OW:=zH (O7.out.keep K7.out)
        have BW:=zH (B7.out.keep K7.out)
        have hp:(0:Int)<(a.length:Int):=by omega
        rw [show ((0:Nat):Int)=0 from rfl]
        clear K7
        have AT:=zH (show At (((w7.alloc (.cells #[.int .u32 (x.t:Int), .int .u32 (x.h:Int), .int .u64 (x.x:Int), .int .u32 (x.m:Int)] 42))).alloc (.cells #[.int .u32 (x.t:Int), .int .u32 (x.h:Int), .int .u64 (x.x:Int), .int .u32 (x.m:Int)] 42)) (w7.heap.size+2) (some ⟨w7.heap.size+1,0,none⟩) (edC x) by
         have h:=At.new (w7.alloc (.cells #[.int .u32 (x.t:Int), .int .u32 (x.h:Int), .int .u64 (x.x:Int), .int .u32 (x.m:Int)] 42)) (edC x) 42 (w7.heap.size+2) (by simp)
         rw [World.size_alloc] at h
         exact h)
        go_wp2_with (at_builtin;refine wpList_app _ rfl _ _ 22 rfl w.heap.size 42 i0 (.agg #[.int .u32 0, .int .u32 0, .int .u64 0, .int .u32 0]) 4 24 Tryz.underlying22 hi hz0 hz1 hz2 rfl (by decide) _ 0 (edsC (a.take 0)) rfl (OW.out.keep (zA _ _)) _ _ 1 1 (edC x) rfl rfl AT.out (by intro u hu;exact edsC_ones [x] u (by simpa [edsC] using hu)) (by unfold maxLen;omega) (by omega) (zK XW.out.pj.kp (zA _ _)).size ?_)
        intro v8 w8 o8 g8 b8
        have ka:=zA (w7.alloc (.cells #[.int .u32 (x.t:Int), .int .u32 (x.h:Int), .int .u64 (x.x:Int), .int .u32 (x.m:Int)] 42)) (.cells #[.int .u32 (x.t:Int), .int .u32 (x.h:Int), .int .u64 (x.x:Int), .int .u32 (x.m:Int)] 42)
        have X8:=zH ((XW.out.keep ka).only (grown_only g8) (fun i e=>(OW.out.lt i e).1) (fun i hi e=>F7.out i e hi))
        have B8:=zH (Box.grownX (Box.keep BW.out ka) g8 ((OW.out.keep ka).not_boxS (Box.keep BW.out ka) str_ed))
        have F8:=zH (far_grown (XW.out.keep ka) F7.out (by simp) b8)
        have O8:=zH (show Own w8 w.heap.size 42 4 v8 (0+1) (edsC (a.take (0+1))) by rw [←NX.out];exact o8)
        clear o8 g8 b8 ka
        go_wp2_with fail
        refine ⟨⟨0+1,q6,S6,by have:=HJ.out;omega,by go_num,O8.out,F8.out,X8.out,B8.out,N7.out⟩,?_⟩
        have:=HJ.out
        (simp [intOf];try omega)
      · obtain ⟨y,hy⟩:∃ y,(a.take (j+1))[j]? = some y:=⟨_,List.getElem?_eq_getElem (by rw [List.length_take];have:=HJ.out;omega)⟩
        have hya:a[j]? = some y:=by rw [List.getElem?_take,if_pos (by omega)] at hy;exact hy
        obtain ⟨ad,rfl,-,hE⟩:=eds_at (Own.at_ O7.out) hy
        have HE:=zH hE
        obtain ⟨z0,z1,z2,z3⟩:=hE.keep K7.out
        have oky:=OKA.out y (List.mem_of_getElem? hya)
        have hkl:=(key_lt oky OKX.out false).2 (rise_next RA.out.rise hya HX.out)
        have e1:=key_or2 y.t y.h oky.t oky.h
        have e2:=key_or2 x.t x.h OKX.out.t OKX.out.h
        have e3:=key_or2 y.h y.t oky.h oky.t
        have e4:=key_or2 x.h x.t OKX.out.h OKX.out.t
        unfold key12 at hkl
        simp only [if_true,Bool.false_eq_true,if_false] at hkl
        obtain ⟨u1,hu1⟩:∃ n,n=y.t*4294967296+y.h:=⟨_,rfl⟩
        rw [←hu1] at e1 hkl
        clear hu1
        obtain ⟨u2,hu2⟩:∃ n,n=x.t*4294967296+x.h:=⟨_,rfl⟩
        rw [←hu2] at e2 hkl
        clear hu2
        obtain ⟨u3,hu3⟩:∃ n,n=y.h*4294967296+y.t:=⟨_,rfl⟩
        rw [←hu3] at e3
        clear hu3
        obtain ⟨u4,hu4⟩:∃ n,n=x.h*4294967296+x.t:=⟨_,rfl⟩
        rw [←hu4] at e4
        clear hu4
        have hk1:¬ (u2:Int)≤(u1:Int):=by omega
        have hk2:decide (u2≤u1)=false:=decide_eq_false (by omega)
        have jl2:(j:Int)+1<(a.length:Int):=by omega
        have j0:(0:Int)≤(j:Int):=by omega
        have jp:(0:Int)<(j:Int)+1:=by omega
        have hj5:(j:Int)+1<600:=by omega
        rw [show ((j+1:Nat):Int)=(j:Int)+1 from by omega] at hji hj6 ⊢
        have EE:=zH (And.intro e1 (And.intro e2 (And.intro e3 e4)))
        clear hkl oky hya hy hE hji hj6 e1 e2 e3 e4
        go_wp2_with fail
        obtain ⟨e1,e2,e3,e4⟩:=EE.out
        go_quiet (fail)
        clear y0 y1 y2 y3 z0 z1 z2 z3
        have k9:=keeps_drewN (w7.alloc (.cells #[.int .u32 (x.t:Int), .int .u32 (x.h:Int), .int .u64 (x.x:Int), .int .u32 (x.m:Int)] 42)) nq
        generalize (w7.alloc (.cells #[.int .u32 (x.t:Int), .int .u32 (x.h:Int), .int .u64 (x.x:Int), .int .u32 (x.m:Int)] 42)).drewN nq=wq at *
        have KQ:=zH (zK K7.out k9)
        have YQ:=zH (YB.out.keep k9)
        obtain ⟨y0,y1,y2,y3⟩:=YQ.out.cells
        obtain ⟨z0,z1,z2,z3⟩:=HE.out.keep KQ.out
        clear k9
        have XW:=zH (X6.out.keep KQ.out)
        have OW:=zH (O7.out.keep KQ.out)
        have BW:=zH (B7.out.keep KQ.out)
        have AT:=zH (At.new wq (edC x) 42 _ (Nat.lt_succ_self _))
        go_wp2_with (at_builtin;refine wpList_app _ rfl _ _ 22 rfl w.heap.size 42 i0 (.agg #[.int .u32 0, .int .u32 0, .int .u64 0, .int .u32 0]) 4 24 Tryz.underlying22 hi hz0 hz1 hz2 rfl (by decide) _ (j+1) (edsC (a.take (j+1))) rfl (OW.out.keep (zA _ _)) _ _ 1 1 (edC x) rfl rfl AT.out (by intro u hu;exact edsC_ones [x] u (by simpa [edsC] using hu)) (by unfold maxLen;omega) (by omega) (zK XW.out.pj.kp (zA _ _)).size ?_)
        intro v8 w8 o8 g8 b8
        have ka:=zA wq (.cells #[.int .u32 (x.t:Int), .int .u32 (x.h:Int), .int .u64 (x.x:Int), .int .u32 (x.m:Int)] 42)
        have X8:=zH ((XW.out.keep ka).only (grown_only g8) (fun i e=>(OW.out.lt i e).1) (fun i hi e=>F7.out i e hi))
        have B8:=zH (Box.grownX (Box.keep BW.out ka) g8 ((OW.out.keep ka).not_boxS (Box.keep BW.out ka) str_ed))
        have F8:=zH (far_grown (XW.out.keep ka) F7.out (by simp) b8)
        have O8:=zH (show Own w8 w.heap.size 42 4 v8 ((j+1)+1) (edsC (a.take ((j+1)+1))) by rw [←NX.out];exact o8)
        clear o8 g8 b8 ka
        go_wp2_with fail
        refine ⟨⟨(j+1)+1,q6,S6,by have:=HJ.out;omega,by go_num,O8.out,F8.out,X8.out,B8.out,N7.out⟩,?_⟩
        have:=HJ.out
        (simp [intOf];try omega)
    · obtain rfl:j=a.length:=by omega
      have OA:=zH (show At wr wr.heap.size Av (edsC a) from by have:=Own.at_ HO.out;rwa [List.take_length] at this)
      have LA:=zH (show At wr w.heap.size Al (edsC l) from HB.out.keep X5.out.pj.kp)
      have KP:=zH X5.out.pj.kp
      clear HO HF X5 B5 N5 hj hlt hcv
      rename World=>w9
      go_wp2_with fail
      go_loopw [20,21,22] (fun i _ _ wr=>∃ i':Nat,i'≤a.length∧i = .int .i64 i'∧Keeps w9 wr) (fun i _ _ _=>a.length-(intOf i).toNat)
      case atStart=>exact ⟨0,Nat.zero_le _,rfl,keeps_refl _⟩
      case round=>
       obtain ⟨i,hil,rfl,hk⟩:=hrel
       have HK:=zH hk
       clear hk
       by_cases hlt:i<a.length
       · obtain ⟨x,hx⟩:∃ x,a[i]? = some x:=⟨_,List.getElem?_eq_getElem hlt⟩
         obtain ⟨ad,rfl,-,hE⟩:=eds_at OA.out hx
         have HE:=zH hE
         have XM:=zH (List.mem_of_getElem? hx)
         have HI:=zH hlt
         have i1:(i:Int)<(a.length:Int):=by omega
         have i2:(i:Int)<600:=by omega
         have ii0:(0:Int)≤(i:Int):=by omega
         clear hlt hil hx hE
         go_wp2_with fail
         go_loopw [21,22] (fun one k wr=>∃ (b:Bool) (k':Nat),one = .bool b∧k'≤m∧k = .int .i64 k'∧Known l k' x b∧Keeps w9 wr) (fun _ k _=>m-(intOf k).toNat)
         case atStart=>exact ⟨false,0,rfl,Nat.zero_le _,rfl, .inr fun i h=>by omega,HK.out⟩
         case round=>
          obtain ⟨b,k,rfl,hkm,rfl,hkn,hk⟩:=hrel
          have HK2:=zH hk
          have KN:=zH hkn
          obtain ⟨x0,x1,x2,x3⟩:=HE.out.keep hk
          clear hk hkn
          by_cases hlt:k<m
          · obtain ⟨z,hz⟩:∃ z,l[k]? = some z:=⟨_,List.getElem?_eq_getElem (by have:=HM.out;omega)⟩
            obtain ⟨ad2,rfl,-,hF⟩:=eds_at LA.out hz
            obtain ⟨z0,z1,z2,z3⟩:=hF.keep HK2.out
            have HF:=zH hF
            have HZ':=zH hz
            have HKM:=zH hlt
            have k0:(0:Int)≤(k:Int):=by omega
            have k1:(k:Int)<(m:Int):=by omega
            have k2:(k:Int)<600:=by omega
            have hbe:=fun hp=>RA.out.best x XM.out z (List.mem_of_getElem? hz) hp
            clear hlt hkm hF hz
            by_cases heq:z=x
            · subst heq
              clear hbe
              go_wp2_with fail
              go_quiet (fail)
              clear x0 x1 x2 x3 z0 z1 z2 z3
              have k9:=zK HK2.out (keeps_drewN wr nq)
              generalize wr.drewN nq=wq at *
              obtain ⟨x0,x1,x2,x3⟩:=HE.out.keep k9
              obtain ⟨z0,z1,z2,z3⟩:=HF.out.keep k9
              go_wp2_with fail
              go_quiet (fail)
              go_wp2_with fail
              go_roundw
              case rel=>exact ⟨true,k+1,rfl,by have:=HKM.out;omega,by go_num, .inl rfl,zK k9 (keeps_drewN _ _)⟩
              case measure=>have:=HKM.out;simp [intOf];omega
            · have NXT:=zH (KN.out.next HZ'.out heq)
              by_cases hp:Pair z x
              · have e4:decide (z.x<x.x)=false:=decide_eq_false (fun h=>by
                 have:=hbe hp
                 simp [betE,betB,h] at this)
                have ways:((z.t:Int) == (x.t:Int))=true∧((z.h:Int) == (x.h:Int))=true∧(((z.x:Int) == (x.x:Int))=false∨(((z.x:Int) == (x.x:Int))=true∧((z.m:Int) == (x.m:Int))=false)):=by
                 obtain ⟨p1,p2⟩:=pair_yes hp
                 rcases ed_ways heq with h|⟨_,h⟩|⟨_,_,h⟩|⟨_,_,h3,h4⟩
                 · rw [p1] at h;cases h
                 · rw [p2] at h;cases h
                 · exact ⟨p1,p2, .inl h⟩
                 · exact ⟨p1,p2, .inr ⟨h3,h4⟩⟩
                clear hp heq hbe
                obtain ⟨g1,g2,g3|⟨g3,g4⟩⟩:=ways
                all_goals
                 go_wp2_with fail
                 go_quiet (fail)
                 clear x0 x1 x2 x3 z0 z1 z2 z3
                 have k9:=zK HK2.out (keeps_drewN wr nq)
                 generalize wr.drewN nq=wq at *
                 obtain ⟨x0,x1,x2,x3⟩:=HE.out.keep k9
                 obtain ⟨z0,z1,z2,z3⟩:=HF.out.keep k9
                 go_wp2_with fail
                 go_quiet (fail)
                 go_wp2_with fail
                 go_roundw
                 case rel=>exact ⟨b,k+1,rfl,by have:=HKM.out;omega,by go_num,NXT.out,zK k9 (keeps_drewN _ _)⟩
                 case measure=>have:=HKM.out;simp [intOf];omega
              · have ways:=pair_ways hp
                clear hp heq hbe
                rcases ways with g1|⟨g1,g2⟩
                all_goals
                 go_wp2_with fail
                 go_quiet (fail)
                 clear x0 x1 x2 x3 z0 z1 z2 z3
                 have k9:=zK HK2.out (keeps_drewN wr nq)
                 generalize wr.drewN nq=wq at *
                 obtain ⟨x0,x1,x2,x3⟩:=HE.out.keep k9
                 obtain ⟨z0,z1,z2,z3⟩:=HF.out.keep k9
                 go_wp2_with fail
                 go_quiet (fail)
                 go_wp2_with fail
                 go_roundw
                 case rel=>exact ⟨b,k+1,rfl,by have:=HKM.out;omega,by go_num,NXT.out,zK k9 (keeps_drewN _ _)⟩
                 case measure=>have:=HKM.out;simp [intOf];omega
          · obtain rfl:k=m:=by omega
            obtain rfl:b=true:=by
             have h1:=HM.out.1
             have h2:=KN.out
             rw [h1] at h2
             exact h2.all (RA.out.mem x XM.out)
            clear hlt hkm x0 x1 x2 x3
            go_wp2_with fail
            go_roundw
            case rel=>exact ⟨i+1,by have:=HI.out;omega,by go_num,HK2.out⟩
            case measure=>have:=HI.out;simp [intOf];omega
       · obtain rfl:i=a.length:=by omega
         clear hlt hil
         go_wp2_with fail
         go_loopw [23,24,25] (fun k _ _ wr=>∃ k':Nat,k'≤m∧k = .int .i64 k'∧Keeps w9 wr) (fun k _ _ _=>m-(intOf k).toNat)
         case atStart=>exact ⟨0,Nat.zero_le _,rfl,HK.out⟩
         case round=>
          obtain ⟨k,hkm,rfl,hk⟩:=hrel
          have HK:=zH hk
          clear hk
          by_cases hlt:k<m
          · obtain ⟨z,hz⟩:∃ z,l[k]? = some z:=⟨_,List.getElem?_eq_getElem (by have:=HM.out;omega)⟩
            obtain ⟨ad2,rfl,-,hF⟩:=eds_at LA.out hz
            obtain ⟨z0,z1,z2,z3⟩:=hF.keep HK.out
            have HF:=zH hF
            have ZM:=zH (List.mem_of_getElem? hz)
            have HKM:=zH hlt
            have k0:(0:Int)≤(k:Int):=by omega
            have k1:(k:Int)<(m:Int):=by omega
            have k2:(k:Int)<600:=by omega
            clear hlt hkm hF hz
            obtain ⟨b0,g0,K0⟩:∃ b0,((z.t:Int) == (z.h:Int))=b0∧Hid (KnownP a 0 z b0):=by
             by_cases h:z.t=z.h
             · exact ⟨true,by rw [beq_iff_eq];omega,zH (.inl rfl)⟩
             · exact ⟨false,by rw [beq_eq_false_iff_ne];omega,zH (.inr ⟨h,fun i y hi=>by omega⟩)⟩
            go_wp2_with fail
            go_quiet (fail)
            clear z0 z1 z2 z3
            have k9:=zK HK.out (keeps_drewN wr nq)
            generalize wr.drewN nq=wq at *
            have KQ:=zH k9
            clear k9
            go_wp2_with fail
            go_loopw [24,25] (fun th i wr=>∃ (b:Bool) (i':Nat),th = .bool b∧i'≤a.length∧i = .int .i64 i'∧KnownP a i' z b∧Keeps w9 wr) (fun _ i _=>a.length-(intOf i).toNat)
            case atStart=>exact ⟨b0,0,rfl,Nat.zero_le _,rfl,K0.out,KQ.out⟩
            case round=>
             obtain ⟨b,i,rfl,hil,rfl,hkn,hk⟩:=hrel
             have HK2:=zH hk
             have KN:=zH hkn
             obtain ⟨z0,z1,z2,z3⟩:=HF.out.keep hk
             clear hk hkn
             by_cases hlt:i<a.length
             · obtain ⟨y,hy⟩:∃ y,a[i]? = some y:=⟨_,List.getElem?_eq_getElem hlt⟩
               obtain ⟨ad,rfl,-,hE⟩:=eds_at OA.out hy
               obtain ⟨y0,y1,y2,y3⟩:=hE.keep HK2.out
               have HY:=zH hy
               have HI:=zH hlt
               have i1:(i:Int)<(a.length:Int):=by omega
               have i2:(i:Int)<600:=by omega
               have ii0:(0:Int)≤(i:Int):=by omega
               clear hlt hil hy hE g0
               cases b
               · by_cases hp:Pair y z
                 · obtain ⟨g1,g2⟩:=pair_yes hp
                   clear hp
                   go_wp2_with fail
                   go_quiet (fail)
                   go_wp2_with fail
                   go_roundw
                   case rel=>exact ⟨true,i+1,rfl,by have:=HI.out;omega,by go_num, .inl rfl,zK HK2.out (keeps_drewN _ _)⟩
                   case measure=>have:=HI.out;simp [intOf];omega
                 · have NXT:=zH (KN.out.next HY.out hp)
                   have ways:=pair_ways hp
                   clear hp
                   rcases ways with g1|⟨g1,g2⟩
                   all_goals
                    go_wp2_with fail
                    go_quiet (fail)
                    go_wp2_with fail
                    go_roundw
                    case rel=>exact ⟨false,i+1,rfl,by have:=HI.out;omega,by go_num,NXT.out,zK HK2.out (keeps_drewN _ _)⟩
                    case measure=>have:=HI.out;simp [intOf];omega
               · clear y0 y1 y2 y3 z0 z1 z2 z3
                 go_wp2_with fail
                 go_quiet (fail)
                 go_wp2_with fail
                 go_roundw
                 case rel=>exact ⟨true,i+1,rfl,by have:=HI.out;omega,by go_num, .inl rfl,zK HK2.out (keeps_drewN _ _)⟩
                 case measure=>have:=HI.out;simp [intOf];omega
             · obtain rfl:i=a.length:=by omega
               obtain rfl:b=true:=KN.out.all RA.out ZM.out
               clear hlt hil z0 z1 z2 z3
               go_wp2_with fail
               go_roundw
               case rel=>exact ⟨k+1,by have:=HKM.out;omega,by go_num,HK2.out⟩
               case measure=>have:=HKM.out;simp [intOf];omega
          · have WW:=zH (WK.out wr (zK KP.out HK.out))
            have KE:=zH (zK KP.out HK.out)
            have hkm':¬ (k:Int)<(m:Int):=by omega
            clear hlt hkm
            go_wp2_with fail
            refine WW.out.mono ?_
            rintro e w16 ⟨rfl,k16⟩
            have K16:=zH (zK KE.out k16)
            clear k16
            go_wp2_with fail
            go_ret
            exact ⟨rfl,K16.out⟩
set_option maxHeartbeats 64000000 in
theorem order12_t (K:DiskOk) (PK:PageOk) (SK:SortOk K) (w:World) (hZ:K.Z w) (hS:Sizes w) (n1:Nat) (hn1:n1<256) {Al:Option Addr} {m c:Nat} {l:List Ed} (hB:At w w.heap.size Al (edsC l)) (hok:∀ e∈l,EdOk e) (hm:m=l.length) :
 Calls Tryz.prog 3 #[.int .u8 (n1:Int), .slice Al m c, .bool true] w (Yes12 w):=by
 have WK:=zH (fun (W:World) (k:Keeps w W)=>works12 K PK SK W (K.keep hZ k) (hS.keep k))
 have HZ:=zH hZ
 have HS:=zH hS
 by_cases h6:600<m
 · have h6':(600:Int)<(m:Int):=by omega
   clear hB hok hm h6
   go_enter Tryz.func3,Tryz.ntmps3
   go_wp2_with fail
   refine (WK.out w (keeps_refl w)).mono ?_
   rintro e w1 ⟨rfl,k1⟩
   have K1:=zH k1
   clear k1
   go_wp2_with fail
   go_ret
   exact ⟨rfl,K1.out⟩
 · have h6':decide ((600:Int)<(m:Int))=false:=decide_eq_false (by omega)
   have h6'':decide (600<m)=false:=decide_eq_false (by omega)
   obtain ⟨i0,hi,hz0,hz1,hz2⟩:=info_parts info_edge4
   have FR:=zH (frames8_any n1 hn1 w)
   obtain ⟨N,hN⟩:∃ N,N=8+n1%56:=⟨_,rfl⟩
   have N8:=zH (show 8≤N∧N≤4096 by omega)
   rw [←hN] at FR
   have BG:=zH (begun12_any K PK w hZ hS (n:=N) (Q:=65536) ⟨by omega,by omega⟩ (by decide) (c:=c) hB hok hm (by omega))
   have HB:=zH hB
   have HOK:=zH hok
   have HM:=zH (show m=l.length∧m≤600 from ⟨hm,by omega⟩)
   have hm600:(m:Int)≤600:=by omega
   clear hB hok hm h6 hN
   go_enter Tryz.func3,Tryz.ntmps3
   go_wp2_with fail
   refine FR.out.mono ?_
   rintro e w' ⟨rfl,rfl⟩
   go_wp2_with fail
   refine BG.out.mono ?_
   rintro e w1 ⟨B,S,p,V,rfl,x1,s1,d1⟩
   have SO:=zH (SK.sort (nmO:=outN) (bi:=1) (x1.more (A':=61) (C':=50) (by decide) (Nat.le_refl _) (by decide)) HZ.out HS.out N8.out.1 N8.out.2 s1 HOK.out d1 (by decide) (by decide) (by decide) (by decide) (by decide) (by decide) (by have:=HM.out;omega) (by have:=HM.out;omega))
   rw [strIn12,strOut12] at SO
   clear x1 s1 d1 BG
   go_wp2_with fail
   refine SO.out.mono ?_
   rintro e w2 ⟨E,q,V',ns',S',rfl,x2,-,⟨rfl,⟨a,ha,hV⟩,rfl,d2,-⟩|⟨-,hbad,-⟩⟩
   rotate_left
   · exact absurd hbad (by decide)
   have T2:=zH (show IsS V' outN 20 (a.map edB) from ⟨⟨by decide,by decide⟩,fun r hr=>by
    obtain ⟨y,-,rfl⟩:=List.mem_map.1 hr
    exact edB_len y,by rw [hV,upV_self]⟩)
   have RA:=zH (show RedB true l a from ha)
   have AL:=zH (show a.length≤600 by have:=ha.len_le;have:=HM.out;omega)
   have OKA:=zH (show ∀ e∈a,EdOk e from fun e he=>HOK.out e (ha.mem e he))
   have OP:=zH (sopen_any x2.pj HZ.out x2.runs (by decide) (show outN.length≤maxLen by decide) 20)
   have e0:openT q outN 20=0:=by
    unfold openT
    rw [if_neg (by decide),x2.tid.find T2.out.file]
   rw [strOut12,e0] at OP
   have X2:=zH x2
   clear x2 ha e0 hV d2 SO
   go_wp2_with fail
   refine OP.out.mono ?_
   rintro e w3 ⟨k3,⟨-,-,-,sb,rfl,hs,hlt⟩|⟨hne,-⟩⟩
   rotate_left
   · exact absurd rfl hne
   have hs:StrAt w3 sb B.pb outN 20:=hs
   have N3:=zH (show ¬ S' sb from fun e=>by have:=X2.out.pj.lt _ e;omega)
   have LN:=zH (x_len PK (X2.out.keep k3) HZ.out HS.out N8.out.2 hs N3.out T2.out)
   have S3:=zH hs
   clear k3 hs hlt OP
   go_wp2_with fail
   refine LN.out.mono ?_
   rintro e w4 ⟨E,n,q4,S4,rfl,x4,t4,-,⟨rfl,hn4⟩|⟨-,-,hbad⟩⟩
   rotate_left
   · exact absurd hbad (by decide)
   rw [List.length_map] at hn4
   subst hn4
   have X4:=zH x4
   have B4:=zH (S3.out.turn t4 N3.out)
   have N4:=zH (t4.notIn S3.out.lt N3.out)
   have hal:(a.length:Int)≤600:=by have:=AL.out;omega
   clear x4 t4 LN
   go_wp2_with fail
   go_loopw [13,14] (fun v i wr=>∃ (j:Nat) (q:Pst) (S:Nat→Prop),j≤a.length∧i = .int .i64 j∧Own wr w.heap.size 42 4 v j (edsC (a.take j))∧(∀ g,v.ownBlock=some g→¬ S g)∧ExS K w B N 65536 61 50 q V' [outN,inN] S wr∧StrAt wr sb B.pb outN 20∧¬ S sb) (fun _ i _=>a.length-(intOf i).toNat)
   case atStart=>exact ⟨0,q4,S4,Nat.zero_le _,rfl,Own.nil _ _ _ _,fun g hg=>by simp [Value.ownBlock] at hg,X4.out,B4.out,N4.out⟩
   case round=>
    obtain ⟨j,q5,S5,hj,rfl,hO,hF,hx5,hb5,hn5⟩:=hrel
    have HO:=zH hO
    have HF:=zH hF
    have X5:=zH hx5
    have B5:=zH hb5
    have N5:=zH hn5
    obtain ⟨Av,cv,rfl,hcv,-,-,-⟩:=hO.form
    clear hO hF hx5 hb5 hn5
    by_cases hlt:j<a.length
    · obtain ⟨x,hx⟩:∃ x,a[j]? = some x:=⟨_,List.getElem?_eq_getElem hlt⟩
      have okx:=OKA.out x (List.mem_of_getElem? hx)
      have hji:(j:Int)<(a.length:Int):=by omega
      have hj6:(j:Int)<600:=by have:=AL.out;omega
      have GT:=zH (x_get PK X5.out HZ.out HS.out N8.out.2 B5.out N5.out T2.out j ⟨by omega,by omega⟩ (r:=edB x) (by rw [List.getElem?_map,hx];rfl))
      have HX:=zH hx
      have OKX:=zH okx
      have HJ:=zH hlt
      have xo:=zH (RA.out.loop x (List.mem_of_getElem? hx))
      have t1:((x.t:Int) == (x.h:Int))=false:=by rw [beq_eq_false_iff_ne];have:=xo.out;omega
      clear hx okx hlt hj
      go_wp2_with fail
      refine GT.out.mono ?_
      rintro e w6 ⟨E,t,q6,v6,S6,rfl,o6,n6,x6,t6,-,⟨rfl,rfl⟩|⟨-,-,hbad⟩⟩
      rotate_left
      · exact absurd hbad (by decide)
      obtain ⟨A6,c6,rfl,hc6,-,-,-⟩:=o6.form
      have el:(edB x).length=20:=edB_len _
      rw [el] at hc6
      have RD:=zH (readEdge_yes A6 c6 (edB x) w6 (Own.at_ o6) el hc6)
      obtain ⟨n0,n1,n2,n3⟩:=edB_nums OKX.out
      rw [n0,n1,n2,n3] at RD
      obtain ⟨o7,f7⟩:=own_far HO.out HF.out t6
      have X6:=zH x6
      have O7:=zH o7
      have F7:=zH f7
      have B7:=zH (B5.out.turn t6 N5.out)
      have N7:=zH (t6.notIn B5.out.lt N5.out)
      rw [el]
      clear o6 n6 x6 hc6 el n0 n1 n2 n3 GT t6 o7 f7
      go_wp2_with fail
      refine RD.out.mono ?_
      rintro e w7 ⟨rfl,k7⟩
      have ky:=zA w7 (.cells #[.int .u32 (x.t:Int), .int .u32 (x.h:Int), .int .u64 (x.x:Int), .int .u32 (x.m:Int)] 42)
      have K7:=zH (zK k7 ky)
      have YB:=zH (EdBox.new w7 42 x)
      obtain ⟨y0,y1,y2,y3⟩:=YB.out.cells
      have NX:=zH (edsC_snoc HX.out)
      clear k7 ky RD
      rcases j with _|j
      · have XW:=zH (X6.out.keep K7.out)
        have OW:=zH (O7.out.keep K7.out)
        have BW:=zH (B7.out.keep K7.out)
        have hp:(0:Int)<(a.length:Int):=by omega
        rw [show ((0:Nat):Int)=0 from rfl]
        clear K7
        have AT:=zH (show At (((w7.alloc (.cells #[.int .u32 (x.t:Int), .int .u32 (x.h:Int), .int .u64 (x.x:Int), .int .u32 (x.m:Int)] 42))).alloc (.cells #[.int .u32 (x.t:Int), .int .u32 (x.h:Int), .int .u64 (x.x:Int), .int .u32 (x.m:Int)] 42)) (w7.heap.size+2) (some ⟨w7.heap.size+1,0,none⟩) (edC x) by
         have h:=At.new (w7.alloc (.cells #[.int .u32 (x.t:Int), .int .u32 (x.h:Int), .int .u64 (x.x:Int), .int .u32 (x.m:Int)] 42)) (edC x) 42 (w7.heap.size+2) (by simp)
         rw [World.size_alloc] at h
         exact h)
        go_wp2_with (at_builtin;refine wpList_app _ rfl _ _ 22 rfl w.heap.size 42 i0 (.agg #[.int .u32 0, .int .u32 0, .int .u64 0, .int .u32 0]) 4 24 Tryz.underlying22 hi hz0 hz1 hz2 rfl (by decide) _ 0 (edsC (a.take 0)) rfl (OW.out.keep (zA _ _)) _ _ 1 1 (edC x) rfl rfl AT.out (by intro u hu;exact edsC_ones [x] u (by simpa [edsC] using hu)) (by unfold maxLen;omega) (by omega) (zK XW.out.pj.kp (zA _ _)).size ?_)
        intro v8 w8 o8 g8 b8
        have ka:=zA (w7.alloc (.cells #[.int .u32 (x.t:Int), .int .u32 (x.h:Int), .int .u64 (x.x:Int), .int .u32 (x.m:Int)] 42)) (.cells #[.int .u32 (x.t:Int), .int .u32 (x.h:Int), .int .u64 (x.x:Int), .int .u32 (x.m:Int)] 42)
        have X8:=zH ((XW.out.keep ka).only (grown_only g8) (fun i e=>(OW.out.lt i e).1) (fun i hi e=>F7.out i e hi))
        have B8:=zH (Box.grownX (Box.keep BW.out ka) g8 ((OW.out.keep ka).not_boxS (Box.keep BW.out ka) str_ed))
        have F8:=zH (far_grown (XW.out.keep ka) F7.out (by simp) b8)
        have O8:=zH (show Own w8 w.heap.size 42 4 v8 (0+1) (edsC (a.take (0+1))) by rw [←NX.out];exact o8)
        clear o8 g8 b8 ka
        go_wp2_with fail
        refine ⟨⟨0+1,q6,S6,by have:=HJ.out;omega,by go_num,O8.out,F8.out,X8.out,B8.out,N7.out⟩,?_⟩
        have:=HJ.out
        (simp [intOf];try omega)
      · obtain ⟨y,hy⟩:∃ y,(a.take (j+1))[j]? = some y:=⟨_,List.getElem?_eq_getElem (by rw [List.length_take];have:=HJ.out;omega)⟩
        have hya:a[j]? = some y:=by rw [List.getElem?_take,if_pos (by omega)] at hy;exact hy
        obtain ⟨ad,rfl,-,hE⟩:=eds_at (Own.at_ O7.out) hy
        have HE:=zH hE
        obtain ⟨z0,z1,z2,z3⟩:=hE.keep K7.out
        have oky:=OKA.out y (List.mem_of_getElem? hya)
        have hkl:=(key_lt oky OKX.out true).2 (rise_next RA.out.rise hya HX.out)
        have e1:=key_or2 y.t y.h oky.t oky.h
        have e2:=key_or2 x.t x.h OKX.out.t OKX.out.h
        have e3:=key_or2 y.h y.t oky.h oky.t
        have e4:=key_or2 x.h x.t OKX.out.h OKX.out.t
        unfold key12 at hkl
        simp only [if_true,Bool.false_eq_true,if_false] at hkl
        obtain ⟨u1,hu1⟩:∃ n,n=y.t*4294967296+y.h:=⟨_,rfl⟩
        rw [←hu1] at e1
        clear hu1
        obtain ⟨u2,hu2⟩:∃ n,n=x.t*4294967296+x.h:=⟨_,rfl⟩
        rw [←hu2] at e2
        clear hu2
        obtain ⟨u3,hu3⟩:∃ n,n=y.h*4294967296+y.t:=⟨_,rfl⟩
        rw [←hu3] at e3 hkl
        clear hu3
        obtain ⟨u4,hu4⟩:∃ n,n=x.h*4294967296+x.t:=⟨_,rfl⟩
        rw [←hu4] at e4 hkl
        clear hu4
        have hk1:¬ (u4:Int)≤(u3:Int):=by omega
        have hk2:decide (u4≤u3)=false:=decide_eq_false (by omega)
        have jl2:(j:Int)+1<(a.length:Int):=by omega
        have j0:(0:Int)≤(j:Int):=by omega
        have jp:(0:Int)<(j:Int)+1:=by omega
        have hj5:(j:Int)+1<600:=by omega
        rw [show ((j+1:Nat):Int)=(j:Int)+1 from by omega] at hji hj6 ⊢
        have EE:=zH (And.intro e1 (And.intro e2 (And.intro e3 e4)))
        clear hkl oky hya hy hE hji hj6 e1 e2 e3 e4
        go_wp2_with fail
        obtain ⟨e1,e2,e3,e4⟩:=EE.out
        go_quiet (fail)
        clear y0 y1 y2 y3 z0 z1 z2 z3
        have k9:=keeps_drewN (w7.alloc (.cells #[.int .u32 (x.t:Int), .int .u32 (x.h:Int), .int .u64 (x.x:Int), .int .u32 (x.m:Int)] 42)) nq
        generalize (w7.alloc (.cells #[.int .u32 (x.t:Int), .int .u32 (x.h:Int), .int .u64 (x.x:Int), .int .u32 (x.m:Int)] 42)).drewN nq=wq at *
        have KQ:=zH (zK K7.out k9)
        have YQ:=zH (YB.out.keep k9)
        obtain ⟨y0,y1,y2,y3⟩:=YQ.out.cells
        obtain ⟨z0,z1,z2,z3⟩:=HE.out.keep KQ.out
        clear k9
        go_wp2_with fail
        go_quiet (fail)
        clear y0 y1 y2 y3 z0 z1 z2 z3
        have k9:=keeps_drewN wq nq
        generalize wq.drewN nq=wq2 at *
        have KQ2:=zH (zK KQ.out k9)
        have YQ2:=zH (YQ.out.keep k9)
        obtain ⟨y0,y1,y2,y3⟩:=YQ2.out.cells
        clear k9
        have XW:=zH (X6.out.keep KQ2.out)
        have OW:=zH (O7.out.keep KQ2.out)
        have BW:=zH (B7.out.keep KQ2.out)
        have AT:=zH (At.new wq2 (edC x) 42 _ (Nat.lt_succ_self _))
        go_wp2_with (at_builtin;refine wpList_app _ rfl _ _ 22 rfl w.heap.size 42 i0 (.agg #[.int .u32 0, .int .u32 0, .int .u64 0, .int .u32 0]) 4 24 Tryz.underlying22 hi hz0 hz1 hz2 rfl (by decide) _ (j+1) (edsC (a.take (j+1))) rfl (OW.out.keep (zA _ _)) _ _ 1 1 (edC x) rfl rfl AT.out (by intro u hu;exact edsC_ones [x] u (by simpa [edsC] using hu)) (by unfold maxLen;omega) (by omega) (zK XW.out.pj.kp (zA _ _)).size ?_)
        intro v8 w8 o8 g8 b8
        have ka:=zA wq2 (.cells #[.int .u32 (x.t:Int), .int .u32 (x.h:Int), .int .u64 (x.x:Int), .int .u32 (x.m:Int)] 42)
        have X8:=zH ((XW.out.keep ka).only (grown_only g8) (fun i e=>(OW.out.lt i e).1) (fun i hi e=>F7.out i e hi))
        have B8:=zH (Box.grownX (Box.keep BW.out ka) g8 ((OW.out.keep ka).not_boxS (Box.keep BW.out ka) str_ed))
        have F8:=zH (far_grown (XW.out.keep ka) F7.out (by simp) b8)
        have O8:=zH (show Own w8 w.heap.size 42 4 v8 ((j+1)+1) (edsC (a.take ((j+1)+1))) by rw [←NX.out];exact o8)
        clear o8 g8 b8 ka
        go_wp2_with fail
        refine ⟨⟨(j+1)+1,q6,S6,by have:=HJ.out;omega,by go_num,O8.out,F8.out,X8.out,B8.out,N7.out⟩,?_⟩
        have:=HJ.out
        (simp [intOf];try omega)
    · obtain rfl:j=a.length:=by omega
      have OA:=zH (show At wr wr.heap.size Av (edsC a) from by have:=Own.at_ HO.out;rwa [List.take_length] at this)
      have LA:=zH (show At wr w.heap.size Al (edsC l) from HB.out.keep X5.out.pj.kp)
      have KP:=zH X5.out.pj.kp
      clear HO HF X5 B5 N5 hj hlt hcv
      rename World=>w9
      go_wp2_with fail
      go_loopw [20,21,22] (fun i _ _ wr=>∃ i':Nat,i'≤a.length∧i = .int .i64 i'∧Keeps w9 wr) (fun i _ _ _=>a.length-(intOf i).toNat)
      case atStart=>exact ⟨0,Nat.zero_le _,rfl,keeps_refl _⟩
      case round=>
       obtain ⟨i,hil,rfl,hk⟩:=hrel
       have HK:=zH hk
       clear hk
       by_cases hlt:i<a.length
       · obtain ⟨x,hx⟩:∃ x,a[i]? = some x:=⟨_,List.getElem?_eq_getElem hlt⟩
         obtain ⟨ad,rfl,-,hE⟩:=eds_at OA.out hx
         have HE:=zH hE
         have XM:=zH (List.mem_of_getElem? hx)
         have HI:=zH hlt
         have i1:(i:Int)<(a.length:Int):=by omega
         have i2:(i:Int)<600:=by omega
         have ii0:(0:Int)≤(i:Int):=by omega
         clear hlt hil hx hE
         go_wp2_with fail
         go_loopw [21,22] (fun one k wr=>∃ (b:Bool) (k':Nat),one = .bool b∧k'≤m∧k = .int .i64 k'∧Known l k' x b∧Keeps w9 wr) (fun _ k _=>m-(intOf k).toNat)
         case atStart=>exact ⟨false,0,rfl,Nat.zero_le _,rfl, .inr fun i h=>by omega,HK.out⟩
         case round=>
          obtain ⟨b,k,rfl,hkm,rfl,hkn,hk⟩:=hrel
          have HK2:=zH hk
          have KN:=zH hkn
          obtain ⟨x0,x1,x2,x3⟩:=HE.out.keep hk
          clear hk hkn
          by_cases hlt:k<m
          · obtain ⟨z,hz⟩:∃ z,l[k]? = some z:=⟨_,List.getElem?_eq_getElem (by have:=HM.out;omega)⟩
            obtain ⟨ad2,rfl,-,hF⟩:=eds_at LA.out hz
            obtain ⟨z0,z1,z2,z3⟩:=hF.keep HK2.out
            have HF:=zH hF
            have HZ':=zH hz
            have HKM:=zH hlt
            have k0:(0:Int)≤(k:Int):=by omega
            have k1:(k:Int)<(m:Int):=by omega
            have k2:(k:Int)<600:=by omega
            have hbe:=fun hp=>RA.out.best x XM.out z (List.mem_of_getElem? hz) hp
            clear hlt hkm hF hz
            by_cases heq:z=x
            · subst heq
              clear hbe
              go_wp2_with fail
              go_quiet (fail)
              clear x0 x1 x2 x3 z0 z1 z2 z3
              have k9:=zK HK2.out (keeps_drewN wr nq)
              generalize wr.drewN nq=wq at *
              obtain ⟨x0,x1,x2,x3⟩:=HE.out.keep k9
              obtain ⟨z0,z1,z2,z3⟩:=HF.out.keep k9
              go_wp2_with fail
              go_quiet (fail)
              go_wp2_with fail
              go_roundw
              case rel=>exact ⟨true,k+1,rfl,by have:=HKM.out;omega,by go_num, .inl rfl,zK k9 (keeps_drewN _ _)⟩
              case measure=>have:=HKM.out;simp [intOf];omega
            · have NXT:=zH (KN.out.next HZ'.out heq)
              by_cases hp:Pair z x
              · have e4:decide (z.x<x.x)=false:=decide_eq_false (fun h=>by
                 have:=hbe hp
                 simp [betE,betB,h] at this)
                have ways:((z.t:Int) == (x.t:Int))=true∧((z.h:Int) == (x.h:Int))=true∧(((z.x:Int) == (x.x:Int))=false∨(((z.x:Int) == (x.x:Int))=true∧((z.m:Int) == (x.m:Int))=false)):=by
                 obtain ⟨p1,p2⟩:=pair_yes hp
                 rcases ed_ways heq with h|⟨_,h⟩|⟨_,_,h⟩|⟨_,_,h3,h4⟩
                 · rw [p1] at h;cases h
                 · rw [p2] at h;cases h
                 · exact ⟨p1,p2, .inl h⟩
                 · exact ⟨p1,p2, .inr ⟨h3,h4⟩⟩
                clear hp heq hbe
                obtain ⟨g1,g2,g3|⟨g3,g4⟩⟩:=ways
                all_goals
                 go_wp2_with fail
                 go_quiet (fail)
                 clear x0 x1 x2 x3 z0 z1 z2 z3
                 have k9:=zK HK2.out (keeps_drewN wr nq)
                 generalize wr.drewN nq=wq at *
                 obtain ⟨x0,x1,x2,x3⟩:=HE.out.keep k9
                 obtain ⟨z0,z1,z2,z3⟩:=HF.out.keep k9
                 go_wp2_with fail
                 go_quiet (fail)
                 go_wp2_with fail
                 go_roundw
                 case rel=>exact ⟨b,k+1,rfl,by have:=HKM.out;omega,by go_num,NXT.out,zK k9 (keeps_drewN _ _)⟩
                 case measure=>have:=HKM.out;simp [intOf];omega
              · have ways:=pair_ways hp
                clear hp heq hbe
                rcases ways with g1|⟨g1,g2⟩
                all_goals
                 go_wp2_with fail
                 go_quiet (fail)
                 clear x0 x1 x2 x3 z0 z1 z2 z3
                 have k9:=zK HK2.out (keeps_drewN wr nq)
                 generalize wr.drewN nq=wq at *
                 obtain ⟨x0,x1,x2,x3⟩:=HE.out.keep k9
                 obtain ⟨z0,z1,z2,z3⟩:=HF.out.keep k9
                 go_wp2_with fail
                 go_quiet (fail)
                 go_wp2_with fail
                 go_roundw
                 case rel=>exact ⟨b,k+1,rfl,by have:=HKM.out;omega,by go_num,NXT.out,zK k9 (keeps_drewN _ _)⟩
                 case measure=>have:=HKM.out;simp [intOf];omega
          · obtain rfl:k=m:=by omega
            obtain rfl:b=true:=by
             have h1:=HM.out.1
             have h2:=KN.out
             rw [h1] at h2
             exact h2.all (RA.out.mem x XM.out)
            clear hlt hkm x0 x1 x2 x3
            go_wp2_with fail
            go_roundw
            case rel=>exact ⟨i+1,by have:=HI.out;omega,by go_num,HK2.out⟩
            case measure=>have:=HI.out;simp [intOf];omega
       · obtain rfl:i=a.length:=by omega
         clear hlt hil
         go_wp2_with fail
         go_loopw [23,24,25] (fun k _ _ wr=>∃ k':Nat,k'≤m∧k = .int .i64 k'∧Keeps w9 wr) (fun k _ _ _=>m-(intOf k).toNat)
         case atStart=>exact ⟨0,Nat.zero_le _,rfl,HK.out⟩
         case round=>
          obtain ⟨k,hkm,rfl,hk⟩:=hrel
          have HK:=zH hk
          clear hk
          by_cases hlt:k<m
          · obtain ⟨z,hz⟩:∃ z,l[k]? = some z:=⟨_,List.getElem?_eq_getElem (by have:=HM.out;omega)⟩
            obtain ⟨ad2,rfl,-,hF⟩:=eds_at LA.out hz
            obtain ⟨z0,z1,z2,z3⟩:=hF.keep HK.out
            have HF:=zH hF
            have ZM:=zH (List.mem_of_getElem? hz)
            have HKM:=zH hlt
            have k0:(0:Int)≤(k:Int):=by omega
            have k1:(k:Int)<(m:Int):=by omega
            have k2:(k:Int)<600:=by omega
            clear hlt hkm hF hz
            obtain ⟨b0,g0,K0⟩:∃ b0,((z.t:Int) == (z.h:Int))=b0∧Hid (KnownP a 0 z b0):=by
             by_cases h:z.t=z.h
             · exact ⟨true,by rw [beq_iff_eq];omega,zH (.inl rfl)⟩
             · exact ⟨false,by rw [beq_eq_false_iff_ne];omega,zH (.inr ⟨h,fun i y hi=>by omega⟩)⟩
            go_wp2_with fail
            go_quiet (fail)
            clear z0 z1 z2 z3
            have k9:=zK HK.out (keeps_drewN wr nq)
            generalize wr.drewN nq=wq at *
            have KQ:=zH k9
            clear k9
            go_wp2_with fail
            go_loopw [24,25] (fun th i wr=>∃ (b:Bool) (i':Nat),th = .bool b∧i'≤a.length∧i = .int .i64 i'∧KnownP a i' z b∧Keeps w9 wr) (fun _ i _=>a.length-(intOf i).toNat)
            case atStart=>exact ⟨b0,0,rfl,Nat.zero_le _,rfl,K0.out,KQ.out⟩
            case round=>
             obtain ⟨b,i,rfl,hil,rfl,hkn,hk⟩:=hrel
             have HK2:=zH hk
             have KN:=zH hkn
             obtain ⟨z0,z1,z2,z3⟩:=HF.out.keep hk
             clear hk hkn
             by_cases hlt:i<a.length
             · obtain ⟨y,hy⟩:∃ y,a[i]? = some y:=⟨_,List.getElem?_eq_getElem hlt⟩
               obtain ⟨ad,rfl,-,hE⟩:=eds_at OA.out hy
               obtain ⟨y0,y1,y2,y3⟩:=hE.keep HK2.out
               have HY:=zH hy
               have HI:=zH hlt
               have i1:(i:Int)<(a.length:Int):=by omega
               have i2:(i:Int)<600:=by omega
               have ii0:(0:Int)≤(i:Int):=by omega
               clear hlt hil hy hE g0
               cases b
               · by_cases hp:Pair y z
                 · obtain ⟨g1,g2⟩:=pair_yes hp
                   clear hp
                   go_wp2_with fail
                   go_quiet (fail)
                   go_wp2_with fail
                   go_roundw
                   case rel=>exact ⟨true,i+1,rfl,by have:=HI.out;omega,by go_num, .inl rfl,zK HK2.out (keeps_drewN _ _)⟩
                   case measure=>have:=HI.out;simp [intOf];omega
                 · have NXT:=zH (KN.out.next HY.out hp)
                   have ways:=pair_ways hp
                   clear hp
                   rcases ways with g1|⟨g1,g2⟩
                   all_goals
                    go_wp2_with fail
                    go_quiet (fail)
                    go_wp2_with fail
                    go_roundw
                    case rel=>exact ⟨false,i+1,rfl,by have:=HI.out;omega,by go_num,NXT.out,zK HK2.out (keeps_drewN _ _)⟩
                    case measure=>have:=HI.out;simp [intOf];omega
               · clear y0 y1 y2 y3 z0 z1 z2 z3
                 go_wp2_with fail
                 go_quiet (fail)
                 go_wp2_with fail
                 go_roundw
                 case rel=>exact ⟨true,i+1,rfl,by have:=HI.out;omega,by go_num, .inl rfl,zK HK2.out (keeps_drewN _ _)⟩
                 case measure=>have:=HI.out;simp [intOf];omega
             · obtain rfl:i=a.length:=by omega
               obtain rfl:b=true:=KN.out.all RA.out ZM.out
               clear hlt hil z0 z1 z2 z3
               go_wp2_with fail
               go_roundw
               case rel=>exact ⟨k+1,by have:=HKM.out;omega,by go_num,HK2.out⟩
               case measure=>have:=HKM.out;simp [intOf];omega
          · have WW:=zH (WK.out wr (zK KP.out HK.out))
            have KE:=zH (zK KP.out HK.out)
            have hkm':¬ (k:Int)<(m:Int):=by omega
            clear hlt hkm
            go_wp2_with fail
            refine WW.out.mono ?_
            rintro e w16 ⟨rfl,k16⟩
            have K16:=zH (zK KE.out k16)
            clear k16
            go_wp2_with fail
            go_ret
            exact ⟨rfl,K16.out⟩
theorem order12_walk (K:DiskOk) (PK:PageOk) (SK:SortOk K) (w:World) (hZ:K.Z w) (hS:Sizes w) (n1:Nat) (hn1:n1<256) {Al:Option Addr} {m c:Nat} {l:List Ed} (hB:At w w.heap.size Al (edsC l)) (hok:∀ e∈l,EdOk e) (hm:m=l.length) (head:Bool) :
 Calls Tryz.prog 3 #[.int .u8 (n1:Int), .slice Al m c, .bool head] w (Yes12 w):=by
 cases head
 · exact order12_f K PK SK w hZ hS n1 hn1 hB hok hm
 · exact order12_t K PK SK w hZ hS n1 hn1 hB hok hm
end Go.Proofs.YtjmkagakdhhigaaGreatDoor
