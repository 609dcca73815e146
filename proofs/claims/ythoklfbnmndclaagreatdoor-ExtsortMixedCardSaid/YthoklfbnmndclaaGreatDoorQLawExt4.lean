/- ExtsortMixed: the list turned round, some of it twice. -/
import Derived.Test.YthoklfbnmndclaaGreatDoorQLawExt3
set_option linter.unusedVariables false
set_option linter.unusedSimpArgs false
set_option maxRecDepth 100000
namespace Go.Proofs.YthoklfbnmndclaaGreatDoor
open Go.RowKit
theorem info_edge4:(Tryz.prog.info? 60).map (fun i=>(i.zero,i.size,i.bytes))=some (some (.agg #[.int .u32 0, .int .u32 0, .int .u64 0, .int .u32 0]),4,24):=by kernel_rfl
theorem mix_mem {l m:List Ed} {k:Nat} {x:Ed} (hx:l[k]? = some x) (h:∀ e,e∈m↔e∈l.drop (k+1)):∀ e,e∈m++[x]↔e∈l.drop k:=fun e=>by
 have hk:=(List.getElem?_eq_some_iff.1 hx).1
 have h2:=(List.getElem?_eq_some_iff.1 hx).2
 rw [List.drop_eq_getElem_cons hk,h2,List.mem_append,List.mem_singleton,List.mem_cons,h]
 exact Or.comm
theorem mix_twice {l m:List Ed} {k:Nat} {x:Ed} (hx:l[k]? = some x) (h:∀ e,e∈m↔e∈l.drop k):∀ e,e∈m++[x]↔e∈l.drop k:=fun e=>by
 have hk:=(List.getElem?_eq_some_iff.1 hx).1
 have h2:=(List.getElem?_eq_some_iff.1 hx).2
 rw [List.mem_append,List.mem_singleton,h]
 refine ⟨fun h5=>h5.elim id (fun e5=>?_), .inl⟩
 rw [e5,List.drop_eq_getElem_cons hk,h2]
 exact List.mem_cons_self
set_option maxHeartbeats 16000000 in
theorem mixed12_walk (K:DiskOk) (PK:PageOk) (SK:SortOk K) (w:World) (hZ:K.Z w) (hS:Sizes w) (n1:Nat) (hn1:n1<256) {Al:Option Addr} {m c:Nat} {l:List Ed} (hB:At w w.heap.size Al (edsC l)) (hok:∀ e∈l,EdOk e) (hm:m=l.length) (tw:Nat) (htw:tw<65536) :
 Calls Tryz.prog 9 #[.int .u8 (n1:Int), .slice Al m c, .int .u16 (tw:Int)] w (Yes12 w):=by
 have WK:=Lib.hid (fun (W:World) (k:Keeps w W)=>works12 K PK SK W (K.keep hZ k) (hS.keep k))
 have HZ:=Lib.hid hZ
 have HS:=Lib.hid hS
 by_cases h6:300<m
 · have h6':(300:Int)<(m:Int):=by omega
   clear hB hok hm h6
   go_enter Tryz.func9,Tryz.ntmps9
   go_wp2_with fail
   refine (WK.out w (keeps_refl w)).mono ?_
   rintro e w1 ⟨rfl,k1⟩
   have K1:=Lib.hid k1
   clear k1
   go_wp2_with fail
   go_ret
   exact ⟨rfl,K1.out⟩
 · have h6':decide ((300:Int)<(m:Int))=false:=decide_eq_false (by omega)
   have h6'':decide (300<m)=false:=decide_eq_false (by omega)
   obtain ⟨i0,hi,hz0,hz1,hz2⟩:=info_parts info_edge4
   have HB:=Lib.hid hB
   have HOK:=Lib.hid hok
   have HM:=Lib.hid (show m=l.length∧m≤300 from ⟨hm,by omega⟩)
   have hmi:(m:Int)≤300:=by omega
   clear hB hok hm h6
   go_enter Tryz.func9,Tryz.ntmps9
   go_wp2_with fail
   go_loopw [7,8] (fun v i wr=>∃ (j:Nat) (mm:List Ed),j≤m∧i = .int .i64 ((j:Int)-1)∧Own wr w.heap.size 60 4 v mm.length (edsC mm)∧mm.length≤2*(m-j)∧(∀ e,e∈mm↔e∈l.drop j)∧Keeps w wr) (fun _ i _=>(intOf i+1).toNat)
   case atStart=>exact ⟨m,[],Nat.le_refl _,by go_num,Own.nil _ _ _ _,Nat.zero_le _,fun e=>by rw [HM.out.1,List.drop_length],keeps_refl _⟩
   case round=>
    obtain ⟨j,mm,hj,rfl,hO,hlen,hmem,hkp⟩:=hrel
    have HO:=Lib.hid hO
    have HLEN:=Lib.hid hlen
    have HMEM:=Lib.hid hmem
    have HKP:=Lib.hid hkp
    obtain ⟨Av,cv,rfl,hcv,-,-,-⟩:=hO.form
    clear hO hlen hmem
    rcases j with _|k
    · have KM:=Lib.hid hkp
      have OM:=Lib.hid (show Own wr w.heap.size 60 4 (.slice Av mm.length cv) mm.length (edsC mm) from HO.out)
      have LM:=Lib.hid (show mm.length≤600 by have:=HLEN.out;have:=HM.out;omega)
      have MEM:=Lib.hid (show ∀ e,e∈l↔e∈mm from fun e=>by rw [HMEM.out];rfl)
      have OKM:=Lib.hid (show ∀ e∈mm,EdOk e from fun e he=>HOK.out e ((MEM.out e).2 he))
      have FR:=Lib.hid (frames8_any n1 hn1 wr)
      have FR2:=Lib.hid (fun W=>frames8_any (n1/2) (by omega) W)
      obtain ⟨N,hN⟩:∃ N,N=8+n1%56:=⟨_,rfl⟩
      obtain ⟨M,hM⟩:∃ M,M=8+n1/2%56:=⟨_,rfl⟩
      have N8:=Lib.hid (show 8≤N∧N≤4096 by omega)
      have M8:=Lib.hid (show 8≤M∧M≤4096 by omega)
      rw [←hN] at FR
      rw [←hM] at FR2
      have BG:=Lib.hid (begun12_any K PK wr (K.keep HZ.out hkp) (HS.out.keep hkp) (n:=N) (Q:=65536) ⟨by omega,by omega⟩ (by decide) (c:=c) ((HB.out.keep hkp).more hkp.size) HOK.out HM.out.1 (by have:=HM.out;omega))
      have h2:((n1:Int)).tdiv 2=((n1/2:Nat):Int):=by rw [Int.tdiv_eq_ediv_of_nonneg (by omega)];omega
      clear hN hM hkp
      go_wp2_with fail
      refine FR.out.mono ?_
      rintro e w' ⟨rfl,rfl⟩
      go_wp2_with fail
      refine BG.out.mono ?_
      rintro e w1 ⟨B,S,p,V,rfl,x1,s1,d1⟩
      have X1:=Lib.hid x1
      have S1:=Lib.hid s1
      have D1:=Lib.hid d1
      have KP1:=Lib.hid x1.pj.kp
      have BG2:=Lib.hid (begun12_any K PK w1 (K.keep HZ.out (keeps_trans KM.out x1.pj.kp)) (HS.out.keep (keeps_trans KM.out x1.pj.kp)) (n:=M) (Q:=65536) ⟨by have:=M8.out;omega,M8.out.2⟩ (by decide) (c:=cv) (Own.at_ (OM.out.keep x1.pj.kp)) OKM.out rfl LM.out)
      clear x1 s1 d1
      go_wp2_with fail
      refine (FR2.out w1).mono ?_
      rintro e w' ⟨rfl,rfl⟩
      go_wp2_with fail
      refine BG2.out.mono ?_
      rintro e w2 ⟨B2,S2,p2,V2,rfl,x2,s2,d2⟩
      have X1:=Lib.hid (X1.out.keep x2.pj.kp)
      have X2:=Lib.hid (x2.rebase KP1.out)
      have DJ:=Lib.hid (show ∀ i,S2 i→¬ S i from fun i h2 h1=>by
       have a1:=x2.pj.low i h2
       have a2:=(‹Hid (ExS K wr B N 65536 1 50 p V [inN] S w1)›).out.pj.lt i h1
       omega)
      have Z2:=Lib.hid s2
      have D2:=Lib.hid d2
      have SO:=Lib.hid (fun (bi:Int) (hb:bi=0∨bi=1)=>SK.sort (nmO:=outN) (bi:=bi) (X1.out.more (A':=61) (C':=50) (by decide) (Nat.le_refl _) (by decide)) (K.keep HZ.out KM.out) (HS.out.keep KM.out) N8.out.1 N8.out.2 S1.out HOK.out D1.out (by decide) (by decide) (by decide) (by decide) hb (by decide) (by have:=HM.out;omega) (by have:=HM.out;omega))
      rw [strIn12,strOut12] at SO
      clear x2 s2 d2 BG2
      go_wp2_with fail
      refine (SO.out _ (by decide)).mono ?_
      rintro e w3 ⟨E,q,V',ns',S',rfl,x3,t3,⟨rfl,⟨a,ha,hV⟩,rfl,d3,-⟩|⟨-,hbad,-⟩⟩
      rotate_left
      · exact absurd hbad (by decide)
      obtain ⟨x23,dj3⟩:=X2.out.far t3 X1.out.pj.low DJ.out
      have T3:=Lib.hid (show IsS V' outN 20 (a.map edB) from ⟨⟨by decide,by decide⟩,fun r hr=>by
       obtain ⟨y,-,rfl⟩:=List.mem_map.1 hr
       exact edB_len y,by rw [hV,upV_self]⟩)
      have X3:=Lib.hid x3
      have X23:=Lib.hid x23
      have DJ3:=Lib.hid dj3
      have D3:=Lib.hid d3
      have RA:=Lib.hid ha
      have SO2:=Lib.hid (fun (bi:Int) (hb:bi=0∨bi=1)=>SK.sort (nmO:=outN) (bi:=bi) (X23.out.more (A':=61) (C':=50) (by decide) (Nat.le_refl _) (by decide)) (K.keep HZ.out KM.out) (HS.out.keep KM.out) M8.out.1 M8.out.2 Z2.out OKM.out D2.out (by decide) (by decide) (by decide) (by decide) hb (by decide) (by have:=LM.out;omega) (by have:=LM.out;omega))
      rw [strIn12,strOut12] at SO2
      clear x3 x23 dj3 d3 ha hV t3 SO
      go_wp2_with fail
      refine (SO2.out _ (by decide)).mono ?_
      rintro e w4 ⟨E,q2,V2',ns',S2',rfl,x4,t4,⟨rfl,⟨a2,ha,hV⟩,rfl,d4,-⟩|⟨-,hbad,-⟩⟩
      rotate_left
      · exact absurd hbad (by decide)
      obtain rfl:=RedB.eq OKM.out ha (RedB.congr MEM.out RA.out)
      obtain ⟨x34,-⟩:=X3.out.far t4 X23.out.pj.low (fun i h1 h2=>DJ3.out i h2 h1)
      have T4:=Lib.hid (show IsS V2' outN 20 (a2.map edB) from ⟨⟨by decide,by decide⟩,fun r hr=>by
       obtain ⟨y,-,rfl⟩:=List.mem_map.1 hr
       exact edB_len y,by rw [hV,upV_self]⟩)
      have X4:=Lib.hid x4
      have X34:=Lib.hid x34
      have D4:=Lib.hid d4
      have FI:=Lib.hid (x_files x34 (K.keep HZ.out KM.out) (by simp))
      clear x4 x34 d4 ha hV t4 SO2
      go_wp2_with fail
      refine FI.out.mono ?_
      rintro e w5 ⟨v5,rfl,g5,k5⟩
      have LK:=Lib.hid (fileOf12_any w4.heap.size v5 _ outN ⟨#[111,117,116]⟩ rfl w5 g5 (by rw [List.length_map,x_num X34.out];decide))
      rw [x_look X34.out T3.out D3.out] at LK
      have K5:=Lib.hid k5
      clear g5 k5 FI
      go_wp2_with fail
      refine LK.out.mono ?_
      rintro e w6 ⟨k6,A6,c6,rfl,o6⟩
      have K6:=Lib.hid (keeps_trans K5.out k6)
      have O6:=Lib.hid o6
      have FI:=Lib.hid (x_files (X4.out.keep K6.out) (K.keep HZ.out KM.out) (by simp))
      clear k6 o6 LK
      go_wp2_with fail
      refine FI.out.mono ?_
      rintro e w7 ⟨v7,rfl,g7,k7⟩
      have LK:=Lib.hid (fileOf12_any w6.heap.size v7 _ outN ⟨#[111,117,116]⟩ rfl w7 g7 (by rw [List.length_map,x_num X4.out];decide))
      rw [x_look X4.out T4.out D4.out] at LK
      have K7:=Lib.hid k7
      clear g7 k7 FI
      go_wp2_with fail
      refine LK.out.mono ?_
      rintro e w8 ⟨k8,A8,c8,rfl,o8⟩
      have K8:=Lib.hid (keeps_trans K7.out k8)
      have E1:=Lib.hid (eqBytes12_yes A6 _ c6 (fileB outN 0 (pagesS 12 (a2.map edB))) A8 c8 w8 (Own.at_ (O6.out.keep K8.out)) rfl (Own.at_ o8))
      have KE:=Lib.hid (keeps_trans KM.out (keeps_trans X4.out.pj.kp (keeps_trans K6.out K8.out)))
      clear k8 o8 LK
      go_wp2_with fail
      refine E1.out.mono ?_
      rintro e w13 ⟨rfl,rfl⟩
      go_wp2_with fail
      refine (WK.out _ KE.out).mono ?_
      rintro e w16 ⟨rfl,k16⟩
      have K16:=Lib.hid (keeps_trans KE.out k16)
      clear k16
      go_wp2_with fail
      go_ret
      exact ⟨rfl,K16.out⟩
    · obtain ⟨x,hx⟩:∃ x,l[k]? = some x:=⟨_,List.getElem?_eq_getElem (by have:=HM.out;omega)⟩
      obtain ⟨ad,rfl,_,hE⟩:=eds_at HB.out hx
      obtain ⟨a0,a1,a2,a3⟩:=hE.keep hkp
      have hk1:((k+1:Nat):Int)-1=(k:Int):=by omega
      have hkm:(k:Int)<(m:Int):=by omega
      have hk0:(0:Int)≤(k:Int):=by omega
      have hml:mm.length≤600:=by have:=HLEN.out;omega
      rw [hk1]
      clear hk1
      go_wp2_with (at_builtin;refine wpList_app _ rfl _ _ 22 rfl w.heap.size 60 i0 (.agg #[.int .u32 0, .int .u32 0, .int .u64 0, .int .u32 0]) 4 24 Tryz.underlying22 hi hz0 hz1 hz2 rfl (by decide) _ mm.length (edsC mm) rfl (HO.out.keep (keeps_alloc _ _)) _ _ 1 1 (edC x) rfl rfl (At.new _ _ _ _ (Nat.lt_succ_self _)) (by intro u hu;exact edsC_ones [x] u (by simpa [edsC] using hu)) (by unfold maxLen;omega) (by omega) (keeps_trans HKP.out (keeps_alloc _ _)).size ?_)
      intro v5 w5 o5 g5 b5
      have k5:Keeps w w5:=Below.grown (keeps_trans HKP.out (keeps_alloc _ _)) g5 (keeps_trans HKP.out (keeps_alloc _ _)).size (fun g hg=>(HO.out.lt g hg).1)
      have e5:edsC mm++edC x=edsC (mm++[x]):=by simp [edsC]
      rw [e5] at o5
      obtain ⟨A5,c5,rfl,-,-,-,-⟩:=o5.form
      have O5:=Lib.hid (show Own w5 w.heap.size 60 4 (.slice A5 (mm.length+1) c5) (mm.length+1) (edsC (mm++[x])) from o5)
      have K5:=Lib.hid k5
      obtain ⟨b0,b1,b2,b3⟩:=hE.keep k5
      have M1:=Lib.hid (mix_mem hx HMEM.out)
      have M2:=Lib.hid (mix_twice hx (mix_mem hx HMEM.out))
      have EM:=Lib.hid (show (mm++[x]).length=mm.length+1 by simp)
      clear o5 g5 b5 e5 k5 a0 a1 a2 a3 hx hE
      go_wp2_with (at_builtin;refine wpList_app _ rfl _ _ 22 rfl w.heap.size 60 i0 (.agg #[.int .u32 0, .int .u32 0, .int .u64 0, .int .u32 0]) 4 24 Tryz.underlying22 hi hz0 hz1 hz2 rfl (by decide) _ (mm.length+1) (edsC (mm++[x])) rfl (O5.out.keep (keeps_alloc _ _)) _ _ 1 1 (edC x) rfl rfl (At.new _ _ _ _ (Nat.lt_succ_self _)) (by intro u hu;exact edsC_ones [x] u (by simpa [edsC] using hu)) (by unfold maxLen;omega) (by omega) (keeps_trans K5.out (keeps_alloc _ _)).size ?_)
      · intro v7 w7 o7 g7 b7
        have k7:Keeps w w7:=Below.grown (keeps_trans K5.out (keeps_alloc _ _)) g7 (keeps_trans K5.out (keeps_alloc _ _)).size (fun g hg=>(O5.out.lt g hg).1)
        have e7:edsC (mm++[x])++edC x=edsC (mm++[x]++[x]):=by simp [edsC]
        rw [e7] at o7
        have O7:=Lib.hid (show Own w7 w.heap.size 60 4 v7 (mm++[x]++[x]).length (edsC (mm++[x]++[x])) by rw [List.length_append,EM.out];exact o7)
        clear o7 g7 b7 e7
        go_wp2_with fail
        refine ⟨⟨k,mm++[x]++[x],by omega,by go_num,O7.out,by rw [List.length_append,EM.out];have:=HLEN.out;simp only [List.length_singleton];omega,M2.out,k7⟩,?_⟩
        (simp [intOf];try omega)
      · refine ⟨⟨k,mm++[x],by omega,by go_num,by rw [EM.out];exact O5.out,by rw [EM.out];have:=HLEN.out;omega,M1.out,K5.out⟩,?_⟩
        (simp [intOf];try omega)
end Go.Proofs.YthoklfbnmndclaaGreatDoor
