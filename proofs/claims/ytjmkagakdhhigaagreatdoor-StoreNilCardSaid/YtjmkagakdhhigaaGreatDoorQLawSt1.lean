/- StoreNil: over no pool is a graph, and no graph has vertices. -/
import Derived.Test.YtjmkagakdhhigaaGreatDoorQStNm
set_option linter.unusedVariables false
set_option linter.unusedSimpArgs false
set_option maxRecDepth 100000
namespace Go.Proofs.YtjmkagakdhhigaaGreatDoor
open Go.RowKit Go.Sort
theorem make_nil (sI:ByteArray) (gi:Int) (Av:Option Addr) (nv cv:Nat) (w:World):Calls Tryz.prog 37 #[.pointer none, .string sI, .int .i64 gi, .slice Av nv cv] w fun e w'=>e = .returned (.int .i64 2)∧Keeps w w':=by
 have k1:=zA w (.cells #[.pointer none] 25)
 have k2:=zA (w.alloc (.cells #[.pointer none] 25)) (.cells #[.string sI] 9)
 have k3:=zA ((w.alloc (.cells #[.pointer none] 25)).alloc (.cells #[.string sI] 9)) (.cells #[.slice Av nv cv] 47)
 have c0:=(((Box.new w 25 #[.pointer none]).keep k2).keep k3).cell 0 rfl
 have K3:=zH (zK k1 (zK k2 k3))
 clear k1 k2 k3
 go_enter Tryz.func37,Tryz.ntmps37
 go_wp2_with fail
 go_ret
 exact ⟨rfl,K3.out⟩
set_option maxHeartbeats 16000000 in
theorem nil13_walk (K:DiskOk) (PK:PageOk) (w:World) (hZ:K.Z w) (hS:Sizes w) (hT:PowT w) (v:Nat) (hv:v<4294967296) (i gi:Int) :
 Calls Tryz.prog 6 #[.int .u32 (v:Int), .int .i64 i, .int .i64 gi] w (Yes12 w):=by
 have WK:=zH (fun (W:World) (k:Keeps w W)=>works13 K PK W (K.keep hZ k) (hS.keep k) (hT.keep k))
 have MN:=zH (fun (W:World)=>make_nil ⟨#[120]⟩ gi none 0 0 W)
 clear hZ hS hT
 go_enter Tryz.func6,Tryz.ntmps6
 go_wp2_with fail
 refine (MN.out _).mono ?_
 rintro e w1 ⟨rfl,k1⟩
 have K1:=zH k1
 clear k1
 go_wp2_with fail
 refine (openG_nil gi _).mono ?_
 rintro e w2 ⟨rfl,rfl⟩
 go_wp2_with fail
 refine (out_nil v _).mono ?_
 rintro e w2 ⟨rfl,rfl⟩
 go_wp2_with fail
 refine (in_nil v _).mono ?_
 rintro e w2 ⟨rfl,rfl⟩
 go_wp2_with fail
 refine (vert_nil v _).mono ?_
 rintro e w2 ⟨rfl,k2⟩
 have kv:=zA w2 (.cells #[.int .u32 0, .int .u32 0, .int .u32 0] 74)
 have YV:=zH (show VtBox (w2.alloc (.cells #[.int .u32 0, .int .u32 0, .int .u32 0] 74)) w2.heap.size zV from VtBox.new w2 zV)
 have K2:=zH (zK (zK K1.out k2) kv)
 unfold vtG zV
 clear k2 kv
 go_wp2_with fail
 refine (edges_nil _).mono ?_
 rintro e w3 ⟨rfl,rfl⟩
 generalize w2.alloc (.cells #[.int .u32 0, .int .u32 0, .int .u32 0] 74)=w3 at *
 go_wp2_with fail
 refine (edge_nil i _).mono ?_
 rintro e w4 ⟨rfl,k4⟩
 have ke:=zA w4 (.cells #[.int .u32 0, .int .u32 0, .int .u64 0, .int .u32 0] 42)
 have YE:EdBox (w4.alloc (.cells #[.int .u32 0, .int .u32 0, .int .u64 0, .int .u32 0] 42)) w4.heap.size 42 zE:=EdBox.new w4 42 zE
 have kw:=zK k4 ke
 obtain ⟨y0,y1,y2⟩:=VtBox.cells (show VtBox _ _ _ from Box.keep YV.out kw)
 obtain ⟨e0,e1,e2,e3⟩:=YE.cells
 have WW:=zH (WK.out _ (zK K2.out kw))
 have K5:=zH (zK K2.out kw)
 unfold edG zE
 clear k4 ke YE kw
 go_wp2_with fail
 refine (size_nil _).mono ?_
 rintro e w5 ⟨rfl,rfl⟩
 go_wp2_with fail
 refine WW.out.mono ?_
 rintro e w6 ⟨rfl,k6⟩
 have K6:=zH (zK K5.out k6)
 clear k6
 go_wp2_with fail
 go_ret
 exact ⟨rfl,K6.out⟩
theorem info_vert:(Tryz.prog.info? 74).map (fun i=>(i.zero,i.size,i.bytes))=some (some (.agg #[.int .u32 0, .int .u32 0, .int .u32 0]),3,12):=by kernel_rfl
theorem own_empty13 (w:World) (e:TypeId) (size:Nat):Own (w.alloc (.cells #[] e)) w.heap.size e size (.slice (some ⟨w.heap.size,0,none⟩) 0 0) 0 []:=
 ⟨by simp, .inr ⟨w.heap.size,0,#[],(0,0),rfl,Nat.le_refl _,heap_alloc_new w _, .inl rfl,Nat.le_refl _,by simp [maxLen],by simp,by simp⟩⟩
theorem vtsC_ones (l:List Vt):∀ u∈vtsC l,u.oneCell'=true:=by
 intro u hu
 obtain ⟨e,_,he⟩:=List.mem_flatMap.1 hu
 simp only [vtC,List.mem_cons,List.not_mem_nil,or_false] at he
 rcases he with rfl|rfl|rfl<;>rfl
theorem vtsC_len (l:List Vt):(vtsC l).length=l.length*3:=flatMap_length vtC 3 vtC_length l
set_option maxHeartbeats 32000000 in
theorem verts13_walk (K:DiskOk) (PK:PageOk) (w:World) (hZ:K.Z w) (hS:Sizes w) (hT:PowT w) {Al:Option Addr} {m c:Nat} {l:List Vt} (hB:At w w.heap.size Al (vtsC l)) (hok:∀ x∈l,VtOk x) (hm:m=l.length) (v:Nat) (hv:v<4294967296) :
 Calls Tryz.prog 8 #[.slice Al m c, .int .u32 (v:Int)] w (Yes12 w):=by
 have WK:=zH (fun (W:World) (k:Keeps w W)=>works13 K PK W (K.keep hZ k) (hS.keep k) (hT.keep k))
 by_cases h6:100<m
 · have h6':(100:Int)<(m:Int):=by omega
   clear hB hok hm h6 hZ hS hT
   go_enter Tryz.func8,Tryz.ntmps8
   go_wp2_with fail
   refine (WK.out w (keeps_refl w)).mono ?_
   rintro e w1 ⟨rfl,k1⟩
   have K1:=zH k1
   clear k1
   go_wp2_with fail
   go_ret
   exact ⟨rfl,K1.out⟩
 · have h6':decide ((100:Int)<(m:Int))=false:=decide_eq_false (by omega)
   have h6'':decide (100<m)=false:=decide_eq_false (by omega)
   obtain ⟨i0,hi,hz0,hz1,hz2⟩:=info_parts info_vert
   have RW:=zH (raw13_any K PK w hZ hS (n:=8) ⟨by decide,by decide⟩ (Al:=none) (m:=0) (c:=0) (l:=[]) (.inl rfl) (fun e he=>by simp at he) rfl (by decide))
   have HZ:=zH hZ
   have HS:=zH hS
   have HT:=zH hT
   have HB:=zH hB
   have HOK:=zH hok
   have HM:=zH (show m=l.length∧m≤100 from ⟨hm,by omega⟩)
   have hm100:(m:Int)≤100:=by omega
   have hv1:(v:Int)<4294967296:=by omega
   have HV:=zH hv
   clear hB hok hm h6 hZ hS hT hv
   rw [show ((8:Nat):Int)=8 from rfl] at RW
   go_enter Tryz.func8,Tryz.ntmps8
   go_wp2_with fail
   refine RW.out.mono ?_
   rintro e w1 ⟨B,S,p,V,rfl,x1,s1⟩
   have X1:=zH (x1.more (A':=70) (C':=50) (by decide) (Nat.le_refl _) (by decide))
   have S1:=zH s1
   have k0:=zA w1 (.cells #[] 74)
   have HB2:=zH (((HB.out.keep x1.pj.kp).more x1.pj.kp.size).keep k0 |>.more k0.size)
   have O0:=zH (own_empty13 w1 74 3)
   have K0:=zH k0
   have HML:m*3=(vtsC l).length:=by rw [vtsC_len,HM.out.1]
   have LEN:=zH HML
   clear x1 s1 k0 RW HML
   go_wp2_with (at_builtin;refine wpList_app_g (by simp [go_sem]) _ _ 47 rfl w1.heap.size 74 i0 (.agg #[.int .u32 0, .int .u32 0, .int .u32 0]) 3 12 Tryz.underlying47 hi hz0 hz1 hz2 rfl (by decide) _ 0 [] rfl O0.out _ Al m c (vtsC l) rfl LEN.out.symm HB2.out (vtsC_ones l) (by have:=HM.out;unfold maxLen;omega) (by have:=HM.out;omega) (by simp) ?_)
   intro v2 w2 o2 g2 b2
   have k2:Keeps w1 w2:=Below.grown K0.out g2 K0.out.size (fun g hg=>(O0.out.lt g hg).1)
   obtain ⟨A2,c2,rfl,-,-,-,hlt2⟩:=o2.form
   have MK:=zH (gmake_any (cv:=c2) PK (X1.out.keep k2) HZ.out HS.out HT.out (by decide) (by decide) (by decide) S1.out (fun e he=>by simp at he) 0 (by decide) (by simp [nmG_len1,xN]) (by simp [nmG_len1,xN]) (by simp [nmG_len1,xN]) (fun x hx=>by rw [List.mem_singleton] at hx;subst hx;unfold Tdot;decide) (by decide) (by decide) (by decide) (Own.at_ o2) (fun ad e=>X1.out.lt (hlt2 ad e).2.1) (fun ad e=>(hlt2 ad e).2.2) HM.out.1 HOK.out (by have:=HM.out;omega) (by have:=HM.out;omega))
   rw [strX13,show ((0:Nat):Int)=0 from rfl] at MK
   clear o2 g2 b2 k2 hlt2 HB2 O0 K0
   go_wp2_with fail
   refine MK.out.mono ?_
   rintro e w3 ⟨q3,V3,S3,rfl,x3,t3,m3⟩
   obtain ⟨a,b,ha,hb,G,-,-,-⟩:=GenV.of m3 (fun e he=>by simp at he) HOK.out (by decide) (by have:=HM.out;omega)
   have OG:=zH (openG_any PK x3 HZ.out HS.out HT.out (by decide) (by decide) 0 (by decide) G)
   rw [show ((0:Nat):Int)=0 from rfl,←HM.out.1] at OG
   have GG:=zH G
   clear x3 t3 m3 ha hb G MK
   go_wp2_with fail
   refine OG.out.mono ?_
   rintro e w4 ⟨gb,bv,bt,bh,q4,S4,rfl,g4,-,x4,t4,-⟩
   have SZ:=zH (gsize_any g4)
   have G4:=zH g4
   have X4:=zH x4
   clear g4 x4 t4 OG
   go_wp2_with fail
   refine SZ.out.mono ?_
   rintro e w5 ⟨rfl,rfl⟩
   clear SZ
   go_wp2_with fail
   go_loopw [9] (fun i wr=>∃ (j:Nat) (q:Pst) (S':Nat→Prop),j≤m∧i = .int .i64 (j:Int)∧ExS K w B 8 131072 70 50 q V3 [nmG 118 0,nmG 114 0,nmG 101 0,xN] S' wr∧GrAt wr S' B (nmG 101 0) (nmG 114 0) (nmG 118 0) m gb bv bt bh) (fun i _=>m-(intOf i).toNat)
   case atStart=>exact ⟨0,q4,S4,Nat.zero_le _,rfl,X4.out,G4.out⟩
   case round=>
    obtain ⟨j,q,S',hj,rfl,hx,hg⟩:=hrel
    have XQ:=zH hx
    have GQ:=zH hg
    clear hx hg
    by_cases hlt:j<m
    · obtain ⟨x,hx⟩:∃ x,l[j]? = some x:=⟨_,List.getElem?_eq_getElem (by have:=HM.out;omega)⟩
      have VY:=zH (vert_yes PK XQ.out HZ.out HS.out (by decide) (by decide) GQ.out GG.out j (by have:=HM.out;omega) HM.out.1 hx)
      obtain ⟨ad,hA,-,hE⟩:=vts_at HB.out hx
      subst hA
      have HE:=zH hE
      have HJ:=zH hlt
      have j0:(0:Int)≤(j:Int):=by omega
      have j1:(j:Int)<(m:Int):=by omega
      have j2:(j:Int)<100:=by omega
      clear hx hE hlt hj
      go_wp2_with fail
      refine VY.out.mono ?_
      rintro e w6 ⟨rfl,q6,S6,x6,t6,-⟩
      have X6:=zH x6
      have G6:=zH (GQ.out.turn t6)
      have kv:=zA w6 (.cells #[.int .u32 (x.r:Int), .int .u32 (x.l:Int), .int .u32 (x.g:Int)] 74)
      obtain ⟨y0,y1,y2⟩:=(VtBox.new w6 x).cells
      obtain ⟨z0,z1,z2⟩:=HE.out.keep (zK x6.pj.kp kv)
      have KV:=zH kv
      unfold vtG
      clear x6 t6 kv VY
      go_wp2_with fail
      go_quiet (fail)
      go_wp2_with fail
      go_roundw
      case rel=>exact ⟨j+1,q6,S6,by have:=HJ.out;omega,by go_num,X6.out.keep (zK KV.out (keeps_drewN _ _)),G6.out.keep (zK KV.out (keeps_drewN _ _))⟩
      case measure=>have:=HJ.out;simp [intOf];omega
    · obtain rfl:j=m:=by omega
      clear hlt hj
      by_cases hvn:v<j
      · obtain ⟨x,hx⟩:∃ x,l[v]? = some x:=⟨_,List.getElem?_eq_getElem (by have:=HM.out;omega)⟩
        have VY:=zH (vert_yes PK XQ.out HZ.out HS.out (by decide) (by decide) GQ.out GG.out v HV.out HM.out.1 hx)
        obtain ⟨ad,hA,-,hE⟩:=vts_at HB.out hx
        subst hA
        have HE:=zH hE
        have v0:(0:Int)≤(v:Int):=by omega
        have v1:(v:Int)<(j:Int):=by omega
        have v2:¬ (j:Int)≤(v:Int):=by omega
        have v3:decide (j≤v)=false:=decide_eq_false (by omega)
        have v4:(v:Int)<100:=by omega
        clear hx hE hvn
        go_wp2_with fail
        refine VY.out.mono ?_
        rintro e w6 ⟨rfl,q6,S6,x6,t6,-⟩
        have kv:=zA w6 (.cells #[.int .u32 (x.r:Int), .int .u32 (x.l:Int), .int .u32 (x.g:Int)] 74)
        have KV:=zH (zK x6.pj.kp kv)
        have YV:=zH (VtBox.new w6 x)
        have SD:=zH (fun (W:World) (kk:Keeps (w6.alloc (.cells #[.int .u32 (x.r:Int), .int .u32 (x.l:Int), .int .u32 (x.g:Int)] 74)) W)=>show (W.cell? ⟨w6.heap.size,0,none⟩=some (.int .u32 (x.r:Int))∧W.cell? ⟨w6.heap.size,1,none⟩=some (.int .u32 (x.l:Int))∧W.cell? ⟨w6.heap.size,2,none⟩=some (.int .u32 (x.g:Int)))∧(W.cell? (ad.add (v*3))=some (.int .u32 (x.r:Int))∧W.cell? ⟨(ad.add (v*3)).block,(ad.add (v*3)).off+1,none⟩=some (.int .u32 (x.l:Int))∧W.cell? ⟨(ad.add (v*3)).block,(ad.add (v*3)).off+2,none⟩=some (.int .u32 (x.g:Int))) from
         ⟨VtBox.cells (show VtBox _ _ _ from Box.keep YV.out kk),HE.out.keep (zK KV.out kk)⟩)
        have s0:=SD.out _ (keeps_refl _)
        unfold vtG
        clear x6 t6 kv VY
        go_wp2_with fail
        go_region_held3 (fun W=>(W.cell? ⟨w6.heap.size,0,none⟩=some (.int .u32 (x.r:Int))∧W.cell? ⟨w6.heap.size,1,none⟩=some (.int .u32 (x.l:Int))∧W.cell? ⟨w6.heap.size,2,none⟩=some (.int .u32 (x.g:Int)))∧(W.cell? (ad.add (v*3))=some (.int .u32 (x.r:Int))∧W.cell? ⟨(ad.add (v*3)).block,(ad.add (v*3)).off+1,none⟩=some (.int .u32 (x.l:Int))∧W.cell? ⟨(ad.add (v*3)).block,(ad.add (v*3)).off+2,none⟩=some (.int .u32 (x.g:Int)))) (first|assumption|exact SD.out _ (zD _)) (first
         | (go_at_call 18;refine (WK.out _ (zK KV.out (zD _))).mono ?_;rintro ee w7 ⟨rfl,k7⟩;have s7:=SD.out _ (zK (zD _) k7);have K7:=zH (zK (zK KV.out (zD _)) k7)))
        all_goals
         clear s7 s0
         go_wp2_with fail
         go_ret
         exact ⟨rfl,K7.out⟩
      · have VN:=zH (vert_no GQ.out v HV.out hvn (by have:=HM.out;omega))
        have hw:wrap64 (v:Int)=(v:Int):=IntWalk.wrap64_in _ ⟨by omega,by omega⟩
        have v1:(j:Int)≤wrap64 (v:Int):=by rw [hw];omega
        have v3:decide (wrap64 (v:Int)<(j:Int))=false:=decide_eq_false (by rw [hw];omega)
        clear hvn hw
        go_wp2_with fail
        refine VN.out.mono ?_
        rintro e w6 ⟨rfl,k6⟩
        have kv:=zA w6 (.cells #[.int .u32 0, .int .u32 0, .int .u32 0] 74)
        obtain ⟨y0,y1,y2⟩:=VtBox.cells (show VtBox (w6.alloc (.cells #[.int .u32 0, .int .u32 0, .int .u32 0] 74)) w6.heap.size zV from VtBox.new w6 zV)
        have KV:=zH (zK XQ.out.pj.kp (zK k6 kv))
        have WW:=zH (WK.out _ KV.out)
        unfold vtG zV
        clear k6 kv VN hv1
        go_wp2_with fail
        refine WW.out.mono ?_
        rintro e w7 ⟨rfl,k7⟩
        have K7:=zH (zK KV.out k7)
        clear k7
        go_wp2_with fail
        go_ret
        exact ⟨rfl,K7.out⟩
end Go.Proofs.YtjmkagakdhhigaaGreatDoor
