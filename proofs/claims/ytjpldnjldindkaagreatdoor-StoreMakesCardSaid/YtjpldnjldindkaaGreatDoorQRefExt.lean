/- The reference's extsort: ahead, Sorted. -/
import Derived.Test.YtjpldnjldindkaaGreatDoorQRefInput
import Derived.Test.YtjpldnjldindkaaGreatDoorQPoolFull
set_option linter.all false
set_option maxHeartbeats 0
set_option maxRecDepth 100000
namespace Go.Proofs.YtjpldnjldindkaaGreatDoor
open Go.RowKit
theorem zdN:(Tryz.prog.info? 64).map (·.size)=some 4:=by kernel_rfl
def dropE4 (A:Option Addr) (c k:Nat):Option Addr:=if c=k then A else A.map (·.add (k*4))
theorem At.dropE4 {w:World} {B:Nat} {A:Option Addr} {n c k:Nat} {xs:List Value} (h:At w B A xs) (hn:xs.length=n*4) (hc:n≤c):At w B (dropE4 A c k) (xs.drop (k*4)):=by
 unfold Proofs.YtjpldnjldindkaaGreatDoor.dropE4;by_cases e:c=k
 ·rw [if_pos e,List.drop_of_length_le (by omega)];exact .inl rfl
 ·rw [if_neg e];rcases A with _|ad
  ·rcases h with h|⟨ad,e',_⟩
   ·rw [h];simpa using At.nil _ _ _
   ·cases e'
  ·exact h.drop (k*4)
theorem zg9 {P:Program} (t e:TypeId) (ht:P.underlying t=some (.slice e)) (he:(P.info? e).map (·.size)=some 4) (A:Option Addr) (n c k:Nat) (hk:k≤n) (w:World) :
 (Instr.sliceAt t (.slice A n c) (some (.int .i64 (k:Int))) none none).run P w = .ok (.slice (dropE4 A c k) (n-k) (c-k)) w:=by
 have he':P.elem t=e:=by simp [Program.elem,ht]
 have ht':P.underlying t=some (.slice (P.elem t)):=by rw [he'];exact ht
 obtain ⟨i,hi,hs⟩:=Option.map_eq_some_iff.1 he;rw [run_sliceAt_slice (h:=ht'),run_slice_l (ht:=ht') (h0:=by omega) (h1:=by omega)];rw [he'];simp [sizeOf,typeInfo,hi,hs,sliced,dropE4]
theorem zj8 {P:Program} (t e:TypeId) (ht:P.underlying t=some (.slice e)) (he:(P.info? e).map (·.size)=some 4) (A:Option Addr) (n c k:Nat) (hk:k≤c) (w:World) :
 (Instr.sliceAt t (.slice A n c) none (some (.int .i64 (k:Int))) none).run P w = .ok (.slice A k c) w:=by
 have he':P.elem t=e:=by simp [Program.elem,ht]
 have ht':P.underlying t=some (.slice (P.elem t)):=by rw [he'];exact ht
 obtain ⟨i,hi,hs⟩:=Option.map_eq_some_iff.1 he;rw [run_sliceAt_slice (h:=ht'),run_slice_h (ht:=ht') (h0:=by omega) (h2:=by omega)];rw [he'];cases A with
 | none=>simp [sizeOf,typeInfo,hi,hs,sliced]
 | some ad=>simp [sizeOf,typeInfo,hi,hs,sliced,Addr.add]
theorem zha (w:World) (T:TypeId) (size:Nat):Own (w.alloc (.cells #[] T)) w.heap.size T size (.slice (some ⟨w.heap.size,0,none⟩) 0 0) 0 []:=⟨by simp, .inr ⟨w.heap.size,0,#[],(0,0),rfl,Nat.le_refl _,heap_alloc_new w _, .inl rfl,Nat.le_refl _,by simp [maxLen],by simp,by simp⟩⟩
theorem ziz (l:List Ed) (k:Nat):edsC (l.take k)=(edsC l).take (k*4):=by
 induction l generalizing k with
 | nil=>simp [edsC]
 | cons e es ih=>
  rcases k with _|k
  ·simp [edsC]
  ·have:=ih k;show edC e++edsC (es.take k)=(edC e++edsC es).take ((k+1)*4);have h4:(edC e).length=4:=rfl;rw [this,List.take_append,List.take_of_length_le (l:=edC e) (by rw [h4];omega),h4,show (k+1)*4-4=k*4 by omega]
theorem ziA (l:List Ed) (k:Nat):edsC (l.drop k)=(edsC l).drop (k*4):=by
 induction l generalizing k with
 | nil=>simp [edsC]
 | cons e es ih=>
  rcases k with _|k
  ·simp [edsC]
  ·have:=ih k;show edsC (es.drop k)=(edC e++edsC es).drop ((k+1)*4);have h4:(edC e).length=4:=rfl;rw [this,List.drop_append,List.drop_of_length_le (l:=edC e) (by rw [h4];omega),List.nil_append,h4,show (k+1)*4-4=k*4 by omega]
theorem zfQ (a b:List Ed):edsC (a++b)=edsC a++edsC b:=by simp [edsC]
theorem zhE (a b:Ed) (bi:Int) (w:World) :
 Calls Tryz.prog 61 #[.agg (edA a), .agg (edA b), .int .i64 bi] w fun e w'=>e = .returned (.bool (ahB (decide (bi=1)) a b))∧Keeps w w':=by
 have k0:=fun a b=>zK (zA w a) (zA (w.alloc a) b)
 unfold edA;by_cases hb:bi=1
 ·subst hb;have hd1:ahB (decide ((1:Int)=1)) a b=ahB true a b:=rfl;rw [hd1];clear hd1;by_cases h1:a.h<b.h
  ·have e1:ahB true a b=true:=(by simp [ahB,ahd,h1]);rw [e1];clear e1;go_enter Tryz.func61,Tryz.ntmps61;go_wp2
   go_ret;exact ⟨rfl,k0 _ _⟩
  ·by_cases h2:a.h=b.h
   ·have e1:ahB true a b=decide (a.t<b.t):=(by simp [ahB,ahd,h2]);have h3:((a.h:Int) == (b.h:Int))=true:=by rw [beq_iff_eq];omega
    have h4:decide (a.h<b.h)=false:=decide_eq_false (by omega);rw [e1];clear e1 h1 h2;go_enter Tryz.func61,Tryz.ntmps61;go_wp2
    go_ret;exact ⟨by simp [h4],k0 _ _⟩
   ·have e1:ahB true a b=false:=(by simp [ahB,ahd,h1,h2]);have h3:((a.h:Int) == (b.h:Int))=false:=by rw [beq_eq_false_iff_ne];omega
    have h4:decide (a.h<b.h)=false:=decide_eq_false (by omega);rw [e1];clear e1 h1 h2;go_enter Tryz.func61,Tryz.ntmps61;go_wp2
    go_ret;exact ⟨by simp [h4],k0 _ _⟩
 ·have hd1:ahB (decide (bi=1)) a b=ahB false a b:=(by rw [decide_eq_false hb]);have hbi:(bi == 1)=false:=by rw [beq_eq_false_iff_ne];exact hb
  rw [hd1];clear hd1 hb;by_cases h1:a.t<b.t
  ·have e1:ahB false a b=true:=(by simp [ahB,ahd,h1]);rw [e1];clear e1;go_enter Tryz.func61,Tryz.ntmps61;go_wp2
   go_ret;exact ⟨rfl,k0 _ _⟩
  ·by_cases h2:a.t=b.t
   ·have e1:ahB false a b=decide (a.h<b.h):=(by simp [ahB,ahd,h2]);have h3:((a.t:Int) == (b.t:Int))=true:=by rw [beq_iff_eq];omega
    have h4:decide (a.t<b.t)=false:=decide_eq_false (by omega);rw [e1];clear e1 h1 h2;go_enter Tryz.func61,Tryz.ntmps61;go_wp2
    go_ret;exact ⟨by simp [h4],k0 _ _⟩
   ·have e1:ahB false a b=false:=(by simp [ahB,ahd,h1,h2]);have h3:((a.t:Int) == (b.t:Int))=false:=by rw [beq_eq_false_iff_ne];omega
    have h4:decide (a.t<b.t)=false:=decide_eq_false (by omega);rw [e1];clear e1 h1 h2;go_enter Tryz.func61,Tryz.ntmps61;go_wp2
    go_ret;exact ⟨by simp [h4],k0 _ _⟩
theorem zc4 (A:Option Addr) (n c:Nat) (l:List Ed) (bi:Int) (w:World) (hB:At w w.heap.size A (edsC l)) (hok:∀ e∈l,EdOk e) (hnl:n=l.length) (hn:n≤1000000) :
 Calls Tryz.prog 27 #[.slice A n c, .int .i64 bi] w fun e w'=>∃ a,RedB (decide (bi=1)) l a∧NewE w a e w':=by
 obtain ⟨i0,hi,hz0,hz1,hz2⟩:=info_parts zdL;have RR:=zH (ziM A n c l w hB hok hnl hn);have HNL:=zH hnl;clear hB hnl hok;go_enter Tryz.func27,Tryz.ntmps27;go_wp2_with fail
 refine RR.out.mono ?_;rintro e w1 ⟨r,hr,vr,rfl,hor,hk1⟩;obtain ⟨Ar,cr,rfl,hcr,-,-,-⟩:=hor.form;have HR:=zH hr;have HOR:=zH hor;have hrl:r.length≤1000000:=by have:=hr.toB.len_le;have:=HNL.out;omega
 have hri:(r.length:Int)≤1000000:=by omega
 obtain ⟨m,hm⟩:∃ m,m=r.length:=⟨_,rfl⟩
 have HM:=zH hm;rw [←hm] at hrl hri hcr ⊢;have HK1:=zH hk1;clear hr hor hk1 hm;go_wp2;go_loopw [5,7] (fun v i wr=>∃ (k:Nat) (a:List Ed),k≤m∧i = .int .i64 k∧Own wr w1.heap.size 64 4 v k (edsC a)∧a.length=k∧a=sortE (decide (bi=1)) (r.take k)∧Keeps w1 wr) (fun _ i _=>m-(intOf i).toNat)
 case atStart=>exact ⟨0,[],Nat.zero_le _,rfl,Own.nil _ _ _ _,rfl,by simp [sortE],zab _⟩
 case round=>
  obtain ⟨k,a,hk,rfl,hO,hak,hse,hkp⟩:=hrel;have hAK:=zH hak;have hSE:=zH hse;have HKW:=zH hkp;obtain ⟨Aa,ca,rfl,hca,-,-,-⟩:=hO.form;have HCA:=zH hca;have HOW:=zH hO;have hcai:(k:Int)≤(ca:Int):=by omega
  clear hak hse hO hca;by_cases hlt:k<m
  ·obtain ⟨x,hx⟩:∃ x,r[k]? = some x:=(⟨_,zG9 (by have:=HM.out;omega)⟩);obtain ⟨gr,rfl,-,-,hgr⟩:=HOR.out.cell (j:=k*4) (by rw [zau];have:=HM.out;omega);have HXE:=zH ((zdy HOR.out hx).1.keep hkp);have ES:=zH (show sortE (decide (bi=1)) (r.take (k+1))=putE (decide (bi=1)) x (sortE (decide (bi=1)) (r.take k)) by
    rw [List.take_succ_eq_append_getElem (by have:=HM.out;omega)];rw [zG9 (by have:=HM.out;omega)] at hx;rw [Option.some.inj hx];unfold sortE;rw [List.foldl_append];rfl)
   have hkn:(k:Int)<(m:Int):=(by omega);have k0:(0:Int)≤(k:Int):=by omega
   clear hx hkp;go_wp2_with fail
   rename World=>wo
   go_loopw [8] (fun i wi=>∃ p:Nat,p≤k∧i = .int .i64 p∧(∀ j e,j<p→a[j]? = some e→ahB (decide (bi=1)) e x=true)∧Keeps wo wi) (fun i _=>k-(intOf i).toNat)
   case atStart=>exact ⟨0,Nat.zero_le _,rfl,fun j e hj=>by omega,zab _⟩
   case round=>
    obtain ⟨p,hp,rfl,hlo,hks⟩:=hrel;have LO:=zH hlo;clear hlo;by_cases hpl:p<k
    ·obtain ⟨e,he⟩:∃ e,a[p]? = some e:=(⟨_,zG9 (by rw [hAK.out];exact hpl)⟩);have OW:=HOW.out.keep hks;obtain ⟨g,rfl,-,-,hgb⟩:=OW.cell (j:=p*4) (by rw [zau,hAK.out];omega);have hG:=(zdy OW he).1;have hX:=HXE.out.keep hks;have hpn:(p:Int)<(k:Int):=by omega
     have hp0:(0:Int)≤(p:Int):=(by omega);have C1:=zH (zhE e x bi);have SS:=zH (fun (V:World) (kk:Keeps wr V)=>And.intro (hG.keep kk) (hX.keep kk));have HE:=zH he;have HKS:=zH hks;clear he OW hG hX hks;unfold EdG at SS;go_wp2_with fail
     go_region_held3 (fun V=>(V.cell? ⟨g,p*4,none⟩=some (.int .u32 (e.t:Int))∧V.cell? ⟨g,p*4+1,none⟩=some (.int .u32 (e.h:Int))∧V.cell? ⟨g,p*4+2,none⟩=some (.int .u64 (e.x:Int))∧V.cell? ⟨g,p*4+3,none⟩=some (.int .u32 (e.m:Int)))∧(V.cell? ⟨gr,k*4,none⟩=some (.int .u32 (x.t:Int))∧V.cell? ⟨gr,k*4+1,none⟩=some (.int .u32 (x.h:Int))∧V.cell? ⟨gr,k*4+2,none⟩=some (.int .u64 (x.x:Int))∧V.cell? ⟨gr,k*4+3,none⟩=some (.int .u32 (x.m:Int)))) (exact SS.out _ (by first|assumption|exact zD _)) (first
      | (go_at_call 61;refine (C1.out _).mono ?_;rintro ee w2 ⟨rfl,k1⟩;replace k1:=zK (zD _) k1))
     cases hb:ahB (decide (bi=1)) e x
     ·have KT:=zH (zK HKS.out k1);have HI:=zH (show ∀ f,a[p]? = some f→ahB (decide (bi=1)) f x=false from fun f hf=>by rw [HE.out] at hf;rw [←Option.some.inj hf];exact hb);obtain ⟨Aa,hAa⟩:∃ Aa,Aa=(some ⟨g,0,none⟩:Option Addr):=⟨_,rfl⟩
      rw [←hAa] at HOW ⊢;clear hAa k1 hpl hpn hb;have KT':=zH (zK HKW.out KT.out);obtain ⟨y0,y1,y2,y3⟩:=(HXE.out.keep KT.out)
      have OA1:=zH (HOW.out.keep KT.out);have AT1:=zH (show At w2 w2.heap.size (Aa) (edsC (a.take p)) by rw [ziz];exact (OA1.out.at_).take (p*4));have AT2:=zH (show At w2 w2.heap.size (dropE4 Aa ca p) (edsC (a.drop p)) by rw [ziA];exact (OA1.out.at_).dropE4 (n:=k) (by rw [zau,hAK.out]) HCA.out);have L1:=zH (show (edsC (a.take p)).length=p*4 by rw [zau,List.length_take,hAK.out];omega);have L2:=zH (show (edsC (a.drop p)).length=(k-p)*4 by rw [zau,List.length_drop,hAK.out]);have PUT:=zH (zhf (hd:=decide (bi=1)) (x:=x) (a:=a) (k:=p) (by rw [hAK.out];exact hp) LO.out HI.out);have hsl:=zg9 (P:=Tryz.prog) 22 64 Tryz.underlying22 zdN Aa k ca p hp;have hst:=zj8 (P:=Tryz.prog) 22 64 Tryz.underlying22 zdN Aa k ca p (by have:=HCA.out;omega);have hpi:(p:Int)≤(k:Int):=by omega
      have hpc:(p:Int)≤(ca:Int):=by have:=HCA.out;omega
      have hp0:(0:Int)≤(p:Int):=(by omega);have O0:=zH (zha w2 64 4);generalize dropE4 Aa ca p=DA at *;have KE:=zH (zA w2 (.cells #[] 64));go_wp2_with (at_builtin;refine zaj _ rfl _ _ 22 rfl w2.heap.size 64 i0 (.agg #[.int .u32 0, .int .u32 0, .int .u64 0, .int .u32 0]) 4 24 Tryz.underlying22 hi hz0 hz1 hz2 rfl (by decide) _ 0 [] rfl O0.out _ Aa p ca (edsC (a.take p)) rfl L1.out ((AT1.out).keep KE.out) (zbQ _) (by unfold maxLen;omega) (by omega) (by simp) ?_)
      intro v6 w6 o6 g6 b6;have k6:Keeps w2 w6:=Below.grown KE.out g6 KE.out.size (fun g hg=>(O0.out.lt g hg).1);obtain ⟨A6,c6,rfl,-⟩:=o6.form;have O6:=zH o6;have K6:=zH k6;have x0:=k6.cellOf y0;have x1:=k6.cellOf y1;have x2:=k6.cellOf y2;have x3:=k6.cellOf y3;clear o6 g6 b6 k6;go_wp2_with (at_builtin;refine zaj _ rfl _ _ 22 rfl w2.heap.size 64 i0 (.agg #[.int .u32 0, .int .u32 0, .int .u64 0, .int .u32 0]) 4 24 Tryz.underlying22 hi hz0 hz1 hz2 rfl (by decide) _ p _ rfl (O6.out.keep (zA _ _)) _ _ 1 1 (edC x) rfl rfl (At.new _ _ _ _ (Nat.lt_succ_self _)) (by intro u hu;exact zbQ [x] u (by simpa [edsC] using hu)) (by unfold maxLen;omega) (by omega) (by have:=K6.out.size;simp only [World.size_alloc];omega) ?_)
      intro v7 w7 o7 g7 b7;have k7:Keeps w2 w7:=Below.grown (zK K6.out (zA _ _)) g7 (zK K6.out (zA _ _)).size (fun g hg=>(O6.out.lt g hg).1);obtain ⟨A7,c7,rfl,-⟩:=o7.form;have O7:=zH o7;have K7:=zH k7;clear o7 g7 b7 k7 x0 x1 x2 x3 y0 y1 y2 y3;go_wp2_with (at_builtin;refine zaj _ rfl _ _ 22 rfl w2.heap.size 64 i0 (.agg #[.int .u32 0, .int .u32 0, .int .u64 0, .int .u32 0]) 4 24 Tryz.underlying22 hi hz0 hz1 hz2 rfl (by decide) _ (p+1) _ rfl O7.out _ DA (k-p) (ca-p) (edsC (a.drop p)) rfl L2.out ((AT2.out).keep K7.out) (zbQ _) (by unfold maxLen;omega) (by omega) K7.out.size ?_)
      intro v8 w8 o8 g8 b8;have k8:Keeps w2 w8:=Below.grown K7.out g8 K7.out.size (fun g hg=>(O7.out.lt g hg).1);have k9:=zK KT'.out k8;have e8:edsC (a.take p)++(edC x++edsC (a.drop p))=edsC (putE (decide (bi=1)) x a):=by rw [PUT.out,zfQ];rfl
      rw [e8,show p+1+(k-p)=k+1 by omega] at o8;have O8:=zH (o8.base_le KT'.out.size);clear o8 g8 b8 e8;go_wp2_with fail
      refine ⟨⟨k+1,putE (decide (bi=1)) x a,by omega,by go_num,O8.out,by rw [PUT.out];simp only [List.length_append,List.length_cons,List.length_take,List.length_drop,hAK.out];omega,by rw [ES.out,←hSE.out],k9⟩,?_⟩;simp [intOf];omega
     ·have LO':=zH (show ∀ j f,j<p+1→a[j]? = some f→ahB (decide (bi=1)) f x=true from fun j f hj hf=>by
       by_cases hjp:j=p
       ·subst hjp;rw [HE.out] at hf;obtain rfl:=Option.some.inj hf;exact hb
       ·exact LO.out j f (by omega) hf)
      go_wp2;go_roundw
      case rel=>exact ⟨p+1,by omega,by go_num,LO'.out,zK HKS.out k1⟩
      case measure=>simp [intOf];omega
    ·have KT0:=zH hks;have HI:=zH (show ∀ f,a[p]? = some f→ahB (decide (bi=1)) f x=false from fun f hf=>by have:=(zI9.1 hf).1;rw [hAK.out] at this;omega);have hg:decide ((p:Int)<(k:Int))=false:=decide_eq_false (by omega);have hg2:decide (p<k)=false:=decide_eq_false (by omega);clear hks hpl;go_wp2;go_quiet (fail)
     have KT:=zH (zK KT0.out (zam wr nq));generalize wr.drewN nq=w2 at *;have KT':=zH (zK HKW.out KT.out);obtain ⟨y0,y1,y2,y3⟩:=(HXE.out.keep KT.out)
     have OA1:=zH (HOW.out.keep KT.out);have AT1:=zH (show At w2 w2.heap.size (Aa) (edsC (a.take p)) by rw [ziz];exact (OA1.out.at_).take (p*4));have AT2:=zH (show At w2 w2.heap.size (dropE4 Aa ca p) (edsC (a.drop p)) by rw [ziA];exact (OA1.out.at_).dropE4 (n:=k) (by rw [zau,hAK.out]) HCA.out);have L1:=zH (show (edsC (a.take p)).length=p*4 by rw [zau,List.length_take,hAK.out];omega);have L2:=zH (show (edsC (a.drop p)).length=(k-p)*4 by rw [zau,List.length_drop,hAK.out]);have PUT:=zH (zhf (hd:=decide (bi=1)) (x:=x) (a:=a) (k:=p) (by rw [hAK.out];exact hp) LO.out HI.out);have hsl:=zg9 (P:=Tryz.prog) 22 64 Tryz.underlying22 zdN Aa k ca p hp;have hst:=zj8 (P:=Tryz.prog) 22 64 Tryz.underlying22 zdN Aa k ca p (by have:=HCA.out;omega);have hpi:(p:Int)≤(k:Int):=by omega
     have hpc:(p:Int)≤(ca:Int):=by have:=HCA.out;omega
     have hp0:(0:Int)≤(p:Int):=(by omega);have O0:=zH (zha w2 64 4);generalize dropE4 Aa ca p=DA at *;have KE:=zH (zA w2 (.cells #[] 64));go_wp2_with (at_builtin;refine zaj _ rfl _ _ 22 rfl w2.heap.size 64 i0 (.agg #[.int .u32 0, .int .u32 0, .int .u64 0, .int .u32 0]) 4 24 Tryz.underlying22 hi hz0 hz1 hz2 rfl (by decide) _ 0 [] rfl O0.out _ Aa p ca (edsC (a.take p)) rfl L1.out ((AT1.out).keep KE.out) (zbQ _) (by unfold maxLen;omega) (by omega) (by simp) ?_)
     intro v6 w6 o6 g6 b6;have k6:Keeps w2 w6:=Below.grown KE.out g6 KE.out.size (fun g hg=>(O0.out.lt g hg).1);obtain ⟨A6,c6,rfl,-⟩:=o6.form;have O6:=zH o6;have K6:=zH k6;have x0:=k6.cellOf y0;have x1:=k6.cellOf y1;have x2:=k6.cellOf y2;have x3:=k6.cellOf y3;clear o6 g6 b6 k6;go_wp2_with (at_builtin;refine zaj _ rfl _ _ 22 rfl w2.heap.size 64 i0 (.agg #[.int .u32 0, .int .u32 0, .int .u64 0, .int .u32 0]) 4 24 Tryz.underlying22 hi hz0 hz1 hz2 rfl (by decide) _ p _ rfl (O6.out.keep (zA _ _)) _ _ 1 1 (edC x) rfl rfl (At.new _ _ _ _ (Nat.lt_succ_self _)) (by intro u hu;exact zbQ [x] u (by simpa [edsC] using hu)) (by unfold maxLen;omega) (by omega) (by have:=K6.out.size;simp only [World.size_alloc];omega) ?_)
     intro v7 w7 o7 g7 b7;have k7:Keeps w2 w7:=Below.grown (zK K6.out (zA _ _)) g7 (zK K6.out (zA _ _)).size (fun g hg=>(O6.out.lt g hg).1);obtain ⟨A7,c7,rfl,-⟩:=o7.form;have O7:=zH o7;have K7:=zH k7;clear o7 g7 b7 k7 x0 x1 x2 x3 y0 y1 y2 y3;go_wp2_with (at_builtin;refine zaj _ rfl _ _ 22 rfl w2.heap.size 64 i0 (.agg #[.int .u32 0, .int .u32 0, .int .u64 0, .int .u32 0]) 4 24 Tryz.underlying22 hi hz0 hz1 hz2 rfl (by decide) _ (p+1) _ rfl O7.out _ DA (k-p) (ca-p) (edsC (a.drop p)) rfl L2.out ((AT2.out).keep K7.out) (zbQ _) (by unfold maxLen;omega) (by omega) K7.out.size ?_)
     intro v8 w8 o8 g8 b8;have k8:Keeps w2 w8:=Below.grown K7.out g8 K7.out.size (fun g hg=>(O7.out.lt g hg).1);have k9:=zK KT'.out k8;have e8:edsC (a.take p)++(edC x++edsC (a.drop p))=edsC (putE (decide (bi=1)) x a):=by rw [PUT.out,zfQ];rfl
     rw [e8,show p+1+(k-p)=k+1 by omega] at o8;have O8:=zH (o8.base_le KT'.out.size);clear o8 g8 b8 e8;go_wp2_with fail
     refine ⟨⟨k+1,putE (decide (bi=1)) x a,by omega,by go_num,O8.out,by rw [PUT.out];simp only [List.length_append,List.length_cons,List.length_take,List.length_drop,hAK.out];omega,by rw [ES.out,←hSE.out],k9⟩,?_⟩;simp [intOf];omega
  ·obtain rfl:k=m:=(by omega);go_wp2;go_ret;refine ⟨a,?_,_,rfl,?_,zK HK1.out HKW.out⟩
   ·rw [hSE.out,HM.out,List.take_length];exact zmH HR.out.toB
   ·rw [hAK.out];exact HOW.out.base_le HK1.out.size
structure Rz where
 A:Option Addr
 c:Nat
 b:List UInt8
def rzV (x:Rz):Value:=.slice x.A x.b.length x.c
def RzOk (w:World) (base:Nat) (x:Rz):Prop:=Own w base 5 1 (rzV x) x.b.length (cel x.b)
structure RzsAt (w:World) (base:Nat) (v:Value) (l:List Rz):Prop where
 row:Own w base 39 1 v l.length (l.map rzV)
 each:∀ x∈l,RzOk w base x
theorem zli:(Tryz.prog.info? 39).map (fun i=>(i.zero,i.size,i.bytes))=some (some (.slice none 0 0),1,24):=by kernel_rfl
theorem zoD:(5:TypeId)≠39:=by decide
theorem zee (A:Option Addr) (n c:Nat) (es:List Ed) (w:World) (hB:At w w.heap.size A (edsC es)) (hok:∀ e∈es,EdOk e) (hnl:n=es.length) (hn:n≤1000000) :
 Calls Tryz.prog 30 #[.slice A n c] w fun e w'=>∃ v l,e = .returned v∧RzsAt w' w.heap.size v l∧l.map (·.b)=es.map edB∧Keeps w w':=by
 obtain ⟨i0,hi,hz0,hz1,hz2⟩:=info_parts zli;have HB:=zH hB;have HOK:=zH hok;have HNL:=zH hnl;have hni:(n:Int)≤1000000:=by omega
 clear hB hok hnl;go_enter Tryz.func30,Tryz.ntmps30;go_wp2;go_loopw [3,4] (fun v i wr=>∃ (k:Nat) (l:List Rz),k≤n∧i = .int .i64 k∧l.length=k∧RzsAt wr w.heap.size v l∧l.map (·.b)=(es.take k).map edB∧Keeps w wr) (fun _ i _=>n-(intOf i).toNat)
 case atStart=>exact ⟨0,[],Nat.zero_le _,rfl,rfl,⟨Own.nil _ _ _ _,fun x hx=>by simp at hx⟩,by simp,zab _⟩
 case round=>
  obtain ⟨k,l,hk,rfl,hl,hO,hm,hkp⟩:=hrel;have HL:=zH hl;have HO:=zH hO;have HM:=zH hm;obtain ⟨Av,cv,rfl,hcv,-,-,-⟩:=hO.row.form;have HOR:=zH (show Own wr w.heap.size 39 1 (.slice Av k cv) k (l.map rzV) by have:=hO.row;rw [hl] at this;exact this);rw [hl] at hcv HO ⊢;clear hO hm hl;by_cases hlt:k<n
  ·obtain ⟨x,hx⟩:∃ x,es[k]? = some x:=(⟨_,zG9 (by have:=HNL.out;omega)⟩);obtain ⟨ad,rfl,_,hE⟩:=zbJ HB.out hx;obtain ⟨a0,a1,a2,a3⟩:=hE.keep hkp;have okx:=HOK.out _ (List.mem_of_getElem? hx);have RE:=zH (zfB x.t x.h x.x x.m okx.t okx.h okx.x okx.m wr);have ET:=zH (show (es.take (k+1)).map edB=(es.take k).map edB++[edB x] by
    rw [List.take_succ_eq_append_getElem (by have:=HNL.out;omega)];rw [zG9 (by have:=HNL.out;omega)] at hx;rw [Option.some.inj hx,List.map_append];rfl)
   have hkn:(k:Int)<(n:Int):=(by omega);have HKP:=zH hkp;clear hx hE okx hkp;go_wp2_with fail
   refine RE.out.mono ?_;rintro e w2 ⟨v2,rfl,o2,k2⟩;obtain ⟨A2,c2,rfl,hc2,-,-,-⟩:=o2.form;have O2:=zH (show RzOk w2 w.heap.size ⟨A2,c2,edB x⟩ from o2.base_le HKP.out.size);have K2:=zH k2;have el:(edgeB x.t x.h x.x x.m).length=20:=zbd x;rw [el];clear o2 k2 hc2 a0 a1 a2 a3 el;go_wp2_with (at_builtin;refine zaj _ rfl _ _ 78 rfl w.heap.size 39 i0 (.slice none 0 0) 1 24 Tryz.underlying78 hi hz0 hz1 hz2 rfl (by decide) _ k (l.map rzV) rfl ((HOR.out.keep K2.out).keep (zA _ _)) _ _ 1 1 [rzV ⟨A2,c2,edB x⟩] rfl rfl (by simp only [rzV,zbd];exact At.new _ _ _ _ (Nat.lt_succ_self _)) (by intro u hu;rw [List.mem_singleton] at hu;rw [hu];rfl) (by unfold maxLen;omega) (by omega) (zK (zK HKP.out K2.out) (zA _ _)).size ?_)
   intro v5 w5 o5 g5 b5;have kA:=zK (zK HKP.out K2.out) (zA w2 (.cells #[.slice A2 20 c2] 39));have k5:Keeps w w5:=Below.grown kA g5 kA.size (fun g hg=>(HO.out.row.lt g hg).1);have e5:l.map rzV++[rzV ⟨A2,c2,edB x⟩]=(l++[(⟨A2,c2,edB x⟩:Rz)]).map rzV:=by rw [List.map_append];rfl
   rw [e5] at o5;have hlen:(l++[(⟨A2,c2,edB x⟩:Rz)]).length=k+1:=by rw [List.length_append,HL.out];rfl
   have R5:=zH (show RzsAt w5 w.heap.size v5 (l++[⟨A2,c2,edB x⟩]) from ⟨by rw [hlen];exact o5,fun y hy=>by
    have old:∀ y,RzOk w2 w.heap.size y→RzOk w5 w.heap.size y:=fun y hy=>by
     have hy2:RzOk (w2.alloc (.cells #[.slice A2 20 c2] 39)) w.heap.size y:=Own.keep hy (zA _ _);refine Own.same hy2 (fun g hg=>g5.block g (Own.lt hy2 g hg).2 (fun e=>?_));rcases Own.apart hy2 (HO.out.row.keep (zK K2.out (zA w2 (.cells #[.slice A2 20 c2] 39)))) zoD with h|h
     ·rw [h] at hg;cases hg
     ·exact h (by rw [hg,←e])
    rcases List.mem_append.1 hy with hy|hy
    ·exact old y (Own.keep (HO.out.each y hy) K2.out)
    ·rw [List.mem_singleton] at hy;rw [hy];exact old _ O2.out⟩)
   clear o5 g5 b5 kA e5;go_wp2_with fail
   refine ⟨⟨k+1,l++[⟨A2,c2,edB x⟩],by omega,by go_num,hlen,R5.out,by rw [List.map_append,HM.out,ET.out];rfl,k5⟩,?_⟩;simp [intOf];omega
  ·obtain rfl:k=n:=(by omega);go_wp2;go_ret;refine ⟨_,l,rfl,HO.out,?_,hkp⟩;rw [HM.out,HNL.out,List.take_length]
def segB (rs:List (List UInt8)) (a j:Nat):List UInt8:=((rs.drop a).take (j-a)).flatten
theorem zhb (rs:List (List UInt8)) (a:Nat):segB rs a a=[]:=by simp [segB]
theorem ziB {rs:List (List UInt8)} {a j:Nat} {x:List UInt8} (h:a≤j) (hx:rs[j]? = some x):segB rs a (j+1)=segB rs a j++x:=by
 unfold segB;have hj:=(zI9.1 hx).1;have e:j+1-a=(j-a)+1:=by omega
 have hl:j-a<(rs.drop a).length:=by rw [List.length_drop];omega
 rw [e,List.take_succ_eq_append_getElem hl,List.flatten_append];have:(rs.drop a)[j-a]=x:=by
  rw [List.getElem_drop];have e2:a+(j-a)=j:=by omega
  have h2:=(zI9.1 hx).2;simp only [e2];exact h2
 rw [this];simp
theorem zqy {rs:List (List UInt8)} (hr:∀ r∈rs,r.length=20) {a j:Nat} (h:a≤j) (hj:j≤rs.length):(segB rs a j).length=20*(j-a):=by
 unfold segB;have:∀ l:List (List UInt8),(∀ r∈l,r.length=20)→l.flatten.length=20*l.length:=fun l=>by
  induction l with
  | nil=>intro _;rfl
  | cons x l ih=>
   intro h;rw [List.flatten_cons,List.length_append,h x List.mem_cons_self,ih (fun r hr=>h r (List.mem_cons_of_mem _ hr)),List.length_cons];omega
 rw [this _ (fun r h5=>hr r (List.mem_of_mem_drop (List.mem_of_mem_take h5))),List.length_take,List.length_drop];omega
theorem zoE {rs:List (List UInt8)} {k j:Nat} (h:12*k≤j) (hj:j=rs.length∧j≤12*(k+1)∨j=12*(k+1)):segB rs (12*k) j=(zay 12 rs k).flatten:=by
 unfold segB zay;rw [show k*12=12*k by omega];rcases hj with ⟨h1,h2⟩|h1
 ·rw [List.take_of_length_le (by rw [List.length_drop];omega),List.take_of_length_le (by rw [List.length_drop];omega)]
 ·rw [show j-12*k=12 by omega]
theorem zj9 (nm:List UInt8) (hnm:nm.length≤1000000) (Av:Option Addr) (cv base:Nat) (l:List Rz) (w:World) (h:RzsAt w base (.slice Av l.length cv) l) (hn:l.length≤100000) (hl:∀ x∈l,x.b.length=20) :
 Calls Tryz.prog 29 #[.string (str nm), .slice Av l.length cv, .int .i64 12] w (New w (fileB nm 0 (zae 12 (l.map (·.b))))):=by
 obtain ⟨i0,hi,hz0,hz1,hz2⟩:=info_parts zbB;obtain ⟨n,hnn⟩:∃ n,n=l.length:=⟨_,rfl⟩
 have HNN:=zH hnn;have H:=zH h;have HL:=zH hl;have hni:(n:Int)≤100000:=by omega
 obtain ⟨rs,hrs⟩:∃ rs,rs=l.map (·.b):=⟨_,rfl⟩
 have HRS:=zH hrs;have RL:=zH (show rs.length=n by rw [hrs,List.length_map,hnn]);have R20:=zH (show ∀ r∈rs,r.length=20 from fun r hr=>by
  rw [hrs] at hr;obtain ⟨x,hx,rfl⟩:=List.mem_map.1 hr;exact hl x hx)
 have PL:=zH (show (zae 12 rs).length=zak 12 n by rw [zaC,RL.out]);have TG:=zH (fun W=>zgI nm W hnm);rw [←hnn,←hrs];clear h hl hrs hn hnn;generalize str nm=sn at *;go_enter Tryz.func29,Tryz.ntmps29;go_wp2;go_loopw [7,8] (fun v i wr=>∃ k:Nat,k≤zak 12 n∧k≤n∧i = .int .i64 k∧Own wr w.heap.size 5 1 v (256*k) (cel (fileB nm 0 ((zae 12 rs).take k)))∧Keeps w wr) (fun _ i _=>n-(intOf i).toNat)
 case atStart=>exact ⟨0,Nat.zero_le _,Nat.zero_le _,rfl,Own.nil _ _ _ _,zab _⟩
 case round=>
  obtain ⟨k,hkp,hkn,rfl,hO,hks⟩:=hrel;have HO:=zH hO;have HK:=zH hks;have HKP:=zH hkp;obtain ⟨Ao,co,rfl,hco,-,-,-⟩:=hO.form;clear hO hks hkp;by_cases hlt:12*k<n
  ·have hlt':(12:Int)*(k:Int)<(n:Int):=(by omega);have hki:(k:Int)≤(n:Int):=by omega
   go_wp2_with fail
   rename World=>wo
   go_loopw [9,10] (fun v i wi=>∃ j:Nat,12*k≤j∧j≤n∧j≤12*(k+1)∧i = .int .i64 j∧Own wi wo.heap.size 5 1 v (20*(j-12*k)) (cel (segB rs (12*k) j))∧Keeps wo wi) (fun _ i _=>n-(intOf i).toNat)
   case atStart=>exact ⟨12*k,Nat.le_refl _,by omega,by omega,by go_num,by rw [zhb,Nat.sub_self];exact Own.nil _ _ _ _,zab _⟩
   case round=>
    obtain ⟨j,hj1,hj2,hj3,rfl,hB,hkw⟩:=hrel;have HBB:=zH hB;have HKW:=zH hkw;obtain ⟨Ab,cb,rfl,hcb,-,-,-⟩:=hB.form;clear hB hkw;have hji:(j:Int)≤(n:Int):=by omega
    by_cases hjn:j<n∧j<12*(k+1)
    ·obtain ⟨hja,hjb⟩:=hjn;obtain ⟨x,hx⟩:∃ x,l[j]? = some x:=(⟨_,zG9 (by have:=HNN.out;omega)⟩);have hrow:=(H.out.row.keep HK.out).keep HKW.out;obtain ⟨g,rfl,hc,-,-⟩:=hrow.cell (j:=j) (by rw [List.length_map,←HNN.out];exact hja);rw [List.getElem?_map,hx] at hc;replace hc:(wr.cell? ⟨g,j,none⟩)=some (.slice x.A x.b.length x.c):=hc;have EX:=zH ((Own.keep (H.out.each x (List.mem_of_getElem? hx)) HK.out).keep HKW.out);have x20:=HL.out x (List.mem_of_getElem? hx);have SN:=zH (ziB (rs:=rs) (a:=12*k) (j:=j) (x:=x.b) hj1 (by rw [HRS.out,List.getElem?_map,hx];rfl));have XA:=zH (show At wr wr.heap.size x.A (cel x.b) from Own.at_ EX.out);have XL:=zH (show (cel x.b).length=20*1 by rw [zaq,x20]);rw [x20] at hc;have HMX:=zH (show 20*(j-12*k)+20≤maxLen by unfold maxLen;omega);have HMB:=zH (show (20*(j-12*k)+20)*1≤140737488355328 by omega);have h1:(j:Int)<(n:Int):=by omega
     have h2:(j:Int)<12*((k:Int)+1):=(by omega);have h0:(0:Int)≤(j:Int):=by omega
     clear hrow hx x20;go_wp2_with (at_builtin;refine zaj _ rfl _ _ 39 rfl wo.heap.size 5 i0 (.int .u8 0) 1 1 Tryz.underlying39 hi hz0 hz1 hz2 rfl (by decide) _ (20*(j-12*k)) _ rfl HBB.out _ x.A 20 x.c (cel x.b) rfl XL.out XA.out (za3 _) HMX.out HMB.out HKW.out.size ?_)
     intro v5 w5 o5 g5 b5;have k5:Keeps wo w5:=Below.grown HKW.out g5 HKW.out.size (fun g hg=>(HBB.out.lt g hg).1);rw [←zax,←SN.out,show 20*(j-12*k)+20=20*(j+1-12*k) by omega] at o5;clear g5 b5;go_wp2;go_roundw
     case rel=>exact ⟨j+1,by omega,by omega,by omega,by go_num,o5,k5⟩
     case measure=>simp [intOf];omega
    ·have hend:j=n∧j≤12*(k+1)∨j=12*(k+1):=(by omega);have SP:=zH (zoE (rs:=rs) (k:=k) (j:=j) hj1 (by rw [RL.out];exact hend));have SL:=zH (zqy R20.out (a:=12*k) (j:=j) hj1 (by rw [RL.out];exact hj2));obtain ⟨X,hX⟩:∃ X,X=segB rs (12*k) j:=⟨_,rfl⟩
     obtain ⟨m,hm⟩:∃ m,m=20*(j-12*k):=(⟨_,rfl⟩);have hm240:m≤240:=by omega
     have HBX:=zH (show Own wr wo.heap.size 5 1 (.slice Ab m cb) m (cel X) by rw [hm,hX];exact HBB.out);rw [←hX] at SP SL;rw [←hm] at SL hcb ⊢;have BX:=zH (show Bs wr Ab X from Own.at_ HBX.out);have ways:(decide ((j:Int)<(n:Int))=false∧decide (j<n)=false)∨((j:Int)<(n:Int)∧decide ((j:Int)<12*((k:Int)+1))=false):=by
      rcases hend with ⟨h,-⟩|h
      ·exact .inl ⟨decide_eq_false (by omega),decide_eq_false (by omega)⟩
      ·by_cases h5:j<n
       ·exact .inr ⟨by omega,decide_eq_false (by omega)⟩
       ·exact .inl ⟨decide_eq_false (by omega),decide_eq_false (by omega)⟩
     have MK:=zH (fun (W:World) (hK:Keeps wr W)=>zfL (extC 0 nm) k (zcA (by decide) _) (by omega) Ab m cb X W (BX.out.keep hK) SL.out.symm (by rw [SL.out];omega));clear hjn hX hm;rcases ways with ⟨w1,w2⟩|⟨w1,w2⟩
     all_goals
      go_wp2_with fail
      refine (TG.out _).mono ?_;rintro e w2 ⟨rfl,k2⟩;have K2:=zH k2;have MK2:=zH (MK.out w2 k2);clear k2;go_wp2_with fail
      refine MK2.out.mono ?_;rintro e w3 ⟨v3,rfl,o3,k3⟩;have KW3:=zH (zK HKW.out (zK K2.out k3));have hl3:(pageB (extC 0 nm) k X).length=256:=zaF (extC 0 nm) k (by rw [SL.out];omega);rw [hl3] at o3;obtain ⟨A3,c3,rfl,hc3,-,-,-⟩:=o3.form;have O3:=zH (show At w3 w3.heap.size A3 (cel (pageB (extC 0 nm) k X)) from Own.at_ o3);have L3:=zH (show (cel (pageB (extC 0 nm) k X)).length=256*1 by rw [zaq,hl3]);have OO:=zH (HO.out.keep KW3.out);have kpn:=zH (show k<zak 12 n from (zaB (by decide)).2 (by omega));have FB:=zH (show fileB nm 0 ((zae 12 rs).take (k+1))=fileB nm 0 ((zae 12 rs).take k)++pageB (extC 0 nm) k X by
       have hk1:k<(zae 12 rs).length:=by rw [PL.out];exact kpn.out
       have hg:(zae 12 rs)[k]=X:=by
        have:=zbk (per:=12) (k:=k) (rs:=rs) (by rw [RL.out];exact kpn.out);rw [zG9 hk1] at this;rw [Option.some.inj this,←SP.out]
       rw [List.take_succ_eq_append_getElem hk1,zif,hg,List.length_take,Nat.min_eq_left (Nat.le_of_lt hk1)];rfl)
      have HMX:=zH (show 256*k+256≤maxLen by unfold maxLen;omega);have HMB:=zH (show (256*k+256)*1≤140737488355328 by omega);clear o3 hl3 hc3 k3;go_wp2_with (at_builtin;refine zaj _ rfl _ _ 39 rfl w.heap.size 5 i0 (.int .u8 0) 1 1 Tryz.underlying39 hi hz0 hz1 hz2 rfl (by decide) _ (256*k) _ rfl OO.out _ A3 256 c3 _ rfl L3.out O3.out (za3 _) HMX.out HMB.out (zK HK.out KW3.out).size ?_)
      intro v5 w5 o5 g5 b5;have k5:Keeps w w5:=Below.grown (zK HK.out KW3.out) g5 (zK HK.out KW3.out).size (fun g hg=>(OO.out.lt g hg).1);rw [←zax,←FB.out,show 256*k+256=256*(k+1) by omega] at o5;clear g5 b5;go_wp2_with fail
      refine ⟨⟨k+1,kpn.out,by omega,by go_num,o5,k5⟩,?_⟩;simp [intOf];omega
  ·have hlt':decide ((12:Int)*(k:Int)<(n:Int))=false:=decide_eq_false (by omega);have hk2:k=zak 12 n:=by
    have h5:¬ k<zak 12 n:=(fun h=>hlt (by have:=(zaB (n:=n) (by decide)).1 h;omega));have:=HKP.out;omega
   have hall:(zae 12 rs).take k=zae 12 rs:=List.take_of_length_le (by rw [PL.out,hk2];exact Nat.le_refl _);have hlen:(fileB nm 0 (zae 12 rs)).length=256*k:=by
    rw [zcr nm 0 _ (fun x hx=>?_),PL.out,←hk2];obtain ⟨i,hi,rfl⟩:=List.mem_map.1 hx;have:=zcc (per:=12) R20.out i;rw [this];omega
   have FIN:=zH (show Own wr w.heap.size 5 1 (.slice Ao (256*k) co) (fileB nm 0 (zae 12 rs)).length (cel (fileB nm 0 (zae 12 rs))) by rw [hlen,←hall];exact HO.out);clear hk2 hall hlen hlt;go_wp2;go_ret;exact ⟨_,rfl,FIN.out,HK.out⟩
end Go.Proofs.YtjpldnjldindkaaGreatDoor
