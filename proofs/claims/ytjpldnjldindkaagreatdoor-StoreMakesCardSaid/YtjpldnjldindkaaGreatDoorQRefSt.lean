/- The reference's store: Out, In, Records of vertices, and Bytes of records of 12 bytes. (Written by mkrefst.py.) -/
import Derived.Test.YtjpldnjldindkaaGreatDoorQRefExt
import Derived.Test.YtjpldnjldindkaaGreatDoorQOpenNet
set_option linter.all false
set_option maxHeartbeats 0
set_option maxRecDepth 100000
namespace Go.Proofs.YtjpldnjldindkaaGreatDoor
open Go.RowKit
theorem zka (a:List Ed) (x:Ed):edsC (a++[x])=edsC a++edC x:=by
 unfold edsC;rw [List.flatMap_append];simp
theorem ziC {hd:Bool} {v:Nat} {a:List Ed} {j:Nat} {x:Ed} (hx:a[j]? = some x) (h:endE hd x≠v):outE hd v (a.take (j+1))=outE hd v (a.take j):=by
 obtain ⟨hj,hx⟩:=zI9.1 hx;rw [List.take_succ_eq_append_getElem hj,hx];unfold outE;rw [List.filter_append];simp [h]
theorem zmC (A:Option Addr) (n c:Nat) (l:List Ed) (Av:Option Addr) (nv cv v:Nat) (hv:v<4294967296) (w:World) (hB:At w w.heap.size A (edsC l)) (hok:∀ e∈l,EdOk e) (hnl:n=l.length) (hn:n≤1000000) :
 Calls Tryz.prog 19 #[.agg #[.slice A n c, .slice Av nv cv], .int .u32 (v:Int)] w (NewE w (outE false v l)):=by
 obtain ⟨i0,hi,hz0,hz1,hz2⟩:=info_parts zdL;have KB:=zH (zA w (.cells #[.slice A n c, .slice Av nv cv] 34));have BX:=zH (Box.new w 34 #[.slice A n c, .slice Av nv cv]);have HB:=zH hB;have HOK:=zH hok;have HNL:=zH hnl;have hni:(n:Int)≤1000000:=by omega
 have hv1:(v:Int)<4294967296:=by omega
 have hv0:(0:Int)≤(v:Int):=by omega
 clear hB hok hnl;go_enter Tryz.func19,Tryz.ntmps19;go_wp2;go_loopw [5,6] (fun u i wr=>∃ k:Nat,k≤n∧i = .int .i64 k∧Own wr (w.alloc (.cells #[.slice A n c, .slice Av nv cv] 34)).heap.size 64 4 u (outE false v (l.take k)).length (edsC (outE false v (l.take k)))∧Keeps (w.alloc (.cells #[.slice A n c, .slice Av nv cv] 34)) wr) (fun _ i _=>n-(intOf i).toNat)
 case atStart=>exact ⟨0,Nat.zero_le _,rfl,Own.nil _ _ _ _,zab _⟩
 case round=>
  obtain ⟨k,hk,rfl,hO,hkp⟩:=hrel;have HO:=zH hO;have HK:=zH hkp;obtain ⟨Ao,co,rfl,hco,-,-,-⟩:=hO.form;clear hO hkp;by_cases hlt:k<n
  ·obtain ⟨x,hx⟩:∃ x,l[k]? = some x:=(⟨_,zG9 (by have:=HNL.out;omega)⟩);have c0:wr.cell? ⟨w.heap.size,0,none⟩=some (.slice A n c):=(BX.out.keep HK.out).cell 0 rfl;obtain ⟨ad,hA,_,hE⟩:=zbJ (HB.out.keep KB.out) hx;rw [hA] at c0;clear hA;obtain ⟨a0,a1,a2,a3⟩:=hE.keep HK.out;have okx:=HOK.out _ (List.mem_of_getElem? hx);have b1:=okx.t;have b2:=okx.h;have HX:=zH hx;have hkn:(k:Int)<(n:Int):=by omega
   have ML:=zH (show (outE false v (l.take k)).length≤k by have:=zcM false v (l.take k);rw [List.length_take] at this;omega);have x1:((x.t:Nat):Int)<4294967296:=(by omega);have x0:(0:Int)≤((x.t:Nat):Int):=by omega
   clear hE okx hx b1 b2;by_cases he:x.t=v
   ·have ON:=zH (zdH (hd:=false) (v:=v) HX.out he);have AT:=zH (show ∀ W:World,At (W.alloc (.cells #[.int .u32 (x.t:Int), .int .u32 (x.h:Int), .int .u64 (x.x:Int), .int .u32 (x.m:Int)] 64)) (W.alloc (.cells #[.int .u32 (x.t:Int), .int .u32 (x.h:Int), .int .u64 (x.x:Int), .int .u32 (x.m:Int)] 64)).heap.size (some ⟨W.heap.size,0,none⟩) (edC x) from fun W=>At.new _ _ _ _ (by simp));obtain ⟨z0,z1,z2,z3⟩:=(EdBox.new wr 64 x).cells;have e1:(((x.t:Nat):Int) == (v:Int))=true:=by rw [he];simp
    clear he;have mli:((outE false v (l.take k)).length:Int)≤1000000:=by have:=ML.out;omega
    have ML':=ML.out;obtain ⟨ml,hML⟩:∃ ml,(outE false v (l.take k)).length=ml:=(⟨_,rfl⟩);rw [hML] at HO mli ML' hco ⊢;have HML:=zH hML;clear hML;go_wp2_with (at_builtin;refine zaj _ rfl _ _ 22 rfl (w.alloc (.cells #[.slice A n c, .slice Av nv cv] 34)).heap.size 64 i0 (.agg #[.int .u32 0, .int .u32 0, .int .u64 0, .int .u32 0]) 4 24 Tryz.underlying22 hi hz0 hz1 hz2 rfl (by decide) _ ml (edsC (outE false v (l.take k))) rfl ((HO.out).keep (zA _ _)) _ _ 1 1 (edC x) rfl rfl (AT.out _) (by intro u hu;exact zce [x] u (by simpa [edsC] using hu)) (by unfold maxLen;omega) (by omega) (zK HK.out (zA _ _)).size ?_)
    intro v8 w8 o8 g8 b8;have kA:=zK HK.out (zA wr (.cells #[.int .u32 (x.t:Int), .int .u32 (x.h:Int), .int .u64 (x.x:Int), .int .u32 (x.m:Int)] 64));have k8:Keeps (w.alloc (.cells #[.slice A n c, .slice Av nv cv] 34)) w8:=Below.grown kA g8 kA.size (fun g hg=>(HO.out.lt g hg).1);have O8:=zH (show Own w8 (w.alloc (.cells #[.slice A n c, .slice Av nv cv] 34)).heap.size 64 4 v8 (outE false v (l.take (k+1))).length (edsC (outE false v (l.take (k+1)))) by
     rw [ON.out,zka,List.length_append,HML.out,World.size_alloc];exact o8)
    clear o8 g8 b8 z0 z1 z2 z3;go_wp2_with fail
    refine ⟨⟨k+1,by omega,by go_num,O8.out,k8⟩,?_⟩;simp [intOf];omega
   ·have ON:=zH (show outE false v (l.take (k+1))=outE false v (l.take k) from ziC HX.out he);have e1:(((x.t:Nat):Int) == (v:Int))=false:=by rw [beq_eq_false_iff_ne];omega
    go_wp2_with fail
    refine ⟨⟨k+1,by omega,by go_num,by rw [ON.out];exact HO.out,HK.out⟩,?_⟩;simp [intOf];omega
  ·obtain rfl:k=n:=(by omega);have c0:wr.cell? ⟨w.heap.size,0,none⟩=some (.slice A k c):=(BX.out.keep HK.out).cell 0 rfl;have E1:=zH (show l.take k=l by rw [HNL.out,List.take_length]);rw [E1.out] at HO hco ⊢;go_wp2;go_ret;exact ⟨_,rfl,HO.out.base_le KB.out.size,zK KB.out HK.out⟩
theorem zoF (A:Option Addr) (n c:Nat) (l:List Ed) (Av:Option Addr) (nv cv v:Nat) (hv:v<4294967296) (w:World) (hB:At w w.heap.size A (edsC l)) (hok:∀ e∈l,EdOk e) (hnl:n=l.length) (hn:n≤1000000) :
 Calls Tryz.prog 20 #[.agg #[.slice A n c, .slice Av nv cv], .int .u32 (v:Int)] w (NewE w (outE true v l)):=by
 obtain ⟨i0,hi,hz0,hz1,hz2⟩:=info_parts zdL;have KB:=zH (zA w (.cells #[.slice A n c, .slice Av nv cv] 34));have BX:=zH (Box.new w 34 #[.slice A n c, .slice Av nv cv]);have HB:=zH hB;have HOK:=zH hok;have HNL:=zH hnl;have hni:(n:Int)≤1000000:=by omega
 have hv1:(v:Int)<4294967296:=by omega
 have hv0:(0:Int)≤(v:Int):=by omega
 clear hB hok hnl;go_enter Tryz.func20,Tryz.ntmps20;go_wp2;go_loopw [5,6] (fun u i wr=>∃ k:Nat,k≤n∧i = .int .i64 k∧Own wr (w.alloc (.cells #[.slice A n c, .slice Av nv cv] 34)).heap.size 64 4 u (outE true v (l.take k)).length (edsC (outE true v (l.take k)))∧Keeps (w.alloc (.cells #[.slice A n c, .slice Av nv cv] 34)) wr) (fun _ i _=>n-(intOf i).toNat)
 case atStart=>exact ⟨0,Nat.zero_le _,rfl,Own.nil _ _ _ _,zab _⟩
 case round=>
  obtain ⟨k,hk,rfl,hO,hkp⟩:=hrel;have HO:=zH hO;have HK:=zH hkp;obtain ⟨Ao,co,rfl,hco,-,-,-⟩:=hO.form;clear hO hkp;by_cases hlt:k<n
  ·obtain ⟨x,hx⟩:∃ x,l[k]? = some x:=(⟨_,zG9 (by have:=HNL.out;omega)⟩);have c0:wr.cell? ⟨w.heap.size,0,none⟩=some (.slice A n c):=(BX.out.keep HK.out).cell 0 rfl;obtain ⟨ad,hA,_,hE⟩:=zbJ (HB.out.keep KB.out) hx;rw [hA] at c0;clear hA;obtain ⟨a0,a1,a2,a3⟩:=hE.keep HK.out;have okx:=HOK.out _ (List.mem_of_getElem? hx);have b1:=okx.t;have b2:=okx.h;have HX:=zH hx;have hkn:(k:Int)<(n:Int):=by omega
   have ML:=zH (show (outE true v (l.take k)).length≤k by have:=zcM true v (l.take k);rw [List.length_take] at this;omega);have x1:((x.h:Nat):Int)<4294967296:=(by omega);have x0:(0:Int)≤((x.h:Nat):Int):=by omega
   clear hE okx hx b1 b2;by_cases he:x.h=v
   ·have ON:=zH (zdH (hd:=true) (v:=v) HX.out he);have AT:=zH (show ∀ W:World,At (W.alloc (.cells #[.int .u32 (x.t:Int), .int .u32 (x.h:Int), .int .u64 (x.x:Int), .int .u32 (x.m:Int)] 64)) (W.alloc (.cells #[.int .u32 (x.t:Int), .int .u32 (x.h:Int), .int .u64 (x.x:Int), .int .u32 (x.m:Int)] 64)).heap.size (some ⟨W.heap.size,0,none⟩) (edC x) from fun W=>At.new _ _ _ _ (by simp));obtain ⟨z0,z1,z2,z3⟩:=(EdBox.new wr 64 x).cells;have e1:(((x.h:Nat):Int) == (v:Int))=true:=by rw [he];simp
    clear he;have mli:((outE true v (l.take k)).length:Int)≤1000000:=by have:=ML.out;omega
    have ML':=ML.out;obtain ⟨ml,hML⟩:∃ ml,(outE true v (l.take k)).length=ml:=(⟨_,rfl⟩);rw [hML] at HO mli ML' hco ⊢;have HML:=zH hML;clear hML;go_wp2_with (at_builtin;refine zaj _ rfl _ _ 22 rfl (w.alloc (.cells #[.slice A n c, .slice Av nv cv] 34)).heap.size 64 i0 (.agg #[.int .u32 0, .int .u32 0, .int .u64 0, .int .u32 0]) 4 24 Tryz.underlying22 hi hz0 hz1 hz2 rfl (by decide) _ ml (edsC (outE true v (l.take k))) rfl ((HO.out).keep (zA _ _)) _ _ 1 1 (edC x) rfl rfl (AT.out _) (by intro u hu;exact zce [x] u (by simpa [edsC] using hu)) (by unfold maxLen;omega) (by omega) (zK HK.out (zA _ _)).size ?_)
    intro v8 w8 o8 g8 b8;have kA:=zK HK.out (zA wr (.cells #[.int .u32 (x.t:Int), .int .u32 (x.h:Int), .int .u64 (x.x:Int), .int .u32 (x.m:Int)] 64));have k8:Keeps (w.alloc (.cells #[.slice A n c, .slice Av nv cv] 34)) w8:=Below.grown kA g8 kA.size (fun g hg=>(HO.out.lt g hg).1);have O8:=zH (show Own w8 (w.alloc (.cells #[.slice A n c, .slice Av nv cv] 34)).heap.size 64 4 v8 (outE true v (l.take (k+1))).length (edsC (outE true v (l.take (k+1)))) by
     rw [ON.out,zka,List.length_append,HML.out,World.size_alloc];exact o8)
    clear o8 g8 b8 z0 z1 z2 z3;go_wp2_with fail
    refine ⟨⟨k+1,by omega,by go_num,O8.out,k8⟩,?_⟩;simp [intOf];omega
   ·have ON:=zH (show outE true v (l.take (k+1))=outE true v (l.take k) from ziC HX.out he);have e1:(((x.h:Nat):Int) == (v:Int))=false:=by rw [beq_eq_false_iff_ne];omega
    go_wp2_with fail
    refine ⟨⟨k+1,by omega,by go_num,by rw [ON.out];exact HO.out,HK.out⟩,?_⟩;simp [intOf];omega
  ·obtain rfl:k=n:=(by omega);have c0:wr.cell? ⟨w.heap.size,0,none⟩=some (.slice A k c):=(BX.out.keep HK.out).cell 0 rfl;have E1:=zH (show l.take k=l by rw [HNL.out,List.take_length]);rw [E1.out] at HO hco ⊢;go_wp2;go_ret;exact ⟨_,rfl,HO.out.base_le KB.out.size,zK KB.out HK.out⟩
theorem zhc (A:Option Addr) (n c:Nat) (es:List Vt) (w:World) (hB:At w w.heap.size A (vtsC es)) (hok:∀ e∈es,VtOk e) (hnl:n=es.length) (hn:n≤1000000) :
 Calls Tryz.prog 31 #[.slice A n c] w fun e w'=>∃ v l,e = .returned v∧RzsAt w' w.heap.size v l∧l.map (·.b)=es.map vtB∧Keeps w w':=by
 obtain ⟨i0,hi,hz0,hz1,hz2⟩:=info_parts zli;have HB:=zH hB;have HOK:=zH hok;have HNL:=zH hnl;have hni:(n:Int)≤1000000:=by omega
 clear hB hok hnl;go_enter Tryz.func31,Tryz.ntmps31;go_wp2;go_loopw [3,4] (fun v i wr=>∃ (k:Nat) (l:List Rz),k≤n∧i = .int .i64 k∧l.length=k∧RzsAt wr w.heap.size v l∧l.map (·.b)=(es.take k).map vtB∧Keeps w wr) (fun _ i _=>n-(intOf i).toNat)
 case atStart=>exact ⟨0,[],Nat.zero_le _,rfl,rfl,⟨Own.nil _ _ _ _,fun x hx=>by simp at hx⟩,by simp,zab _⟩
 case round=>
  obtain ⟨k,l,hk,rfl,hl,hO,hm,hkp⟩:=hrel;have HL:=zH hl;have HO:=zH hO;have HM:=zH hm;obtain ⟨Av,cv,rfl,hcv,-,-,-⟩:=hO.row.form;have HOR:=zH (show Own wr w.heap.size 39 1 (.slice Av k cv) k (l.map rzV) by have:=hO.row;rw [hl] at this;exact this);rw [hl] at hcv HO ⊢;clear hO hm hl;by_cases hlt:k<n
  ·obtain ⟨x,hx⟩:∃ x,es[k]? = some x:=(⟨_,zG9 (by have:=HNL.out;omega)⟩);obtain ⟨ad,rfl,_,hE⟩:=zjL HB.out hx;obtain ⟨a0,a1,a2⟩:=hE.keep hkp;have okx:=HOK.out _ (List.mem_of_getElem? hx);have RE:=zH (zki x.r x.l x.g okx.r okx.l okx.g wr);have ET:=zH (show (es.take (k+1)).map vtB=(es.take k).map vtB++[vtB x] by
    rw [List.take_succ_eq_append_getElem (by have:=HNL.out;omega)];rw [zG9 (by have:=HNL.out;omega)] at hx;rw [Option.some.inj hx,List.map_append];rfl)
   have hkn:(k:Int)<(n:Int):=(by omega);have HKP:=zH hkp;clear hx hE okx hkp;go_wp2_with fail
   refine RE.out.mono ?_;rintro e w2 ⟨v2,rfl,o2,k2⟩;obtain ⟨A2,c2,rfl,hc2,-,-,-⟩:=o2.form;have O2:=zH (show RzOk w2 w.heap.size ⟨A2,c2,vtB x⟩ from o2.base_le HKP.out.size);have K2:=zH k2;have el:(vertB x.r x.l x.g).length=12:=zcN x;rw [el];clear o2 k2 hc2 a0 a1 a2 el;go_wp2_with (at_builtin;refine zaj _ rfl _ _ 78 rfl w.heap.size 39 i0 (.slice none 0 0) 1 24 Tryz.underlying78 hi hz0 hz1 hz2 rfl (by decide) _ k (l.map rzV) rfl ((HOR.out.keep K2.out).keep (zA _ _)) _ _ 1 1 [rzV ⟨A2,c2,vtB x⟩] rfl rfl (by simp only [rzV,zcN];exact At.new _ _ _ _ (Nat.lt_succ_self _)) (by intro u hu;rw [List.mem_singleton] at hu;rw [hu];rfl) (by unfold maxLen;omega) (by omega) (zK (zK HKP.out K2.out) (zA _ _)).size ?_)
   intro v5 w5 o5 g5 b5;have kA:=zK (zK HKP.out K2.out) (zA w2 (.cells #[.slice A2 12 c2] 39));have k5:Keeps w w5:=Below.grown kA g5 kA.size (fun g hg=>(HO.out.row.lt g hg).1);have e5:l.map rzV++[rzV ⟨A2,c2,vtB x⟩]=(l++[(⟨A2,c2,vtB x⟩:Rz)]).map rzV:=by rw [List.map_append];rfl
   rw [e5] at o5;have hlen:(l++[(⟨A2,c2,vtB x⟩:Rz)]).length=k+1:=by rw [List.length_append,HL.out];rfl
   have R5:=zH (show RzsAt w5 w.heap.size v5 (l++[⟨A2,c2,vtB x⟩]) from ⟨by rw [hlen];exact o5,fun y hy=>by
    have old:∀ y,RzOk w2 w.heap.size y→RzOk w5 w.heap.size y:=fun y hy=>by
     have hy2:RzOk (w2.alloc (.cells #[.slice A2 12 c2] 39)) w.heap.size y:=Own.keep hy (zA _ _);refine Own.same hy2 (fun g hg=>g5.block g (Own.lt hy2 g hg).2 (fun e=>?_));rcases Own.apart hy2 (HO.out.row.keep (zK K2.out (zA w2 (.cells #[.slice A2 12 c2] 39)))) zoD with h|h
     ·rw [h] at hg;cases hg
     ·exact h (by rw [hg,←e])
    rcases List.mem_append.1 hy with hy|hy
    ·exact old y (Own.keep (HO.out.each y hy) K2.out)
    ·rw [List.mem_singleton] at hy;rw [hy];exact old _ O2.out⟩)
   clear o5 g5 b5 kA e5;go_wp2_with fail
   refine ⟨⟨k+1,l++[⟨A2,c2,vtB x⟩],by omega,by go_num,hlen,R5.out,by rw [List.map_append,HM.out,ET.out];rfl,k5⟩,?_⟩;simp [intOf];omega
  ·obtain rfl:k=n:=(by omega);go_wp2;go_ret;refine ⟨_,l,rfl,HO.out,?_,hkp⟩;rw [HM.out,HNL.out,List.take_length]
theorem zqz {rs:List (List UInt8)} (hr:∀ r∈rs,r.length=12) {a j:Nat} (h:a≤j) (hj:j≤rs.length):(segB rs a j).length=12*(j-a):=by
 unfold segB;have:∀ l:List (List UInt8),(∀ r∈l,r.length=12)→l.flatten.length=12*l.length:=fun l=>by
  induction l with
  | nil=>intro _;rfl
  | cons x l ih=>
   intro h;rw [List.flatten_cons,List.length_append,h x List.mem_cons_self,ih (fun r hr=>h r (List.mem_cons_of_mem _ hr)),List.length_cons];omega
 rw [this _ (fun r h5=>hr r (List.mem_of_mem_drop (List.mem_of_mem_take h5))),List.length_take,List.length_drop];omega
theorem zoG {rs:List (List UInt8)} {k j:Nat} (h:20*k≤j) (hj:j=rs.length∧j≤20*(k+1)∨j=20*(k+1)):segB rs (20*k) j=(zay 20 rs k).flatten:=by
 unfold segB zay;rw [show k*20=20*k by omega];rcases hj with ⟨h1,h2⟩|h1
 ·rw [List.take_of_length_le (by rw [List.length_drop];omega),List.take_of_length_le (by rw [List.length_drop];omega)]
 ·rw [show j-20*k=20 by omega]
theorem ziN (nm:List UInt8) (hnm:nm.length≤1000000) (Av:Option Addr) (cv base:Nat) (l:List Rz) (w:World) (h:RzsAt w base (.slice Av l.length cv) l) (hn:l.length≤100000) (hl:∀ x∈l,x.b.length=12) :
 Calls Tryz.prog 29 #[.string (str nm), .slice Av l.length cv, .int .i64 20] w (New w (fileB nm 0 (zae 20 (l.map (·.b))))):=by
 obtain ⟨i0,hi,hz0,hz1,hz2⟩:=info_parts zbB;obtain ⟨n,hnn⟩:∃ n,n=l.length:=⟨_,rfl⟩
 have HNN:=zH hnn;have H:=zH h;have HL:=zH hl;have hni:(n:Int)≤100000:=by omega
 obtain ⟨rs,hrs⟩:∃ rs,rs=l.map (·.b):=⟨_,rfl⟩
 have HRS:=zH hrs;have RL:=zH (show rs.length=n by rw [hrs,List.length_map,hnn]);have R20:=zH (show ∀ r∈rs,r.length=12 from fun r hr=>by
  rw [hrs] at hr;obtain ⟨x,hx,rfl⟩:=List.mem_map.1 hr;exact hl x hx)
 have PL:=zH (show (zae 20 rs).length=zak 20 n by rw [zaC,RL.out]);have TG:=zH (fun W=>zgI nm W hnm);rw [←hnn,←hrs];clear h hl hrs hn hnn;generalize str nm=sn at *;go_enter Tryz.func29,Tryz.ntmps29;go_wp2;go_loopw [7,8] (fun v i wr=>∃ k:Nat,k≤zak 20 n∧k≤n∧i = .int .i64 k∧Own wr w.heap.size 5 1 v (256*k) (cel (fileB nm 0 ((zae 20 rs).take k)))∧Keeps w wr) (fun _ i _=>n-(intOf i).toNat)
 case atStart=>exact ⟨0,Nat.zero_le _,Nat.zero_le _,rfl,Own.nil _ _ _ _,zab _⟩
 case round=>
  obtain ⟨k,hkp,hkn,rfl,hO,hks⟩:=hrel;have HO:=zH hO;have HK:=zH hks;have HKP:=zH hkp;obtain ⟨Ao,co,rfl,hco,-,-,-⟩:=hO.form;clear hO hks hkp;by_cases hlt:20*k<n
  ·have hlt':(20:Int)*(k:Int)<(n:Int):=(by omega);have hki:(k:Int)≤(n:Int):=by omega
   go_wp2_with fail
   rename World=>wo
   go_loopw [9,10] (fun v i wi=>∃ j:Nat,20*k≤j∧j≤n∧j≤20*(k+1)∧i = .int .i64 j∧Own wi wo.heap.size 5 1 v (12*(j-20*k)) (cel (segB rs (20*k) j))∧Keeps wo wi) (fun _ i _=>n-(intOf i).toNat)
   case atStart=>exact ⟨20*k,Nat.le_refl _,by omega,by omega,by go_num,by rw [zhb,Nat.sub_self];exact Own.nil _ _ _ _,zab _⟩
   case round=>
    obtain ⟨j,hj1,hj2,hj3,rfl,hB,hkw⟩:=hrel;have HBB:=zH hB;have HKW:=zH hkw;obtain ⟨Ab,cb,rfl,hcb,-,-,-⟩:=hB.form;clear hB hkw;have hji:(j:Int)≤(n:Int):=by omega
    by_cases hjn:j<n∧j<20*(k+1)
    ·obtain ⟨hja,hjb⟩:=hjn;obtain ⟨x,hx⟩:∃ x,l[j]? = some x:=(⟨_,zG9 (by have:=HNN.out;omega)⟩);have hrow:=(H.out.row.keep HK.out).keep HKW.out;obtain ⟨g,rfl,hc,-,-⟩:=hrow.cell (j:=j) (by rw [List.length_map,←HNN.out];exact hja);rw [List.getElem?_map,hx] at hc;replace hc:(wr.cell? ⟨g,j,none⟩)=some (.slice x.A x.b.length x.c):=hc;have EX:=zH ((Own.keep (H.out.each x (List.mem_of_getElem? hx)) HK.out).keep HKW.out);have x20:=HL.out x (List.mem_of_getElem? hx);have SN:=zH (ziB (rs:=rs) (a:=20*k) (j:=j) (x:=x.b) hj1 (by rw [HRS.out,List.getElem?_map,hx];rfl));have XA:=zH (show At wr wr.heap.size x.A (cel x.b) from Own.at_ EX.out);have XL:=zH (show (cel x.b).length=12*1 by rw [zaq,x20]);rw [x20] at hc;have HMX:=zH (show 12*(j-20*k)+12≤maxLen by unfold maxLen;omega);have HMB:=zH (show (12*(j-20*k)+12)*1≤140737488355328 by omega);have h1:(j:Int)<(n:Int):=by omega
     have h2:(j:Int)<20*((k:Int)+1):=(by omega);have h0:(0:Int)≤(j:Int):=by omega
     clear hrow hx x20;go_wp2_with (at_builtin;refine zaj _ rfl _ _ 39 rfl wo.heap.size 5 i0 (.int .u8 0) 1 1 Tryz.underlying39 hi hz0 hz1 hz2 rfl (by decide) _ (12*(j-20*k)) _ rfl HBB.out _ x.A 12 x.c (cel x.b) rfl XL.out XA.out (za3 _) HMX.out HMB.out HKW.out.size ?_)
     intro v5 w5 o5 g5 b5;have k5:Keeps wo w5:=Below.grown HKW.out g5 HKW.out.size (fun g hg=>(HBB.out.lt g hg).1);rw [←zax,←SN.out,show 12*(j-20*k)+12=12*(j+1-20*k) by omega] at o5;clear g5 b5;go_wp2;go_roundw
     case rel=>exact ⟨j+1,by omega,by omega,by omega,by go_num,o5,k5⟩
     case measure=>simp [intOf];omega
    ·have hend:j=n∧j≤20*(k+1)∨j=20*(k+1):=(by omega);have SP:=zH (zoG (rs:=rs) (k:=k) (j:=j) hj1 (by rw [RL.out];exact hend));have SL:=zH (zqz R20.out (a:=20*k) (j:=j) hj1 (by rw [RL.out];exact hj2));obtain ⟨X,hX⟩:∃ X,X=segB rs (20*k) j:=⟨_,rfl⟩
     obtain ⟨m,hm⟩:∃ m,m=12*(j-20*k):=(⟨_,rfl⟩);have hm240:m≤240:=by omega
     have HBX:=zH (show Own wr wo.heap.size 5 1 (.slice Ab m cb) m (cel X) by rw [hm,hX];exact HBB.out);rw [←hX] at SP SL;rw [←hm] at SL hcb ⊢;have BX:=zH (show Bs wr Ab X from Own.at_ HBX.out);have ways:(decide ((j:Int)<(n:Int))=false∧decide (j<n)=false)∨((j:Int)<(n:Int)∧decide ((j:Int)<20*((k:Int)+1))=false):=by
      rcases hend with ⟨h,-⟩|h
      ·exact .inl ⟨decide_eq_false (by omega),decide_eq_false (by omega)⟩
      ·by_cases h5:j<n
       ·exact .inr ⟨by omega,decide_eq_false (by omega)⟩
       ·exact .inl ⟨decide_eq_false (by omega),decide_eq_false (by omega)⟩
     have MK:=zH (fun (W:World) (hK:Keeps wr W)=>zfL (extC 0 nm) k (zcA (by decide) _) (by omega) Ab m cb X W (BX.out.keep hK) SL.out.symm (by rw [SL.out];omega));clear hjn hX hm;rcases ways with ⟨w1,w2⟩|⟨w1,w2⟩
     all_goals
      go_wp2_with fail
      refine (TG.out _).mono ?_;rintro e w2 ⟨rfl,k2⟩;have K2:=zH k2;have MK2:=zH (MK.out w2 k2);clear k2;go_wp2_with fail
      refine MK2.out.mono ?_;rintro e w3 ⟨v3,rfl,o3,k3⟩;have KW3:=zH (zK HKW.out (zK K2.out k3));have hl3:(pageB (extC 0 nm) k X).length=256:=zaF (extC 0 nm) k (by rw [SL.out];omega);rw [hl3] at o3;obtain ⟨A3,c3,rfl,hc3,-,-,-⟩:=o3.form;have O3:=zH (show At w3 w3.heap.size A3 (cel (pageB (extC 0 nm) k X)) from Own.at_ o3);have L3:=zH (show (cel (pageB (extC 0 nm) k X)).length=256*1 by rw [zaq,hl3]);have OO:=zH (HO.out.keep KW3.out);have kpn:=zH (show k<zak 20 n from (zaB (by decide)).2 (by omega));have FB:=zH (show fileB nm 0 ((zae 20 rs).take (k+1))=fileB nm 0 ((zae 20 rs).take k)++pageB (extC 0 nm) k X by
       have hk1:k<(zae 20 rs).length:=by rw [PL.out];exact kpn.out
       have hg:(zae 20 rs)[k]=X:=by
        have:=zbk (per:=20) (k:=k) (rs:=rs) (by rw [RL.out];exact kpn.out);rw [zG9 hk1] at this;rw [Option.some.inj this,←SP.out]
       rw [List.take_succ_eq_append_getElem hk1,zif,hg,List.length_take,Nat.min_eq_left (Nat.le_of_lt hk1)];rfl)
      have HMX:=zH (show 256*k+256≤maxLen by unfold maxLen;omega);have HMB:=zH (show (256*k+256)*1≤140737488355328 by omega);clear o3 hl3 hc3 k3;go_wp2_with (at_builtin;refine zaj _ rfl _ _ 39 rfl w.heap.size 5 i0 (.int .u8 0) 1 1 Tryz.underlying39 hi hz0 hz1 hz2 rfl (by decide) _ (256*k) _ rfl OO.out _ A3 256 c3 _ rfl L3.out O3.out (za3 _) HMX.out HMB.out (zK HK.out KW3.out).size ?_)
      intro v5 w5 o5 g5 b5;have k5:Keeps w w5:=Below.grown (zK HK.out KW3.out) g5 (zK HK.out KW3.out).size (fun g hg=>(OO.out.lt g hg).1);rw [←zax,←FB.out,show 256*k+256=256*(k+1) by omega] at o5;clear g5 b5;go_wp2_with fail
      refine ⟨⟨k+1,kpn.out,by omega,by go_num,o5,k5⟩,?_⟩;simp [intOf];omega
  ·have hlt':decide ((20:Int)*(k:Int)<(n:Int))=false:=decide_eq_false (by omega);have hk2:k=zak 20 n:=by
    have h5:¬ k<zak 20 n:=(fun h=>hlt (by have:=(zaB (n:=n) (by decide)).1 h;omega));have:=HKP.out;omega
   have hall:(zae 20 rs).take k=zae 20 rs:=List.take_of_length_le (by rw [PL.out,hk2];exact Nat.le_refl _);have hlen:(fileB nm 0 (zae 20 rs)).length=256*k:=by
    rw [zcr nm 0 _ (fun x hx=>?_),PL.out,←hk2];obtain ⟨i,hi,rfl⟩:=List.mem_map.1 hx;have:=zcc (per:=20) R20.out i;rw [this];omega
   have FIN:=zH (show Own wr w.heap.size 5 1 (.slice Ao (256*k) co) (fileB nm 0 (zae 20 rs)).length (cel (fileB nm 0 (zae 20 rs))) by rw [hlen,←hall];exact HO.out);clear hk2 hall hlen hlt;go_wp2;go_ret;exact ⟨_,rfl,FIN.out,HK.out⟩
theorem zhF {m:Nat} (h:10≤m):Lib.decDigits m=Lib.decDigits (m/10)++[UInt8.ofNat (48+m%10)]:=by
 rw [Lib.decDigits];simp [show ¬ m<10 by omega]
theorem ziO {m:Nat} (h:m<10):Lib.decDigits m=[UInt8.ofNat (48+m)]:=by
 rw [Lib.decDigits];simp [h]
theorem zoH {d:Nat} (h:d<10):(⟨#[48,49,50,51,52,53,54,55,56,57]⟩:ByteArray).extract d (d+1)=str [UInt8.ofNat (48+d)]:=by
 rcases d with _|_|_|_|_|_|_|_|_|_|d
 iterate 10 kernel_rfl
 omega
theorem ziD {d:Nat} (h:d<10) (s:List UInt8) (hs:s.length≤1000) (W:World):(Op.stringOp .add ((⟨#[48,49,50,51,52,53,54,55,56,57]⟩:ByteArray).extract d (d+1)) (str s)).run Tryz.prog W = .ok (.string (str (UInt8.ofNat (48+d)::s))) W:=by
 rw [zoH h];have e2:=run_string_add_sum (P:=Tryz.prog) W (str [UInt8.ofNat (48+d)]) (str s) (by rw [zaJ,zaJ];simp;omega);rw [e2];have:str [UInt8.ofNat (48+d)]++str s=str (UInt8.ofNat (48+d)::s):=by
  apply ByteArray.ext;simp [str]
 rw [this]
theorem ziP (n:Nat) (hn:n≤1048576) (w:World) :
 Calls Tryz.prog 62 #[.int .i64 (n:Int)] w fun e w'=>e = .returned (.string (str (Lib.decDigits n)))∧w=w':=by
 have HN:=zH (zea 7 n (by omega)).2;go_enter Tryz.func62,Tryz.ntmps62;go_wp2;go_loopw [0,4] (fun i v wr=>∃ (m:Nat) (s:List UInt8),m≤n∧i = .int .i64 (m:Int)∧v = .string (str s)∧Lib.decDigits n=Lib.decDigits m++s∧w=wr) (fun i _ _=>(intOf i).toNat)
 case atStart=>exact ⟨n,[],Nat.le_refl _,rfl,rfl,by simp,rfl⟩
 case round=>
  obtain ⟨m,s,hm,rfl,rfl,hs,rfl⟩:=hrel;have HS:=zH hs;have HM:=zH hm;have HL:=zH (show s.length≤1000 by have:=HN.out;rw [hs,List.length_append] at this;omega);clear hs;have mi:(m:Int)≤1048576:=by omega
  have m0:(0:Int)≤(m:Int):=by omega
  by_cases hlt:10≤m
  ·obtain ⟨d,hd⟩:∃ d,d=m%10:=(⟨_,rfl⟩);have HD:=zH hd;have hd10:(d:Int)<10:=by omega
   have hd0:(0:Int)≤(d:Int):=(by omega);have ht:((m:Nat):Int).tmod 10=(d:Int):=by rw [Int.tmod_eq_emod_of_nonneg (by omega)];omega
   have hq:((m:Nat):Int).tdiv 10=((m/10:Nat):Int):=by rw [Int.tdiv_eq_ediv_of_nonneg (by omega)];omega
   have hl:(10:Int)≤(m:Int):=(by omega);have hadd:=fun W=>ziD (d:=d) (by omega) s HL.out W
   obtain ⟨s',hs'⟩:∃ s',UInt8.ofNat (48+d)::s=s':=(⟨_,rfl⟩);have HS':=zH hs';rw [hs'] at hadd;have HLT:=zH hlt;clear hd hs' hm hlt;go_wp2_with fail
   refine ⟨⟨m/10,s',by have:=HM.out;omega,by go_num,rfl,?_,trivial⟩,?_⟩
   ·rw [HS.out,zhF HLT.out,←HD.out,←HS'.out,List.append_assoc];rfl
   ·have:=HLT.out;simp [intOf];omega
  ·have hl:(m:Int)<10:=(by omega);have hadd:=fun W=>ziD (d:=m) (by omega) s HL.out W
   have E:=zH (show Lib.decDigits n=UInt8.ofNat (48+m)::s by rw [HS.out,ziO (by omega)];rfl);obtain ⟨s',hs'⟩:∃ s',UInt8.ofNat (48+m)::s=s':=(⟨_,rfl⟩);rw [hs'] at hadd E;clear hs' hm hlt;go_wp2;go_ret;exact ⟨by rw [E.out];rfl,rfl⟩
theorem zc5 (w:World) (k:UInt8) (kv:Int) (hk:kv=(k.toNat:Int)) (g:Nat) (hg:g≤1048576) :
 Calls Tryz.prog 28 #[.int .u8 kv, .int .i64 (g:Int)] w fun e w'=>e = .returned (.string (str (nmG k g)))∧Keeps w w':=by
 have IT:=zH (fun (W:World) (kk:Keeps w W)=>show Calls Tryz.prog 62 #[.int .i64 (g:Int)] W (fun e w'=>e = .returned (.string (str (Lib.decDigits g)))∧Keeps W w') from (ziP g hg W).mono fun e w' h=>⟨h.1,h.2▸zab _⟩);have h0:(0:Int)≤(g:Int):=by omega
 have hd:(Lib.decDigits g).length≤8:=(zea 7 g (by omega)).2;have ecat:(⟨#[k,46]⟩:ByteArray)++str (Lib.decDigits g)=str (nmG k g):=by
  apply ByteArray.ext;simp [str,nmG]
 have hadd:∀ W:World,(Op.stringOp .add ⟨#[k,46]⟩ (str (Lib.decDigits g))).run Tryz.prog W = .ok (.string (str (nmG k g))) W:=fun W=>by
  have e2:=run_string_add_sum (P:=Tryz.prog) W ⟨#[k,46]⟩ (str (Lib.decDigits g)) (by rw [zaJ];show 2+_≤_;omega);rw [ecat] at e2;exact e2
 have CV:=zH (show ∀ (W:World) (b:Nat),W.cell? ⟨b,0,none⟩=some (.int .u8 kv)→W.cell? ⟨b,1,none⟩=some (.int .u8 46)→b<W.heap.size→(convert 39 9 (.slice (some ⟨b,0,none⟩) 2 2)).run Tryz.prog W = .ok (.string ⟨#[k,46]⟩) W from fun W b c0 c1 hb=>
  zhd W 39 5 9 Tryz.underlying39 Tryz.underlying5 Tryz.underlying9 (some ⟨b,0,none⟩) [k,46] 2 2 rfl (.inr ⟨_,rfl,hb,fun j u hu=>by
   rcases j with _|_|j
   ·simp only [cel,List.map_cons,List.getElem?_cons_zero,Option.some.injEq] at hu;rw [←hu,←hk];exact c0
   ·simp only [cel,List.map_cons,List.map_nil,List.getElem?_cons_succ,List.getElem?_cons_zero,Option.some.injEq] at hu;rw [←hu];exact c1
   ·simp [cel] at hu⟩))
 have nw:∀ W:World,(W.alloc (.cells #[.int .u8 kv, .int .u8 46] 5)).cell? ⟨W.heap.size,0,none⟩=some (.int .u8 kv)∧(W.alloc (.cells #[.int .u8 kv, .int .u8 46] 5)).cell? ⟨W.heap.size,1,none⟩=some (.int .u8 46):=fun W=>⟨cell_of_row _ _ 0 _ _ _ (heap_alloc_new W _),cell_of_row _ _ 1 _ _ _ (heap_alloc_new W _)⟩
 have NW:=zH nw;clear ecat hd hk nw hg;generalize hdg:str (Lib.decDigits g)=dg at *;generalize hng:str (nmG k g)=ng at *;clear hdg hng;have c1:=CV.out ((w.alloc (.cells #[.int .u8 kv, .int .u8 46] 5)).drew) w.heap.size ((zD _).cellOf (NW.out _).1) ((zD _).cellOf (NW.out _).2) (Nat.lt_of_lt_of_le (by simp) (zD _).size);go_enter Tryz.func28,Tryz.ntmps28;go_wp2_with fail
 go_region_with (first
  | (go_at_call 62;refine (IT.out _ (zD _)).mono ?_;rintro ee w2 ⟨rfl,k2⟩;have c2:=CV.out (w2.alloc (.cells #[.int .u8 kv, .int .u8 46] 5)) w2.heap.size (NW.out _).1 (NW.out _).2 (by simp))
  | (go_at_call 62;refine (IT.out _ (zK (zA _ _) (zD _))).mono ?_;rintro ee w2 ⟨rfl,k2⟩;have c2:=CV.out w2 w.heap.size ((zK (zD _) k2).cellOf (NW.out _).1) ((zK (zD _) k2).cellOf (NW.out _).2) (Nat.lt_of_lt_of_le (Nat.lt_of_lt_of_le (by simp) (zD _).size) k2.size)))
 all_goals
  go_wp2;go_ret;first
   | exact ⟨rfl,zK (zD _) (zK k2 (zA _ _))⟩
   | exact ⟨rfl,zK (zK (zA _ _) (zD _)) k2⟩
theorem zfR {w w1:World} (k:Keeps w w1) (b i:Nat) (u:Value) (hb:w.heap.size≤b):Keeps w (w1.setCell ⟨b,i,none⟩ u):=
 Below.trans k ⟨rfl,rfl,rfl,by simp [World.setCell],fun j hj=>Below.heap_setCell _ _ _ _ (by simp only;omega)⟩
theorem zkP (A Av:Option Addr) (n c nv cv:Nat) (l:List Ed) (vs:List Vt) (w:World) (hB:At w w.heap.size A (edsC l)) (hok:∀ e∈l,EdOk e) (hnl:n=l.length) (hn:n≤1000000) (hV:At w w.heap.size Av (vtsC vs)) (hnv:nv=vs.length) (hn2:nv≤1000000) :
 Calls Tryz.prog 7 #[.slice A n c, .slice Av nv cv] w fun e w'=>∃ A1 c1 A2 c2 a,e = .returned (.agg #[.slice A1 a.length c1, .slice A2 nv c2])∧RedB false l a∧Own w' w.heap.size 64 4 (.slice A1 a.length c1) a.length (edsC a)∧Own w' w.heap.size 55 3 (.slice A2 nv c2) nv (vtsC vs)∧Keeps w w':=by
 obtain ⟨i0,hi,hz0,hz1,hz2⟩:=info_parts ziw;obtain ⟨wb,hwb⟩:∃ wb,wb=w.alloc (.cells #[.slice none 0 0, .slice none 0 0] 34):=⟨_,rfl⟩
 have HWB:=zH hwb;have KB:=zH (show Keeps w wb by rw [hwb];exact zA _ _);have BX:=zH (show Box wb w.heap.size 34 #[.slice none 0 0, .slice none 0 0] by rw [hwb];exact Box.new _ _ _);have RS:=zH (zc4 A n c l 0 wb ((hB.keep KB.out).more KB.out.size) hok hnl hn);have HV:=zH hV;have HNV:=zH hnv;have nvi:(nv:Int)≤1000000:=by omega
 clear hwb hB hok hnl hV hnv;go_enter Tryz.func7,Tryz.ntmps7;go_wp2_with fail
 rw [←HWB.out];refine RS.out.mono ?_;rintro e w2 ⟨a,hr,v,rfl,o2,k2⟩;obtain ⟨A2,c2,rfl,hc2,-,-,-⟩:=o2.form;have HR:=zH hr;have O2:=zH o2;have K2:=zH k2;obtain ⟨al,hal⟩:∃ al,a.length=al:=⟨_,rfl⟩
 rw [hal] at hc2 ⊢;have HAL:=zH hal;clear hal hr o2 k2;have KA:=zH (zA w2 (.cells #[] 55));have Oa:=zH (show Own (w2.alloc (.cells #[] 55)) w2.heap.size 55 3 (.slice (some ⟨w2.heap.size,0,none⟩) 0 0) 0 [] from zdW w2 55 3);have AV:=zH (show At (w2.alloc (.cells #[] 55)) (w2.alloc (.cells #[] 55)).heap.size Av (vtsC vs) from (HV.out.keep (zK KB.out (zK K2.out KA.out))).more (zK KB.out (zK K2.out KA.out)).size);have LEN:=zH (show (vtsC vs).length=nv*3 by rw [zjY,HNV.out]);go_wp2_with (at_builtin;refine zaj _ rfl _ _ 23 rfl w2.heap.size 55 i0 (.agg #[.int .u32 0, .int .u32 0, .int .u32 0]) 3 12 Tryz.underlying23 hi hz0 hz1 hz2 rfl (by decide) _ 0 [] rfl Oa.out _ Av nv cv (vtsC vs) rfl LEN.out AV.out (zfh vs) (by unfold maxLen;omega) (by omega) KA.out.size ?_)
 intro v5 w5 o5 g5 b5;have k5:Keeps w2 w5:=Below.grown KA.out g5 KA.out.size (fun g hg=>(Oa.out.lt g hg).1);have O5:=zH (show Own w5 w2.heap.size 55 3 v5 nv (vtsC vs) by simpa using o5);clear o5 g5 b5;obtain ⟨A5,c5,rfl,-,-,-,-⟩:=O5.out.form;have b5:=(BX.out.keep K2.out).keep k5;have c0:=b5.cell 0 rfl;have c1:=b5.cell 1 rfl;have f0:=b5.frozen 0;have f1:=(b5.set 0 (.slice A2 al c2)).frozen 1;have b7:=(b5.set 0 (.slice A2 al c2)).set 1 (.slice A5 nv c5);have e0:=b7.cell 0 rfl;have e1:=b7.cell 1 rfl;have K5:=zH k5;have B7:=zH b7;clear k5 b5 b7;go_wp2_with fail
 have kw:Keeps w w5:=zK KB.out (zK K2.out K5.out);have lt2:w.heap.size<wb.heap.size:=by rw [HWB.out];simp
 have lt3:wb.heap.size≤w2.heap.size:=K2.out.size;have F1:At w5 w5.heap.size A2 (edsC a):=(Own.at_ (O2.out.keep K5.out))
 refine bodyPost_ret (v:=.agg #[.slice A2 al c2, .slice A5 nv c5]) ?_ (by rfl) ?_
 ·exact results_cell_row (p:=4) (ty:=34) (by rfl) _ _ w.heap.size 34 #[.slice A2 al c2, .slice A5 nv c5] (0,0) _ (by rfl) B7.out Tryz.underlying34 rfl (by kernel_rfl)
 ·refine ⟨A2,c2,A5,c5,a,by rw [HAL.out],by have:=HR.out;simpa using this,?_,?_,zfR (zfR kw _ _ _ (Nat.le_refl _)) _ _ _ (Nat.le_refl _)⟩
  ·exact Own.base_le (Own.same (Own.same (O2.out.keep K5.out) (fun g hg=>Below.heap_setCell _ _ _ g (by have:=(O2.out.lt g hg).1;show g≠w.heap.size;omega))) (fun g hg=>Below.heap_setCell _ _ _ g (by have:=(O2.out.lt g hg).1;show g≠w.heap.size;omega))) (by omega)
  ·exact Own.base_le (Own.same (Own.same O5.out (fun g hg=>Below.heap_setCell _ _ _ g (by have:=(O5.out.lt g hg).1;show g≠w.heap.size;omega))) (fun g hg=>Below.heap_setCell _ _ _ g (by have:=(O5.out.lt g hg).1;show g≠w.heap.size;omega))) (by omega)
theorem edl {l:List Rz} {a:List Ed} (h:l.map (·.b)=a.map edB) (ha:a.length≤300):l.length≤100000∧∀ x∈l,x.b.length=20:=by
 have h1:=congrArg List.length h;rw [List.length_map,List.length_map] at h1;refine ⟨by omega,fun x hx=>?_⟩;have h2:x.b∈a.map edB:=h▸List.mem_map_of_mem hx
 obtain ⟨e,-,he⟩:=List.mem_map.1 h2;rw [←he];exact zbd e
theorem vtl {l:List Rz} {a:List Vt} (h:l.map (·.b)=a.map vtB) (ha:a.length≤300):l.length≤100000∧∀ x∈l,x.b.length=12:=by
 have h1:=congrArg List.length h;rw [List.length_map,List.length_map] at h1;refine ⟨by omega,fun x hx=>?_⟩;have h2:x.b∈a.map vtB:=h▸List.mem_map_of_mem hx
 obtain ⟨e,-,he⟩:=List.mem_map.1 h2;rw [←he];exact zcN e
theorem zmD (w:World) (e:TypeId) (size n:Nat) (xs:List Value) (h:xs.length=n*size) (hm:n≤maxLen):Own (w.alloc (.cells xs.toArray e)) w.heap.size e size (.slice (some ⟨w.heap.size,0,none⟩) n n) n xs:=
 ⟨h, .inr ⟨w.heap.size,n,xs.toArray,(0,0),rfl,Nat.le_refl _,heap_alloc_new w _, .inl rfl,Nat.le_refl _,hm,by simp [h],by simp [←h]⟩⟩
theorem zoI (nm:List UInt8) (s:ByteArray) (hs:s=str nm) (hn:nm.length≤1000000) (W:World) (base:Nat) (A:Option Addr) (c:Nat) (l:List Rz) (h:RzsAt W base (.slice A l.length c) l) (hl:l.length≤100000∧∀ x∈l,x.b.length=20) :
 Calls Tryz.prog 29 #[.string s, .slice A l.length c, .int .i64 12] W (New W (fileB nm 0 (zae 12 (l.map (·.b))))):=by
 subst hs;exact zj9 nm hn A c base l W h hl.1 hl.2
theorem zsH (nm:List UInt8) (s:ByteArray) (hs:s=str nm) (hn:nm.length≤1000000) (W:World) (base:Nat) (A:Option Addr) (c:Nat) (l:List Rz) (h:RzsAt W base (.slice A l.length c) l) (hl:l.length≤100000∧∀ x∈l,x.b.length=12) :
 Calls Tryz.prog 29 #[.string s, .slice A l.length c, .int .i64 20] W (New W (fileB nm 0 (zae 20 (l.map (·.b))))):=by
 subst hs;exact ziN nm hn A c base l W h hl.1 hl.2
theorem zhG (A Av:Option Addr) (n c nv cv gn:Nat) (a:List Ed) (vs:List Vt) (w:World) (hB:At w w.heap.size A (edsC a)) (hok:∀ e∈a,EdOk e) (hnl:n=a.length) (hn:n≤300) (hV:At w w.heap.size Av (vtsC vs)) (hvk:∀ x∈vs,VtOk x) (hnv:nv=vs.length) (hn2:nv≤100) (hg:gn≤1048576) :
 Calls Tryz.prog 8 #[.agg #[.slice A n c, .slice Av nv cv], .int .i64 (gn:Int)] w fun e w'=>∃ v a1 b1,e = .returned v∧RedB false a a1∧RedB true a b1∧
  FilesAt w' w.heap.size v [(nmG 101 gn,fileB (nmG 101 gn) 0 (zae 12 (a1.map edB))),(nmG 114 gn,fileB (nmG 114 gn) 0 (zae 12 (b1.map edB))),(nmG 118 gn,fileB (nmG 118 gn) 0 (zae 20 (vs.map vtB)))]∧Keeps w w':=by
 obtain ⟨wb,hwb⟩:∃ wb,wb=(w.alloc (.cells #[.slice A n c, .slice Av nv cv] 34)):=⟨_,rfl⟩
 have HWB:=zH hwb;have KB:=zH (show Keeps w wb by rw [hwb];exact zA _ _);have BX:=zH (show Box wb w.heap.size 34 #[.slice A n c, .slice Av nv cv] by rw [hwb];exact Box.new _ _ _);have NE:=zH (fun W=>zc5 W 101 101 rfl gn hg);have NR:=zH (fun W=>zc5 W 114 114 rfl gn hg);have NV:=zH (fun W=>zc5 W 118 118 rfl gn hg);have g0:(0:Int)≤(gn:Int):=by omega
 have g1:(gn:Int)≤1048576:=by omega
 have HB:=zH hB;have HV:=zH hV;have HOK:=zH hok;have HVK:=zH hvk;have HNL:=zH (And.intro hnl (And.intro hn (And.intro hnv hn2)));have ni:(n:Int)≤300:=by omega
 have nvi:(nv:Int)≤100:=by omega
 obtain ⟨sE,hsE⟩:∃ s,s=str (nmG 101 gn):=⟨_,rfl⟩
 obtain ⟨sR,hsR⟩:∃ s,s=str (nmG 114 gn):=⟨_,rfl⟩
 obtain ⟨sV,hsV⟩:∃ s,s=str (nmG 118 gn):=⟨_,rfl⟩
 rw [←hsE] at NE;rw [←hsR] at NR;rw [←hsV] at NV;have GI:=zH hg;have HSE:=zH hsE;have HSR:=zH hsR;have HSV:=zH hsV;clear hwb hB hV hok hvk hnl hn hnv hn2 hsE hsR hsV hg;go_enter Tryz.func8,Tryz.ntmps8;go_wp2_with fail
 rw [←HWB.out];refine (NE.out _).mono ?_;rintro e w1 ⟨rfl,k1⟩;go_wp2_with fail
 refine (NR.out _).mono ?_;rintro e w2 ⟨rfl,k2⟩;go_wp2_with fail
 refine (NV.out _).mono ?_;rintro e w3 ⟨rfl,k3⟩;have K3:=zH (zK k1 (zK k2 k3));have SO0:=zH (fun (W:World) (k:Keeps wb W)=>zc4 A n c a 0 W ((HB.out.keep (zK KB.out k)).more (zK KB.out k).size) HOK.out HNL.out.1 (by have:=HNL.out;omega));have SO1:=zH (fun (W:World) (k:Keeps wb W)=>zc4 A n c a 1 W ((HB.out.keep (zK KB.out k)).more (zK KB.out k).size) HOK.out HNL.out.1 (by have:=HNL.out;omega));have SD:=zH (fun (W:World) (k:Keeps wb W)=>show W.cell? ⟨w.heap.size,0,none⟩=some (.slice A n c)∧W.cell? ⟨w.heap.size,1,none⟩=some (.slice Av nv cv) from ⟨(BX.out.keep k).cell 0 rfl,(BX.out.keep k).cell 1 rfl⟩);have BE:=zH (zoI (nmG 101 gn) sE HSE.out (by have:=(zfw 101 GI.out).1;omega));have BR:=zH (zoI (nmG 114 gn) sR HSR.out (by have:=(zfw 114 GI.out).1;omega));have BV:=zH (zsH (nmG 118 gn) sV HSV.out (by have:=(zfw 118 GI.out).1;omega));have s3:=SD.out _ K3.out;clear k1 k2 k3;go_wp2_with fail
 go_region_held3 (fun W=>W.cell? ⟨w.heap.size,0,none⟩=some (.slice A n c)∧W.cell? ⟨w.heap.size,1,none⟩=some (.slice Av nv cv)) (first|assumption|exact SD.out _ (zK K3.out (zD _))|exact SD.out _ (zK K11.out (zA _ _))) (first
  | (go_at_call 29;refine (BV.out w10 _ A10 c10 l10 Z10.out (vtl M10.out (by have:=HNL.out;omega))).mono ?_;rintro ee w11 ⟨v11,rfl,o,k⟩;obtain ⟨A11,c11,rfl,-,-,-,-⟩:=o.form;have O11:=zH o;have K11:=zH (zK K10.out k);have s11:=SD.out _ K11.out;have X11:=zH k;clear o k)
  | (go_at_call 31;refine (zhc _ _ _ vs _ ((HV.out.keep (zK KB.out K9.out)).more (zK KB.out K9.out).size) HVK.out HNL.out.2.2.1 (by have:=HNL.out;omega)).mono ?_;rintro ee w10 ⟨v10,l10,rfl,z,m,k⟩;obtain ⟨A10,c10,rfl,-,-,-,-⟩:=z.row.form;have Z10:=zH z;have M10:=zH m;have K10:=zH (zK K9.out k);have s10:=SD.out _ K10.out;have X10:=zH k;clear z m k)
  | (go_at_call 29;refine (BR.out w8 _ A8 c8 l8 Z8.out (edl M8.out L7.out)).mono ?_;rintro ee w9 ⟨v9,rfl,o,k⟩;obtain ⟨A9,c9,rfl,-,-,-,-⟩:=o.form;have O9:=zH o;have K9:=zH (zK K8.out k);have s9:=SD.out _ K9.out;have X9:=zH k;clear o k)
  | (go_at_call 30;refine (zee _ _ _ b1 _ (Own.at_ O7.out) (fun e he=>HOK.out e (R2.out.mem e he)) rfl (by have:=L7.out;omega)).mono ?_;rintro ee w8 ⟨v8,l8,rfl,z,m,k⟩;obtain ⟨A8,c8,rfl,-,-,-,-⟩:=z.row.form;have Z8:=zH z;have M8:=zH m;have K8:=zH (zK K7.out k);have s8:=SD.out _ K8.out;have X8:=zH k;clear z m k)
  | (go_at_call 27;refine (SO1.out _ K6.out).mono ?_;rintro ee w7 ⟨b1,hr,v7,rfl,o,k⟩;obtain ⟨A7,c7,rfl,-,-,-,-⟩:=o.form;have R2:=zH hr;have O7:=zH o;have K7:=zH (zK K6.out k);have L7:=zH (show b1.length≤300 by have:=hr.len_le;have:=HNL.out;omega);have s7:=SD.out _ K7.out;have X7:=zH k;clear hr o k)
  | (go_at_call 29;refine (BE.out w5 _ A5 c5 l5 Z5.out (edl M5.out L4.out)).mono ?_;rintro ee w6 ⟨v6,rfl,o,k⟩;obtain ⟨A6,c6,rfl,-,-,-,-⟩:=o.form;have O6:=zH o;have K6:=zH (zK K5.out k);have s6:=SD.out _ K6.out;have X6:=zH k;clear o k)
  | (go_at_call 30;refine (zee _ _ _ a1 _ (Own.at_ O4.out) (fun e he=>HOK.out e (R1.out.mem e he)) rfl (by have:=L4.out;omega)).mono ?_;rintro ee w5 ⟨v5,l5,rfl,z,m,k⟩;obtain ⟨A5,c5,rfl,-,-,-,-⟩:=z.row.form;have Z5:=zH z;have M5:=zH m;have K5:=zH (zK K4.out k);have s5:=SD.out _ K5.out;have X5:=zH k;clear z m k)
  | (go_at_call 27;refine (SO0.out _ (zK K3.out (zD _))).mono ?_;rintro ee w4 ⟨a1,hr,v4,rfl,o,k⟩;obtain ⟨A4,c4,rfl,-,-,-,-⟩:=o.form;have R1:=zH hr;have O4:=zH o;have K4:=zH (zK (zK K3.out (zD _)) k);have L4:=zH (show a1.length≤300 by have:=hr.len_le;have:=HNL.out;omega);have s4:=SD.out _ K4.out;have X4:=zH k;clear hr o k))
 go_wp2;go_ret;rw [M5.out,M8.out,M10.out,HSE.out,HSR.out,HSV.out];have kA:=zA w11 (.cells #[strV (nmG 101 gn), .slice A6 (fileB (nmG 101 gn) 0 (zae 12 (a1.map edB))).length c6,strV (nmG 114 gn), .slice A9 (fileB (nmG 114 gn) 0 (zae 12 (b1.map edB))).length c9,strV (nmG 118 gn), .slice A11 (fileB (nmG 118 gn) 0 (zae 20 (vs.map vtB))).length c11] 43);have k9:=zK X10.out (zK X11.out kA);have k6:=zK X7.out (zK X8.out (zK X9.out k9));have kw5:w.heap.size≤w5.heap.size:=Nat.le_trans KB.out.size K5.out.size;have kw8:w.heap.size≤w8.heap.size:=Nat.le_trans KB.out.size K8.out.size;have kw10:w.heap.size≤w10.heap.size:=Nat.le_trans KB.out.size K10.out.size;have kw11:w.heap.size≤w11.heap.size:=Nat.le_trans KB.out.size K11.out.size;have P6:=(O6.out.keep k6).base_le kw5;have P9:=(O9.out.keep k9).base_le kw8;have P11:=(O11.out.keep kA).base_le kw10;rw [M5.out] at P6;rw [M8.out] at P9;rw [M10.out] at P11;refine ⟨_,a1,b1,rfl,by have:=R1.out;simpa using this,by have:=R2.out;simpa using this,⟨[.slice A6 (fileB (nmG 101 gn) 0 (zae 12 (a1.map edB))).length c6, .slice A9 (fileB (nmG 114 gn) 0 (zae 12 (b1.map edB))).length c9, .slice A11 (fileB (nmG 118 gn) 0 (zae 20 (vs.map vtB))).length c11],rfl,(zmD w11 43 2 3 _ rfl (by decide)).base_le kw11,?_⟩,zK KB.out (zK K11.out kA)⟩;intro i b x hi hx;rcases i with _|_|_|i
 ·obtain rfl:_=b:=Option.some.inj hi;obtain rfl:_=x:=Option.some.inj hx;exact P6
 ·obtain rfl:_=b:=Option.some.inj hi;obtain rfl:_=x:=Option.some.inj hx;exact P9
 ·obtain rfl:_=b:=Option.some.inj hi;obtain rfl:_=x:=Option.some.inj hx;exact P11
 ·simp at hx
theorem zeL (A B:Option Addr) (n c d:Nat) (l:List Ed) (w:World) (hA:At w w.heap.size A (edsC l)) (hB:At w w.heap.size B (edsC l)) (hnl:n=l.length) (hn:n≤1000000) :
 Calls Tryz.prog 18 #[.slice A n c, .slice B n d] w (Yes12 w):=by
 have HA:=zH hA;have HB:=zH hB;have HNL:=zH hnl;have hni:(n:Int)≤1000000:=by omega
 clear hA hB hnl;go_enter Tryz.func18,Tryz.ntmps18;go_wp2;go_loopw [5] (fun i wr=>∃ k:Nat,k≤n∧i = .int .i64 k∧Keeps w wr) (fun i _=>n-(intOf i).toNat)
 case atStart=>exact ⟨0,Nat.zero_le _,rfl,zab _⟩
 case round=>
  obtain ⟨k,hk,rfl,hkp⟩:=hrel;have HK:=zH hkp;clear hkp;by_cases hlt:k<n
  ·obtain ⟨x,hx⟩:∃ x,l[k]? = some x:=(⟨_,zG9 (by have:=HNL.out;omega)⟩);obtain ⟨ad,hA,_,hE⟩:=zbJ HA.out hx;obtain ⟨ae,hB,_,hF⟩:=zbJ HB.out hx;subst hA;subst hB;have HE:=zH hE;have HF:=zH hF;have hkn:(k:Int)<(n:Int):=by omega
   have k0:(0:Int)≤(k:Int):=(by omega);have SD:=zH (fun (W:World) (kk:Keeps w W)=>show (W.cell? (ad.add (k*4))=some (.int .u32 (x.t:Int))∧W.cell? ⟨(ad.add (k*4)).block,(ad.add (k*4)).off+1,none⟩=some (.int .u32 (x.h:Int))∧W.cell? ⟨(ad.add (k*4)).block,(ad.add (k*4)).off+2,none⟩=some (.int .u64 (x.x:Int))∧W.cell? ⟨(ad.add (k*4)).block,(ad.add (k*4)).off+3,none⟩=some (.int .u32 (x.m:Int)))∧(W.cell? (ae.add (k*4))=some (.int .u32 (x.t:Int))∧W.cell? ⟨(ae.add (k*4)).block,(ae.add (k*4)).off+1,none⟩=some (.int .u32 (x.h:Int))∧W.cell? ⟨(ae.add (k*4)).block,(ae.add (k*4)).off+2,none⟩=some (.int .u64 (x.x:Int))∧W.cell? ⟨(ae.add (k*4)).block,(ae.add (k*4)).off+3,none⟩=some (.int .u32 (x.m:Int))) from ⟨(show EdIn W (ad.add (k*4)) x from HE.out.keep kk),(show EdIn W (ae.add (k*4)) x from HF.out.keep kk)⟩);have s0:=SD.out _ HK.out;clear hE hF hx;go_wp2_with fail
   go_region_held3 (fun W=>(W.cell? (ad.add (k*4))=some (.int .u32 (x.t:Int))∧W.cell? ⟨(ad.add (k*4)).block,(ad.add (k*4)).off+1,none⟩=some (.int .u32 (x.h:Int))∧W.cell? ⟨(ad.add (k*4)).block,(ad.add (k*4)).off+2,none⟩=some (.int .u64 (x.x:Int))∧W.cell? ⟨(ad.add (k*4)).block,(ad.add (k*4)).off+3,none⟩=some (.int .u32 (x.m:Int)))∧(W.cell? (ae.add (k*4))=some (.int .u32 (x.t:Int))∧W.cell? ⟨(ae.add (k*4)).block,(ae.add (k*4)).off+1,none⟩=some (.int .u32 (x.h:Int))∧W.cell? ⟨(ae.add (k*4)).block,(ae.add (k*4)).off+2,none⟩=some (.int .u64 (x.x:Int))∧W.cell? ⟨(ae.add (k*4)).block,(ae.add (k*4)).off+3,none⟩=some (.int .u32 (x.m:Int)))) (first|assumption|exact SD.out _ (zK HK.out (zD _))) (fail)
   go_wp2;go_roundw
   case rel=>exact ⟨k+1,by omega,by go_num,zK HK.out (zD _)⟩
   case measure=>simp [intOf];omega
  ·obtain rfl:k=n:=(by omega);go_wp2;go_ret;exact ⟨rfl,HK.out⟩
end Go.Proofs.YtjpldnjldindkaaGreatDoor
