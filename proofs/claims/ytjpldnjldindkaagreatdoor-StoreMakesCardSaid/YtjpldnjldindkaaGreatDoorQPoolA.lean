/- What package pool asks of the library: to compare, to search in a row of frames. -/
import Derived.Test.YtjpldnjldindkaaGreatDoorQPoolMath
import Derived.Deep.RegionHeld3
import Derived.Deep.RegionLaw
import Derived.Laws.CopyRow
import Derived.Lib.Overlaps
import Derived.Lib.AppendZerosOnto
import Derived.Lib.SliceRun
import Derived.Laws.Externs
set_option linter.all false
set_option maxHeartbeats 0
set_option maxRecDepth 100000
namespace Go.Proofs.YtjpldnjldindkaaGreatDoor
open Go.RowKit
def cmpI (a b:Int):Int:=if a<b then -1 else if b<a then 1 else 0
theorem zhW (a:Int) (w:World):Calls Tryz.prog 105 #[.int .i64 a] w fun e w'=>e = .returned (.bool false)∧w=w':=by
 have e:(a != a)=false:=by simp
 go_enter Tryz.func105,Tryz.ntmps105;go_wp2;go_ret;exact ⟨rfl,rfl⟩
theorem zkq (a b:Int) (w:World):Calls Tryz.prog 72 #[.int .i64 a, .int .i64 b] w fun e w'=>e = .returned (.int .i64 (cmpI a b))∧w=w':=by
 obtain ⟨x,hx⟩:∃ x,cmpI a b=x:=⟨_,rfl⟩
 rw [hx];have HX:=zH hx;clear hx;go_enter Tryz.func72,Tryz.ntmps72;go_wp2_with fail
 refine (zhW a _).mono ?_;rintro e w1 ⟨rfl,rfl⟩;go_wp2_with fail
 refine (zhW b _).mono ?_;rintro e w1 ⟨rfl,rfl⟩;by_cases h1:a<b
 ·have e1:=zH (show x = -1 by have:=HX.out;unfold cmpI at this;rw [if_pos h1] at this;exact this.symm);go_wp2;go_ret;exact ⟨by rw [e1.out];rfl,rfl⟩
 ·by_cases h2:b<a
  ·have e1:=zH (show x=1 by have:=HX.out;unfold cmpI at this;rw [if_neg h1,if_pos h2] at this;exact this.symm);go_wp2;go_ret;exact ⟨by rw [e1.out];rfl,rfl⟩
  ·have e1:=zH (show x=0 by have:=HX.out;unfold cmpI at this;rw [if_neg h1,if_neg h2] at this;exact this.symm);go_wp2;go_ret;exact ⟨by rw [e1.out];rfl,rfl⟩
theorem zjh (b:Nat) (p k:Int) (w:World) (h:w.cell? ⟨b,1,none⟩=some (.int .i64 p)):Calls Tryz.prog 216 #[.pointer (some ⟨b,0,none⟩), .int .i64 k] w fun e w'=>e = .returned (.int .i64 (cmpI p k))∧w=w':=by
 go_enter Tryz.func216,Tryz.ntmps216;go_wp2_with fail
 refine (zkq p k _).mono ?_;rintro e w1 ⟨rfl,rfl⟩;go_wp2;go_ret;exact ⟨rfl,rfl⟩
theorem zq1 (a b:Nat):decide (cmpI (a:Int) (b:Int)<0)=decide (a<b):=by
 unfold cmpI;by_cases h:a<b
 ·rw [if_pos (by omega),decide_eq_true h];rfl
 ·rw [if_neg (by omega),decide_eq_false h];split<;>rfl
theorem zq2 (a b:Nat):(cmpI (a:Int) (b:Int) == 0)=decide (a=b):=by
 unfold cmpI;by_cases h:a<b
 ·rw [if_pos (by omega),decide_eq_false (by omega)];rfl
 ·rw [if_neg (by omega)];by_cases h2:b<a
  ·rw [if_pos (by omega),decide_eq_false (by omega)];rfl
  ·rw [if_neg (by omega),decide_eq_true (by omega)];rfl
theorem zkr (A:Option Addr) (n c:Nat) (ps:List (Nat×Nat)) (k:Nat) (w:World) (hA:At w w.heap.size A (ps.map fun x=>.pointer (some ⟨x.1,0,none⟩))) (hn:n=ps.length) (hm:n≤1000000000) (hp:∀ x∈ps,w.cell? ⟨x.1,1,none⟩=some (.int .i64 (x.2:Int))) (hs:(ps.map (·.2)).Pairwise (· < ·)) :
 Calls Tryz.prog 215 #[.slice A n c, .int .i64 (k:Int), .func (.func 216) #[] #[]] w fun e w'=>e = .returned (.tuple #[.int .i64 (below (ps.map (·.2)) k:Int), .bool (decide (k∈ps.map (·.2)))])∧w=w':=by
 obtain ⟨x,hx⟩:∃ x,below (ps.map (·.2)) k=x:=⟨_,rfl⟩
 obtain ⟨y,hy⟩:∃ y,decide (k∈ps.map (·.2))=y:=⟨_,rfl⟩
 rw [hx,hy];have HX:=zH hx;have HY:=zH hy;have HA:=zH hA;have HP:=zH hp;have HS:=zH hs;have HN:=zH hn;have hni:(n:Int)≤1000000000:=by omega
 have GET:=zH (show ∀ m,m<n→∃ z b ad,ps[m]? = some z∧z.1=b∧A=some ad∧w.cell? (ad.add m)=some (.pointer (some ⟨b,0,none⟩))∧(ps.map (·.2))[m]? = some z.2∧w.cell? ⟨b,1,none⟩=some (.int .i64 (z.2:Int)) from fun m hmn=>by
  have hml:m<ps.length:=by omega
  obtain ⟨ad,e,-,hc⟩:=At.get hA (k:=m) (by rw [List.length_map];exact hml);refine ⟨ps[m],ps[m].1,ad,zG9 hml,rfl,e,?_,?_,hp _ (List.getElem_mem hml)⟩
  ·rw [hc,List.getElem?_map,zG9 hml];rfl
  ·rw [List.getElem?_map,zG9 hml];rfl)
 clear hx hy hA hp hs hn;go_enter Tryz.func215,Tryz.ntmps215;go_wp2;go_loopw [9,10] (fun s9 s10 wr=>∃ lo hi:Nat,s9 = .int .i64 lo∧s10 = .int .i64 hi∧lo≤hi∧hi≤n∧Hid (lo≤x∧x≤hi)∧wr=w) (fun s9 s10 _=>(intOf s10).toNat-(intOf s9).toNat)
 case atStart=>exact ⟨0,n,rfl,rfl,Nat.zero_le _,Nat.le_refl _,zH ⟨Nat.zero_le _,by rw [←HX.out,HN.out];have:=zdr (ps.map (·.2)) k;rwa [List.length_map] at this⟩,rfl⟩
 case round=>
  obtain ⟨lo,hi,rfl,rfl,hlh,hin,HI,rfl⟩:=hrel;by_cases hlt:lo<hi
  ·have hlt':(lo:Int)<(hi:Int):=(by omega);obtain ⟨m,hm2⟩:∃ m,m=(lo+hi)/2:=⟨_,rfl⟩
   have hq:((lo:Int)+(hi:Int))/2=(m:Int):=(by omega);have hmn:m<n:=by omega
   have hmi:(m:Int)<(n:Int):=(by omega);have hml:=zH (show lo≤m∧m<hi by omega);obtain ⟨z,b,ad,-,-,rfl,q1,q2,q3⟩:=GET.out m hmn;have q2':=zH q2;clear q2;have C:=zH (zjh b (z.2:Int) (k:Int) wr q3);obtain ⟨d,hd⟩:∃ d,cmpI (z.2:Int) (k:Int)=d:=⟨_,rfl⟩
   rw [hd] at C;have hd2:=zq1 z.2 k;rw [hd] at hd2;by_cases hz:z.2<k
   ·have hdn:d<0:=(by simpa [hz] using hd2);have NX:=zH (show m+1≤x∧x≤hi from ⟨by have:=(za9 HS.out k q2'.out).2 hz;rw [HX.out] at this;omega,HI.out.2⟩);clear hd hd2 hz hm2 hlt;go_wp2_with fail
    refine C.out.mono ?_;rintro e w1 ⟨rfl,rfl⟩;go_wp2;go_roundw
    case rel=>exact ⟨m+1,hi,by go_num,rfl,by have:=hml.out;omega,hin,NX,trivial⟩
    case measure=>have:=hml.out;simp [intOf];omega
   ·have hdn:¬ d<0:=(by simpa [hz] using hd2);have NX:=zH (show lo≤x∧x≤m from ⟨HI.out.1,by have:=(za9 HS.out k q2'.out);rw [HX.out] at this;omega⟩);clear hd hd2 hz hm2 hlt;go_wp2_with fail
    refine C.out.mono ?_;rintro e w1 ⟨rfl,rfl⟩;go_wp2;go_roundw
    case rel=>exact ⟨lo,m,rfl,rfl,hml.out.1,by have:=hml.out;omega,NX,trivial⟩
    case measure=>have:=hml.out;simp [intOf];omega
  ·obtain rfl:lo=x:=by have:=HI.out;omega
   have hlh':¬ ((lo:Int)<(hi:Int)):=(by omega);by_cases hend:lo<n
   ·have hei:(lo:Int)<(n:Int):=(by omega);obtain ⟨z,b,ad,-,-,rfl,q1,q2,q3⟩:=GET.out lo hend;have YY:=zH (show y=decide (z.2=k) by
     rw [←HY.out];have h1:=zcE HS.out (k:=k);rw [HX.out,q2] at h1;by_cases e:z.2=k
     ·rw [decide_eq_true e,decide_eq_true (h1.2 (by rw [e]))]
     ·rw [decide_eq_false e,decide_eq_false (fun hm=>e (Option.some.inj (h1.1 hm)))])
    clear q2 hlt;have C:=zH (zjh b (z.2:Int) (k:Int) wr q3);have hd2:=zH (zq2 z.2 k);obtain ⟨d,hd⟩:∃ d,cmpI (z.2:Int) (k:Int)=d:=⟨_,rfl⟩
    rw [hd] at C hd2;clear hd;go_wp2_with fail
    refine C.out.mono ?_;rintro e w1 ⟨rfl,rfl⟩;obtain ⟨v,hv⟩:∃ v,(d == 0)=v:=(⟨_,rfl⟩);have YV:=zH (show y=v by rw [YY.out,←hd2.out,hv]);go_wp2;go_returns;exact ⟨by rw [YV.out];rfl,rfl⟩
   ·have hei:¬ ((lo:Int)<(n:Int)):=(by omega);have YY:=zH (show y=false by
     rw [←HY.out];refine (decide_eq_false fun hm=>?_);have h1:=(zcE HS.out (k:=k)).1 hm;rw [HX.out] at h1;have:=(zI9.1 h1).1;rw [List.length_map] at this;have:=HN.out;omega)
    clear hlt;go_wp2;go_returns;exact ⟨by rw [YY.out];rfl,rfl⟩
theorem zgE (A:Option Addr) (n c:Nat) (ps:List (Nat×Nat)) (k:Nat) (w:World) (hA:At w w.heap.size A (ps.map fun x=>.pointer (some ⟨x.1,0,none⟩))) (hn:n=ps.length) (hm:n≤1000000000) (hp:∀ x∈ps,w.cell? ⟨x.1,1,none⟩=some (.int .i64 (x.2:Int))) (hs:(ps.map (·.2)).Pairwise (· < ·)) :
 Calls Tryz.prog 193 #[.slice A n c, .int .i64 (k:Int)] w fun e w'=>e = .returned (.tuple #[.int .i64 (below (ps.map (·.2)) k:Int), .bool (decide (k∈ps.map (·.2)))])∧w=w':=by
 have B:=zH (zkr A n c ps k w hA hn hm hp hs);obtain ⟨x,hx⟩:∃ x,below (ps.map (·.2)) k=x:=⟨_,rfl⟩
 obtain ⟨y,hy⟩:∃ y,decide (k∈ps.map (·.2))=y:=⟨_,rfl⟩
 rw [hx,hy] at B ⊢;clear hx hy hA hp hs hn;go_enter Tryz.func193,Tryz.ntmps193;go_wp2_with fail
 refine B.out.mono ?_;rintro e w1 ⟨rfl,rfl⟩;go_wp2;go_returns;exact ⟨rfl,rfl⟩
theorem ze2:(Tryz.prog.info? 194).map (fun i=>(i.zero,i.size,i.bytes))=some (some (.pointer none),1,8):=by kernel_rfl
theorem zgF:(Tryz.prog.info? 194).map (·.size)=some 1:=by kernel_rfl
def PRow (w:World) (v:Value) (xs:List Value):Prop:=w.ownsRow 0 194 1 v xs.length xs
theorem PRow.form {w:World} {v:Value} {xs:List Value} (h:PRow w v xs):(v = .slice none 0 0∧xs=[])∨∃ g cur,v = .slice (some ⟨g,0,none⟩) xs.length cur.size∧Box w g 194 cur∧xs.length≤cur.size∧cur.size≤maxLen∧cur.toList.take xs.length=xs:=by
 rcases h.2 with ⟨h1,h2⟩|⟨g,cap,cur,h1,-,h2,h3,h4,h5,h6⟩
 ·exact .inl ⟨h1,List.eq_nil_of_length_eq_zero h2⟩
 ·rw [Nat.mul_one] at h5 h6;subst h5;exact .inr ⟨g,cur,h1,h2,h3,h4,h6⟩
theorem PRow.of_box {w:World} {g:Nat} {cur:Array Value} {xs:List Value} (h:Box w g 194 cur) (h1:xs.length≤cur.size) (h2:cur.size≤maxLen) (h3:cur.toList.take xs.length=xs):PRow w (.slice (some ⟨g,0,none⟩) xs.length cur.size) xs:=
 ⟨(Nat.mul_one _).symm, .inr ⟨g,cur.size,cur,rfl,Nat.zero_le _,h,h1,h2,(Nat.mul_one _).symm,by rw [Nat.mul_one];exact h3⟩⟩
section
variable {P:Program} {w:World} {ops:Array Oper} {rest:List Oper} {o:Oper} {a:Act} {Q:Exit→Act→World→Prop}
theorem zhX {K:Act→World→Prop} {E:Prop} (hg:o.guard=none) (d x:Operand) (dT sT:TypeId) (hop:o.op=Op.call {callee:=Callee.builtin Builtin.append,args:=#[d,x],argTypes:=#[dT,sT]})
 (v u:Value) (hd:a.eval d=v) (hx:a.eval x=u) {v':Value} {w':World} (hr:(Builtin.append_ #[dT,sT] o.type #[v,u]).run P w = .ok v' w') (hK:K (a.put o.dst v') w') :
 if Region.wanted o (yielded ops a.tmps)=true then Oper.wp P o a w K Q else E:=by
 rw [if_pos (by simp [Region.wanted,hg])];unfold Oper.wp;simp [execOp,hop,resolve,invoke,builtin,hd,hx,hr,Result.andThen];exact hK
theorem zfG (hg:o.guard=none) (d s:Operand) (t t':TypeId) (ho:o.op = .call {callee:=.builtin .append,args:=#[d,s],argTypes:=#[t,t']}) (v u:Value) (hd:a.eval d=v) (hs:a.eval s=u) {v':Value} {w':World}
 (hr:(Builtin.append_ #[t,t'] o.type #[v,u]).run P w = .ok v' w') (h:wpList P ops Q rest (a.put o.dst v') w'):wpList P ops Q (o::rest) a w:=
 wpList_plain hg fun K hK=>by
  unfold Oper.wp execOp;simp only [ho,resolve,invoke,builtin,Sem.run_bind,Sem.run_pure,Result.andThen_ok,List.map_toArray,List.map_cons,List.map_nil,hd,hs,hr];exact hK _ _ h
end
theorem zbU {w:World} {g:Nat} {t:TypeId} {cur cur':Array Value} (h:Box w g t cur):Box (w.setRow g cur') g t cur':=setRow_heap w g cur cur' t (0,0) h
def RowTo (w:World) (v:Option Nat) (xs:List Value) (e:Ending) (w':World):Prop:=∃ v',e = .returned v'∧PRow w' v' xs∧Onto w v w' v'
theorem zji (w:World) (g:Nat) (cur:Array Value):w.grownBy (w.setRow g cur) (some g):=⟨rfl,rfl,rfl,by simp [World.setRow],fun i hi hne=>setRow_other w g i _ (fun e=>hne (by rw [e]))⟩
theorem zpe (w:World) (ty:TypeId) (v:Value) (xs:List Value) (h:PRow w v xs) (ad:Addr) (m c:Nat) (news:List Value) (hl:news.length=m) (hr:At w w.heap.size (some ad) news) (h1:∀ u∈news,u.oneCell'=true) (hm:xs.length+m≤2000000000) :
 ∃ v' w',(Builtin.append_ #[150,150] ty #[v, .slice (some ad) m c]).run Tryz.prog w = .ok v' w'∧PRow w' v' (xs++news)∧Onto w v.ownBlock w' v':=by
 obtain ⟨i0,hi0,hz0,hz1,hz2⟩:=info_parts ze2;have hnews:∀ j x,news[j]? = some x→w.cell? (ad.add j)=some x:=fun j x hj=>by
  rcases hr with h0|⟨ad',e,-,hc⟩
  ·rw [h0] at hj;simp at hj
  ·obtain rfl:=Option.some.inj e;exact hc j x hj
 obtain ⟨v1,w1,r1,o1,g1,-⟩:=run_append_own (P:=Tryz.prog) w 0 150 ty 194 i0 (.pointer none) 1 8 Tryz.underlying150 hi0 hz0 hz1 hz2 rfl (by decide) v xs.length xs h ad m c news (by rw [hl,Nat.mul_one]) hnews h1 (by unfold maxLen;omega) (by omega) (Nat.zero_le _);obtain ⟨v2,w2,r2,o2,g2,b2,-⟩:=zkQ (P:=Tryz.prog) w 0 150 ty 194 i0 (.pointer none) 1 8 Tryz.underlying150 hi0 hz0 hz1 hz2 rfl (by decide) v xs.length xs (Own.of_row h) w.heap.size (some ad) m c news (by rw [hl,Nat.mul_one]) hr h1 (by unfold maxLen;omega) (by omega) (Nat.zero_le _);rw [r1] at r2;injection r2 with e1 e2;subst e1;subst e2;refine ⟨v1,w1,r1,?_,g1,?_⟩
 ·have:(xs++news).length=xs.length+m:=(by rw [List.length_append,hl]);unfold PRow;rw [this];exact o1
 ·rcases b2 with b2|b2
  ·exact .inl b2
  ·right;intro g hg;rw [b2] at hg;obtain rfl:=Option.some.inj hg;exact Nat.le_refl _
theorem zeH (w:World) (g:Nat) (cur:Array Value):w.grownBy (w.drew.setRow g cur) (some g):=⟨rfl,rfl,rfl,by simp [World.setRow],fun i hi hne=>setRow_other w.drew g i _ (fun e=>hne (by rw [e]))⟩
theorem zlO (w:World) (v u:Value) (xs:List Value) (i vb:Nat) (h:PRow w v xs) (hi:i≤xs.length) (hm:xs.length≤1000000000) (h1:∀ x∈xs,x.oneCell'=true) (hu:u.oneCell'=true) (hvb:Box w vb 194 #[u]) (hne:v.ownBlock≠some vb) :
 Calls Tryz.prog 194 #[v, .int .i64 (i:Int), .slice (some ⟨vb,0,none⟩) 1 1] w (RowTo w v.ownBlock (xs.take i++u::xs.drop i)):=by
 obtain ⟨i0,hi0,hz0,hz1,hz2⟩:=info_parts ze2;obtain ⟨n,hn⟩:∃ n,n=xs.length:=⟨_,rfl⟩
 have hvs:At w w.heap.size (some ⟨vb,0,none⟩) [u]:=.inr ⟨_,rfl,hvb.lt,fun j x hj=>by
  cases j with
  | zero=>simp only [List.getElem?_cons_zero] at hj;rw [←hj];exact hvb.cell 0 rfl
  | succ j=>simp at hj⟩
 by_cases hin:i=n
 ·-- behind the last one
  have HE:=zH (show xs.take i++u::xs.drop i=xs++[u] by rw [hin,hn];simp);rw [HE.out];subst hin;have HN:=zH hn;have hni:(i:Int)≤1000000000:=by omega
  obtain ⟨v',w',hr,hp,ho⟩:=zpe w 150 v xs h ⟨vb,0,none⟩ 1 1 [u] rfl hvs (by simpa using hu) (by omega);have HP:=zH hp;have HO:=zH ho;obtain ⟨A,c,rfl,hc,hcm,-,-⟩:=(Own.of_row h).form;rw [←HN.out] at *;have hci:(c:Int)≤9223372036854775807:=by unfold maxLen at hcm;omega
  have hic:(i:Int)≤(c:Int):=(by omega);have HR:=zH hr;clear h hn hi h1 hne hvb hp ho hr;generalize Value.ownBlock (.slice A i c)=ob at *;go_enter Tryz.func194,Tryz.ntmps194;go_wp2_with (at_builtin;refine zfG rfl _ _ _ _ rfl _ _ rfl rfl HR.out ?_)
  all_goals (go_ret;exact ⟨v',rfl,HP.out,HO.out⟩)
 ·-- among them
  rcases h.form with ⟨rfl,rfl⟩|⟨g,cur,rfl,hbx,hnc,hcm,htk⟩
  ·exfalso;simp at hn hi;omega
  ·rw [←hn] at hnc htk ⊢;have hilt:i<n:=(by omega);have hli:(i:Int)<(n:Int):=by omega
   have hni:(n:Int)≤1000000000:=(by omega);obtain ⟨c,hc⟩:∃ c,cur.size=c:=⟨_,rfl⟩
   rw [hc] at hnc hcm ⊢;have hci:(c:Int)≤9223372036854775807:=by unfold maxLen at hcm;omega
   have hnci:(n:Int)≤(c:Int):=(by omega);have hgl:=hbx.lt;have hgv:vb≠g:=fun e=>hne (by rw [e];rfl)
   have hdl:(xs.drop i).length=n-i:=(by rw [List.length_drop,hn]);have hcell:∀ j x,xs[j]? = some x→w.cell? ⟨g,j,none⟩=some x:=fun j x hj=>by
    refine hbx.cell j ?_;rw [←htk,List.getElem?_take] at hj;split at hj
    ·simpa using hj
    ·cases hj
   have h1d:∀ x∈xs.drop i,x.oneCell'=true:=(fun x hx=>h1 x (List.mem_of_mem_drop hx));have hvbl:=hvb.lt;have e1:((1:Int) == 0)=false:=rfl;have e2:((i:Int) == (n:Int))=false:=by rw [beq_eq_false_iff_ne];omega
   by_cases hroom:n+1≤c
   ·have hri:¬ ((c:Int)<(n:Int)+1):=(by omega);obtain ⟨m,hm1,hmw⟩:∃ m:Nat,m=i+1∧IntKind.i64.wrap ((i:Int)+1)=(m:Int):=⟨i+1,rfl,IntWalk.i64_in _ (by omega)⟩
    have HOV:=zH (fun lb cb=>show (callFunc 217 #[.slice (some ⟨vb,0,none⟩) 1 1, .slice (some ⟨g,m,none⟩) lb cb]).run Tryz.prog w = .ok (.value (.bool false)) w by
     rw [run_callFunc_extern Tryz.func217 (by kernel_rfl) (by kernel_rfl) (by kernel_rfl) (e:=Extern.SlicesOverlaps.overlaps #[150,150] #[4]) (by kernel_rfl),
      Lib.run_overlaps_apart w 150 4 194 Tryz.underlying150 1 Tryz.sizeOf194 ⟨vb,0,none⟩ ⟨g,m,none⟩ 1 1 lb cb hgv 194 194 1 c (by unfold World.shape?;rw [show w.heap[vb]? = _ from hvb];rfl) (by unfold World.shape?;rw [show w.heap[g]? = _ from hbx];simp [hc]) (by omega) (hvb.frozen 0) (hvb.frozen 1)]
     rfl)
    obtain ⟨C1,hC1⟩:∃ C1,C1=(cur.toList.take (i+1)++xs.drop i++cur.toList.drop (i+1+(xs.drop i).length)).toArray:=(⟨_,rfl⟩);have hC1l:C1.size=c:=by rw [hC1];simp [hc];omega
    have CP1:=zH (fun (W:World) (hW:W.heap=w.heap) ty dc sc (dL:Nat) (hdL:dL=n-i) (sL:Nat) (hsL:sL=n+1-i)=>show (Builtin.copy_ #[150,150] ty #[.slice (some ⟨g,m,none⟩) dL dc, .slice (some ⟨g,i,none⟩) sL sc]).run Tryz.prog W = .ok (goInt (xs.drop i).length) (W.setRow g C1) by
     subst hdL;subst hsL;rw [hC1,hm1];refine run_copy_row Tryz.prog W _ _ ty 194 g (i+1) (n-i) dc ⟨g,i,none⟩ (n+1-i) sc cur 194 (xs.drop i) Tryz.underlying150 zgF (by rw [hW];exact hbx) (by rw [hdl];exact (Nat.min_eq_right (by omega)).symm) (fun j x hj=>?_) (by rw [hdl,hc];omega) h1d;rw [List.getElem?_drop] at hj;rw [Addr.add_lit];have:=hcell _ _ hj;unfold World.cell? at this ⊢;rw [hW];exact this)
    have CP2:=zH (fun (W:World) (hB:Box W g 194 C1) (hV:Box W vb 194 #[u]) ty dc (dL:Nat) (hdL:dL=n+1-i)=>show (Builtin.copy_ #[150,150] ty #[.slice (some ⟨g,i,none⟩) dL dc, .slice (some ⟨vb,0,none⟩) 1 1]).run Tryz.prog W = .ok (goInt [u].length) (W.setRow g (C1.toList.take i++[u]++C1.toList.drop (i + [u].length)).toArray) from
     run_copy_row Tryz.prog W _ _ ty 194 g i dL dc ⟨vb,0,none⟩ 1 1 C1 194 [u] Tryz.underlying150 zgF hB (Nat.min_eq_left (show 1≤dL by omega)).symm (fun j x hj=>by
      cases j with
      | zero=>simp only [List.getElem?_cons_zero] at hj;rw [←hj];exact hV.cell 0 rfl
      | succ j=>simp at hj) (by rw [hC1l];show i+1≤c;omega) (by simpa using hu))
    have FIN:=zH (show ((C1.toList.take i++[u]++C1.toList.drop (i + [u].length)).toArray).toList.take (xs.take i++u::xs.drop i).length=xs.take i++u::xs.drop i by
     have q1:(cur.toList.take (i+1)).length=i+1:=by rw [List.length_take,Array.length_toList,hc];omega
     have q2:C1.toList=cur.toList.take (i+1)++(xs.drop i++cur.toList.drop (i+1+(xs.drop i).length)):=(by rw [hC1,List.append_assoc]);have q3:C1.toList.take i=xs.take i:=by
      rw [q2,List.take_append_of_le_length (by omega),List.take_take,Nat.min_eq_left (by omega),←htk,List.take_take,Nat.min_eq_left (by omega)]
     have q4:C1.toList.drop (i + [u].length)=xs.drop i++cur.toList.drop (i+1+(xs.drop i).length):=by
      rw [q2,show i + [u].length=(cur.toList.take (i+1)).length from q1.symm,List.drop_left]
     rw [q3,q4];have q5:xs.take i++[u]++(xs.drop i++cur.toList.drop (i+1+(xs.drop i).length))=(xs.take i++u::xs.drop i)++cur.toList.drop (i+1+(xs.drop i).length):=(by simp);show List.take _ (xs.take i++[u]++(xs.drop i++cur.toList.drop (i+1+(xs.drop i).length)))=_;rw [q5,List.take_left])
    have LEN:=zH (show (xs.take i++u::xs.drop i).length=n+1 by simp only [List.length_append,List.length_take,List.length_cons,List.length_drop];omega);obtain ⟨C2,hC2⟩:∃ C2,C2=(C1.toList.take i++[u]++C1.toList.drop (i + [u].length)).toArray:=(⟨_,rfl⟩);have hC2l:C2.size=c:=by rw [hC2];simp [hC1l];omega
    rw [←hC2] at CP2 FIN;generalize xs.take i++u::xs.drop i=ys at *;have HB:=zH hbx;have HV:=zH hvb;have FL:=zH (And.intro hgl (And.intro hcm (And.intro hC2l hgv)));have hii:(m:Int)≤(n:Int)+1:=by omega
    have hii2:(i:Int)≤(n:Int)+1:=(by omega);have hic:¬ (c=i):=by omega
    have hic2:¬ (c=m):=(by omega);have HM1:=zH hm1;clear h hn hi h1 hne hvb hvs hbx hcell h1d htk hC1 hC1l hC2 hC2l hgl hgv hcm hc hm1;generalize (xs.drop i).length=dl at *;go_enter Tryz.func194,Tryz.ntmps194;go_wp2_with (simp only [HOV.out])
    have cp:=CP1.out w.drew rfl 3 (c-m) (c-i) (n+1-m) (by have:=HM1.out;omega) (n+1-i) rfl;go_region
    have cp2:=CP2.out (w.drew.setRow g C1) (zbU HB.out) ((show Box (w.drew.setRow g C1) vb 194 #[u] from (setRow_other w.drew g vb _ FL.out.2.2.2).trans HV.out)) 3 (c-i) (n+1-i) rfl;go_wp2;go_ret;have hB2:=zbU (cur':=C2) (zbU (cur':=C1) HB.out);refine ⟨_,rfl,?_,zbb (zeH w g C1) (zji _ g C2) (.inl rfl), .inl rfl⟩;have hq:=PRow.of_box (xs:=ys) hB2 (by rw [LEN.out,FL.out.2.2.1];omega) (by rw [FL.out.2.2.1];exact FL.out.2.1) FIN.out;rw [LEN.out,FL.out.2.2.1] at hq;exact hq
   ·obtain rfl:c=n:=(by omega);have hri:(c:Int)<(c:Int)+1:=by omega
    obtain ⟨m,hm1,hmw⟩:∃ m:Nat,m=i+1∧IntKind.i64.wrap ((i:Int)+1)=(m:Int):=(⟨i+1,rfl,IntWalk.i64_in _ (by omega)⟩);have hkk:IntKind.i64.wrap ((c:Int)+1-(i:Int))=((c+1-i:Nat):Int):=by rw [IntWalk.i64_in _ (by omega)];omega
    have hkk2:(c:Int)+1-(i:Int)=((c+1-i:Nat):Int):=(by omega);obtain ⟨k,hk⟩:∃ k,c+1-i=k:=⟨_,rfl⟩
    rw [hk] at hkk hkk2;obtain ⟨G,hG⟩:∃ G,grownCap w (c+1) c 194=G:=(⟨_,rfl⟩);have hG1:=grownCap_ge w (c+1) c 194;have hG2:=grownCap_le_maxLen w (c+1) c 194 (by unfold maxLen;omega);rw [hG] at hG1 hG2;obtain ⟨g1,hg1⟩:∃ g1,g1=w.heap.size:=⟨_,rfl⟩
    obtain ⟨C0,hC0⟩:∃ C0:Array Value,C0=(xs.take i).toArray++Builtin.zeroCells (Value.pointer none).cells k++Builtin.zeroCells (Value.pointer none).cells (G-(c+1)):=(⟨_,rfl⟩);have hC0l:C0.size=G:=by rw [hC0];simp [Builtin.zeroCells,Value.cells];omega
    have hC0t:C0.toList.take i=xs.take i:=by
     rw [hC0,Array.append_assoc,Array.toList_append,List.take_left' (by simp;omega)]
    obtain ⟨W1,hW1⟩:∃ W1,W1=w.drew.alloc (.cells C0 194):=(⟨_,rfl⟩);have AP:=zH (fun ty=>show (Builtin.append_ #[150,3] ty #[.slice (some ⟨g,0,none⟩) i c, .int .i64 (k:Int)]).run Tryz.prog w = .ok (.slice (some ⟨g1,0,none⟩) (c+1) G) W1 by
     have hold:(Builtin.firstCells i0.size i (.slice (some ⟨g,0,none⟩) i c)).run Tryz.prog w.drew = .ok (xs.take i).toArray w.drew:=by
      rw [hz1];exact run_firstCells_some w.drew 1 i ⟨g,0,none⟩ i c (xs.take i) (by rw [List.length_take];omega) (fun j x hj=>by
       rw [Addr.add_lit,Nat.zero_add];rw [List.getElem?_take] at hj;split at hj
       ·exact hcell j x hj
       ·cases hj)
     have h:=Lib.run_append_grow_zeros w 150 3 ty 194 i0 (.pointer none) .i64 .i64 Tryz.underlying150 Tryz.underlying3 hi0 hz0 (some ⟨g,0,none⟩) i c (xs.take i) hold k (by omega) (by omega) (by omega) (by omega) (by rw [hz2];omega) (by rw [hz2];exact growslice_fits (by omega) (by omega));rw [show i+k=c+1 by omega,hG] at h;rw [hW1,hC0,hg1];exact h)
    have hB1:Box W1 g1 194 C0:=by rw [hW1,hg1];exact Box.new w.drew _ _
    have hBg:Box W1 g 194 cur:=by rw [hW1];exact (Box.keep (w:=w.drew) hbx (zA _ _))
    have hBv:Box W1 vb 194 #[u]:=by rw [hW1];exact (Box.keep (w:=w.drew) hvb (zA _ _))
    have KW:=zH (show Keeps w W1 by rw [hW1];exact zK (zD w) (zA _ _));obtain ⟨C1,hC1⟩:∃ C1,C1=(C0.toList.take i++[u]++C0.toList.drop (i + [u].length)).toArray:=(⟨_,rfl⟩);have hC1l:C1.size=G:=by rw [hC1];simp [hC0l];omega
    have CP1:=zH (show (Builtin.copy_ #[150,150] 3 #[.slice (some ⟨g1,i,none⟩) (c+1-i) (G-i), .slice (some ⟨vb,0,none⟩) 1 1]).run Tryz.prog W1 = .ok (goInt [u].length) (W1.setRow g1 C1) by
     rw [hC1];exact run_copy_row Tryz.prog W1 _ _ _ 194 g1 i (c+1-i) (G-i) ⟨vb,0,none⟩ 1 1 C0 194 [u] Tryz.underlying150 zgF hB1 (Nat.min_eq_left (show 1≤c+1-i by omega)).symm (fun j x hj=>by
      cases j with
      | zero=>simp only [List.getElem?_cons_zero] at hj;rw [←hj];exact hBv.cell 0 rfl
      | succ j=>simp at hj) (by rw [hC0l];show i+1≤G;omega) (by simpa using hu))
    obtain ⟨W2,hW2⟩:∃ W2,W1.setRow g1 C1=W2:=(⟨_,rfl⟩);rw [hW2] at CP1;have hB2:Box W2 g1 194 C1:=by rw [←hW2];exact zbU hB1
    have hg2:Box W2 g 194 cur:=by rw [←hW2];exact (setRow_other W1 g1 g _ (by omega)).trans hBg
    obtain ⟨C2,hC2⟩:∃ C2,C2=(C1.toList.take m++xs.drop i++C1.toList.drop (m+(xs.drop i).length)).toArray:=(⟨_,rfl⟩);have hC2l:C2.size=G:=by rw [hC2];simp [hC1l];omega
    have CP2:=zH (show (Builtin.copy_ #[150,150] 3 #[.slice (some ⟨g1,m,none⟩) (c+1-m) (G-m), .slice (some ⟨g,i,none⟩) (c-i) (c-i)]).run Tryz.prog W2.drew = .ok (goInt (xs.drop i).length) (W2.drew.setRow g1 C2) by
     rw [hC2];refine run_copy_row Tryz.prog W2.drew _ _ _ 194 g1 m (c+1-m) (G-m) ⟨g,i,none⟩ (c-i) (c-i) C1 194 (xs.drop i) Tryz.underlying150 zgF hB2 (by rw [hdl];exact (Nat.min_eq_left (by omega)).symm) (fun j x hj=>?_) (by rw [hdl,hC1l];omega) h1d;rw [List.getElem?_drop] at hj;rw [Addr.add_lit];refine Box.cell (w:=W2.drew) hg2 _ ?_;rw [←htk,List.getElem?_take] at hj;split at hj
     ·simpa using hj
     ·cases hj)
    have LEN:=zH (show (xs.take i++u::xs.drop i).length=c+1 by simp only [List.length_append,List.length_take,List.length_cons,List.length_drop];omega);have FIN:=zH (show C2.toList.take (xs.take i++u::xs.drop i).length=xs.take i++u::xs.drop i by
     have q2:C1.toList=xs.take i++[u]++C0.toList.drop (i + [u].length):=(by rw [hC1,hC0t]);have q3:(xs.take i++[u]).length=m:=by rw [List.length_append,List.length_take];show min i xs.length+1=m;omega
     have q4:C1.toList.take m=xs.take i++[u]:=(by rw [q2,List.take_left' q3]);have q5:C2.toList=(xs.take i++u::xs.drop i)++C1.toList.drop (m+(xs.drop i).length):=by rw [hC2,q4];simp
     rw [q5,List.take_left])
    have GR:=zH (show ∀ r,w.grownBy (W2.drew.setRow g1 C2) r from fun r=>by
     have hsz:W2.drew.heap.size=W1.heap.size:=by rw [←hW2];simp [World.setRow]
     refine ⟨?_,?_,?_,?_,fun j hj _=>?_⟩
     ·rw [←hW2];exact KW.out.os
     ·rw [←hW2];exact KW.out.tape
     ·rw [←hW2];exact KW.out.output
     ·show w.heap.size≤(W2.drew.setRow g1 C2).heap.size;have:=KW.out.size;simp only [World.setRow,Array.size_modify];omega
     ·rw [setRow_other W2.drew g1 j _ (by omega)];show W2.heap[j]? = _;rw [←hW2,setRow_other W1 g1 j _ (by omega)];exact KW.out.block j hj)
    have FB:=zH (show Box (W2.drew.setRow g1 C2) g1 194 C2 from zbU (w:=W2.drew) hB2);have FL:=zH (And.intro hG1 (And.intro hG2 (And.intro hC2l hg1)));generalize xs.take i++u::xs.drop i=ys at *;have hGi:(G:Int)≤9223372036854775807:=by unfold maxLen at hG2;omega
    have hii:(m:Int)≤(c:Int)+1:=(by omega);have hii2:(i:Int)≤(c:Int)+1:=by omega
    have hic:¬ (c=i):=(by omega);have hic2:¬ (G=m):=by omega
    have hic3:¬ (G=i):=(by omega);have hkn:c+1-i=k:=hk;clear h hn hi h1 hne hvb hvs hbx hcell h1d htk hC1 hC1l hC2 hC2l hgl hgv hcm hc hC0 hC0l hC0t hB1 hBg hBv hB2 hg2 hW1 hW2 hG hG1 hG2 hg1;generalize (xs.drop i).length=dl at *;have cp1:=CP1.out;rw [hkn] at cp1;have cp2:=CP2.out;have cp3:=CP2.out;rw [hm1,show c+1-(i+1)=c-i by omega] at cp3;go_enter Tryz.func194,Tryz.ntmps194;go_wp2_with (at_builtin;refine zfG rfl _ _ _ _ rfl _ _ rfl rfl (AP.out _) ?_)
    go_region
    go_wp2;go_ret;refine ⟨_,rfl,?_,GR.out _, .inr (fun g' hg'=>?_)⟩
    ·have hq:=PRow.of_box (xs:=ys) FB.out (by rw [LEN.out,FL.out.2.2.1];exact FL.out.1) (by rw [FL.out.2.2.1];exact FL.out.2.1) FIN.out;rw [LEN.out,FL.out.2.2.1] at hq;exact hq
    ·obtain rfl:=Option.some.inj hg';rw [FL.out.2.2.2];exact Nat.le_refl _
theorem zlP (w:World) (v:Value) (xs:List Value) (i j:Nat) (h:PRow w v xs) (hj:j=i+1) (hi:i<xs.length) (hm:xs.length≤1000000000) (h1:∀ x∈xs,x.oneCell'=true) :
 Calls Tryz.prog 224 #[v, .int .i64 (i:Int), .int .i64 (j:Int)] w fun e w'=>∃ v',e = .returned v'∧PRow w' v' (xs.take i++xs.drop j)∧w.grownBy w' v.ownBlock∧v'.ownBlock=v.ownBlock:=by
 obtain ⟨i0,hi0,hz0,hz1,hz2⟩:=info_parts ze2;rcases h.form with ⟨rfl,rfl⟩|⟨g,cur,rfl,hbx,hnc,hcm,htk⟩
 ·simp at hi
 ·obtain ⟨m,hmn⟩:∃ m,xs.length=j+m:=(⟨xs.length-j,by omega⟩);obtain ⟨n,hn⟩:∃ n,n=xs.length:=⟨_,rfl⟩
  rw [←hn] at hnc htk hm hmn ⊢;obtain ⟨c,hc⟩:∃ c,cur.size=c:=(⟨_,rfl⟩);rw [hc] at hnc hcm ⊢;have hdl:(xs.drop j).length=m:=by rw [List.length_drop];omega
  have hcell:∀ k x,xs[k]? = some x→cur[k]? = some x:=fun k x hk=>by
   rw [←htk,List.getElem?_take] at hk;split at hk
   ·simpa using hk
   ·cases hk
  have h1d:∀ x∈xs.drop j,x.oneCell'=true:=(fun x hx=>h1 x (List.mem_of_mem_drop hx));obtain ⟨A,hA,hAr⟩:∃ A:Addr,(if c=j then (some ⟨g,0,none⟩:Option Addr) else some ⟨g,j,none⟩)=some A∧∀ k x,(xs.drop j)[k]? = some x→w.drew.cell? (A.add k)=some x:=by
   by_cases e:c=j
   ·refine ⟨⟨g,0,none⟩,by rw [if_pos e],fun k x hk=>?_⟩;have:=(zI9.1 hk).1;omega
   ·refine ⟨⟨g,j,none⟩,by rw [if_neg e],fun k x hk=>?_⟩;rw [List.getElem?_drop] at hk;rw [Addr.add_lit];exact Box.cell (w:=w.drew) hbx _ (hcell _ _ hk)
  obtain ⟨C1,hC1⟩:∃ C1,C1=(cur.toList.take (i*i0.size)++xs.drop j++cur.toList.drop (i*i0.size+(xs.drop j).length)).toArray:=(⟨_,rfl⟩);have hC1l:C1.size=c:=by rw [hC1,hz1];simp [hc];omega
  have AP:=zH (show ∀ ty,(Builtin.append_ #[150,150] ty #[.slice (some ⟨g,0,none⟩) i c, .slice (some A) m (c-j)]).run Tryz.prog w.drew = .ok (.slice (some ⟨g,0,none⟩) (i+m) c) (w.drew.setRow g C1) from fun ty=>by
   rw [hC1];exact run_append_room (P:=Tryz.prog) w.drew 150 ty 194 i0 Tryz.underlying150 hi0 g i c cur hbx A m (c-j) (xs.drop j) (by rw [hdl,hz1,Nat.mul_one]) hAr h1d (by omega) (by rw [hz1,Nat.mul_one,hdl,hc];omega))
  obtain ⟨q,hq⟩:∃ q,i+m=q:=(⟨_,rfl⟩);rw [hq] at AP;have hqn:q+1=n:=(by omega);have hB1:Box (w.drew.setRow g C1) g 194 C1:=zbU (w:=w.drew) hbx;have CL:=zH (show ∀ ty sc,(Builtin.clear_ #[150] ty #[.slice (some ⟨g,q,none⟩) (n-q) sc]).run Tryz.prog (w.drew.setRow g C1) = .ok (.tuple #[]) ((w.drew.setRow g C1).setCell ⟨g,q,none⟩ (.pointer none)) from fun ty sc=>by
   have h:=Lib.run_clear_slice (P:=Tryz.prog) (w.drew.setRow g C1) 150 194 ty (.pointer none) Tryz.underlying150 Tryz.zeroValue194 rfl rfl g q 1 sc (by decide) (fun k hk=>by
    obtain rfl:k=0:=(by omega);rw [Nat.add_zero,cell_of_row _ g q C1 194 (0,0) hB1,Array.getElem?_eq_getElem (by omega)];rfl) (fun k hk=>hB1.frozen _)
   rw [show n-q=1 by omega];exact h)
  have LEN:=zH (show (xs.take i++xs.drop j).length=q by simp only [List.length_append,List.length_take,List.length_drop];omega);have FIN:=zH (show (C1.setIfInBounds q (.pointer none)).toList.take (xs.take i++xs.drop j).length=xs.take i++xs.drop j by
   rw [LEN.out,Array.toList_setIfInBounds,List.take_set,List.set_eq_of_length_le (by rw [List.length_take];omega),hC1,hz1,Nat.mul_one];have q1:cur.toList.take i=xs.take i:=(by rw [←htk,List.take_take,Nat.min_eq_left (by omega)]);show List.take q (cur.toList.take i++xs.drop j++cur.toList.drop (i+(xs.drop j).length))=_;rw [q1,←LEN.out,List.take_left])
  have FB:=zH (hB1.set q (.pointer none));have FL:=zH (And.intro hcm hC1l);have HA:=zH hA;have HJ:=zH hj;have hij:(i:Int)≤(j:Int):=by omega
  have hjn:(j:Int)≤(n:Int):=(by omega);have hnci:(n:Int)≤(c:Int):=by omega
  have hni:(n:Int)≤1000000000:=(by omega);have hne:((i:Int) == (j:Int))=false:=by rw [beq_eq_false_iff_ne];omega
  have hic:¬ (c=i):=(by omega);have hqc:¬ (c=q):=by omega
  have hnni:¬ (n=i):=(by omega);have hicc:i≤c:=by omega
  have hqi:(q:Int)≤(n:Int):=(by omega);have hjm:n-j=m:=by omega
  have hil:(i:Int)≤(n:Int):=(by omega);have ap:=AP.out 150;have GR:=zH (show w.grownBy ((w.drew.setRow g C1).setCell ⟨g,q,none⟩ (.pointer none)) (some g) from zbb (zeH w g C1) ⟨rfl,rfl,rfl,by simp [World.setCell],fun k hk hne=>Below.heap_setCell _ _ _ _ (fun e=>hne (by rw [e]))⟩ (.inl rfl));generalize xs.take i++xs.drop j=ys at *;have hnq:n-q=1:=by omega
  rw [hnq] at CL;clear h hi h1 hbx htk hcell h1d hC1 hC1l hAr hB1 hcm hc hj hmn hn hq hqn hdl;by_cases e:c=j
  ·have ha:=HA.out;rw [if_pos e] at ha;obtain rfl:=Option.some.inj ha;clear ha hA;subst e;rw [Nat.sub_self] at ap;have AQ:=zH ap;clear ap;go_enter Tryz.func224,Tryz.ntmps224;go_wp2_with fail
   go_region_law (refine zhX rfl (.tmp 22) (.tmp 25) 150 150 rfl _ _ (by simp [Act.eval,Act.put]) (by simp [Act.eval,Act.put]) AQ.out ?_)
   have cl:=CL.out 0 (c-q);go_wp2;go_ret;have hz:=PRow.of_box (xs:=ys) FB.out (by rw [LEN.out];simp only [Array.size_setIfInBounds];rw [FL.out.2];omega) (by simp only [Array.size_setIfInBounds];rw [FL.out.2];exact FL.out.1) FIN.out;rw [LEN.out,Array.size_setIfInBounds,FL.out.2] at hz;exact ⟨_,rfl,hz,GR.out,rfl⟩
  ·have ha:=HA.out;rw [if_neg e] at ha;obtain rfl:=Option.some.inj ha;clear ha hA;go_enter Tryz.func224,Tryz.ntmps224;go_wp2_with fail
   have AQ:=zH ap;clear ap
   go_region_law (refine zhX rfl (.tmp 22) (.tmp 25) 150 150 rfl _ _ (by simp [Act.eval,Act.put]) (by simp [Act.eval,Act.put]) AQ.out ?_)
   have cl:=CL.out 0 (c-q);go_wp2;go_ret;have hz:=PRow.of_box (xs:=ys) FB.out (by rw [LEN.out];simp only [Array.size_setIfInBounds];rw [FL.out.2];omega) (by simp only [Array.size_setIfInBounds];rw [FL.out.2];exact FL.out.1) FIN.out;rw [LEN.out,Array.size_setIfInBounds,FL.out.2] at hz;exact ⟨_,rfl,hz,GR.out,rfl⟩
theorem zgG (A:Option Addr) (n c:Nat) (xs:List Value) (w:World) (hB:At w w.heap.size A xs) (hn:n=xs.length) (h0:A=none→c=0) (hmax:n≤1000000000) (h1:∀ x∈xs,x.oneCell'=true) :
 Calls Tryz.prog 164 #[.slice A n c] w fun e w'=>∃ v,e = .returned v∧Own w' w.heap.size 194 1 v n xs∧Keeps w w':=by
 obtain ⟨i0,hi,hz0,hz1,hz2⟩:=info_parts ze2;have heq:=fun (a:Option Addr) (n c:Nat) (w:World)=>Lib.run_eql_slice_nil (P:=Tryz.prog) w 150 194 a n c 0 0 Tryz.underlying150
 cases A with
 | none=>
  have hl:xs=[]:=by
   rcases hB with h1|⟨ad,h1,_⟩
   ·exact h1
   ·cases h1
  subst hl;have hz:n=0:=by simpa using hn
  have hz2:c=0:=h0 rfl;subst hz;subst hz2;clear hB h0 hmax hn hz0 hz1 hi h1;go_enter Tryz.func164,Tryz.ntmps164;go_wp2;go_ret;exact ⟨_,rfl,Own.nil _ _ _ _,zab _⟩
 | some ad=>
  have HN:=zH hn;have k0:=zA w (.cells #[] 194);have hB2:=zH ((hB.keep k0).more k0.size);have O0:=zH (show Own (w.alloc (.cells #[] 194)) w.heap.size 194 1 (.slice (some ⟨w.heap.size,0,none⟩) 0 0) 0 [] from ⟨rfl, .inr ⟨w.heap.size,0,#[],(0,0),rfl,Nat.le_refl _,heap_alloc_new w _, .inl rfl,Nat.le_refl _,by simp [maxLen],rfl,rfl⟩⟩);have HMX:=zH hmax;have H1:=zH h1;clear hn hB h0 hmax h1;go_enter Tryz.func164,Tryz.ntmps164;go_wp2_with (at_builtin;refine zaj _ rfl _ _ 150 rfl w.heap.size 194 i0 (.pointer none) 1 8 Tryz.underlying150 hi hz0 hz1 hz2 rfl (by decide) _ 0 [] rfl O0.out _ (some ad) n c xs rfl (by rw [HN.out,Nat.mul_one]) hB2.out H1.out (by have:=HMX.out;unfold maxLen;omega) (by have:=HMX.out;omega) (by simp) ?_;intro v2 w2 hown2 hgrow2 hblk2)
  have k2:Keeps w w2:=Below.grown k0 hgrow2 k0.size (fun g hg=>(O0.out.lt g hg).1);have HO:=zH (show Own w2 w.heap.size 194 1 v2 n xs by have:=hown2;simpa using this);clear hown2 hgrow2 hblk2;go_wp2;go_ret;exact ⟨_,rfl,HO.out,k2⟩
def ptrO:Option Nat→Value
 | some b=>.pointer (some ⟨b,0,none⟩)
 | none=>.pointer none
theorem zfH (w:World) (q:Option Addr):(binOp .eql 194 (.pointer none) (.pointer q)).run Tryz.prog w = .ok (.bool q.isNone) w:=by
 have hu:=Tryz.underlying194;have h:∀ d:Nat,(Op.equalIn (d+1) 194 (.pointer none) (.pointer q)).run Tryz.prog w = .ok q.isNone w:=fun d=>by
  cases q<;>simp [Op.equalIn,run_underlying hu]
 simp only [binOp];simp [Op.equal,Op.maxDepth,h 9999]
theorem zjj (A:Option Addr) (n c:Nat) (ps:List (Option Nat)) (w:World) (hB:At w w.heap.size A (ps.map ptrO)) (hn:n=ps.length) (hm:n≤1000000000) (he:∃ o∈ps,o.isNone=true) :
 Calls Tryz.prog 211 #[.slice A n c, .pointer none] w fun e w'=>e = .returned (.int .i64 (ps.findIdx (·.isNone):Int))∧w=w':=by
 obtain ⟨x,hx⟩:∃ x,ps.findIdx (·.isNone)=x:=⟨_,rfl⟩
 rw [hx];have HX:=zH hx;have HN:=zH hn;have XN:=zH (show x<n by rw [←hx,hn];exact List.findIdx_lt_length_of_exists he);have XB:=zH (show ∀ j,j<x→∃ b,ps[j]? = some (some b) from fun j hj=>by
  have h1:j<ps.length:=by have:=XN.out;omega
  have h2:=List.not_of_lt_findIdx (p:=fun o:Option Nat=>o.isNone) (xs:=ps) (i:=j) (by rw [hx];exact hj);rw [zG9 h1];cases e:ps[j] with
  | none=>rw [e] at h2;simp at h2
  | some b=>exact ⟨b,rfl⟩)
 have XE:=zH (show ps[x]? = some none by
  have h1:x<ps.length:=by have:=XN.out;omega
  have h2:=List.findIdx_getElem (p:=fun o:Option Nat=>o.isNone) (xs:=ps) (w:=by rw [hx];exact h1);rw [zG9 h1];congr 1
  exact Option.isNone_iff_eq_none.1 (by simpa [hx] using h2))
 have GET:=zH (show ∀ m o,ps[m]? = some o→∃ ad,A=some ad∧w.cell? (ad.add m)=some (ptrO o) from fun m o hmo=>by
  obtain ⟨ad,e,-,hc⟩:=At.get hB (k:=m) (by rw [List.length_map];exact (zI9.1 hmo).1);exact ⟨ad,e,by rw [hc,List.getElem?_map,hmo];rfl⟩)
 have hni:(n:Int)≤1000000000:=by omega
 clear hx hB hn he;go_enter Tryz.func211,Tryz.ntmps211;go_wp2;go_loopw [8] (fun i wr=>∃ j:Nat,i = .int .i64 j∧Hid (j≤x)∧wr=w) (fun i _=>n-(intOf i).toNat)
 case atStart=>exact ⟨0,rfl,zH (Nat.zero_le _),rfl⟩
 case round=>
  obtain ⟨j,rfl,hj,rfl⟩:=hrel;have hjn:j<n:=by have:=hj.out;have:=XN.out;omega
  have hjni:(j:Int)<(n:Int):=by omega
  rcases Nat.lt_or_ge j x with hlt|hge
  ·obtain ⟨b,hb⟩:=XB.out j hlt;obtain ⟨ad,rfl,hc⟩:=GET.out j _ hb;unfold ptrO at hc;have NX:=zH (show j+1≤x from hlt);have e1:=zfH wr (some ⟨b,0,none⟩);clear hlt hb;go_wp2;go_roundw
   case rel=>exact ⟨j+1,by go_num,NX,trivial⟩
   case measure=>simp [intOf];omega
  ·obtain rfl:j=x:=by have:=hj.out;omega
   obtain ⟨ad,rfl,hc⟩:=GET.out j _ XE.out;unfold ptrO at hc;have e1:=zfH wr none;clear hge;go_wp2;go_ret;exact ⟨rfl,rfl⟩
end Go.Proofs.YtjpldnjldindkaaGreatDoor
