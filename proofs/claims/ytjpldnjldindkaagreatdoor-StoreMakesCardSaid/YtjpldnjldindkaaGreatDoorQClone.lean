/- What bytes.Clone answers. -/
import Derived.Test.YtjpldnjldindkaaGreatDoorQBase
import Derived.Test.YtjpldnjldindkaaGreatDoorProg
import Derived.Deep.RegionLaw
set_option linter.all false
set_option maxHeartbeats 0
set_option maxRecDepth 100000
namespace Go.Proofs.YtjpldnjldindkaaGreatDoor
open Go.RowKit
theorem zph:(Tryz.prog.info? 5).map (fun i=>(i.zero,i.size,i.bytes))=some (some (.int .u8 0),1,1):=by kernel_rfl
theorem zbN (A:Option Addr) (n c:Nat) (l:List UInt8) (w:World) (hB:Bs w A l) (hn:n=l.length) (h0:A=none→c=0) (hmax:n≤20000000) :
 Calls Tryz.prog 32 #[.slice A n c] w fun e w'=>∃ v,e = .returned v∧Own w' w.heap.size 5 1 v l.length (cel l)∧Keeps w w':=by
 obtain ⟨i0,hi,hz0,hz1,hz2⟩:=info_parts zph;have heq:=fun (a:Option Addr) (n c:Nat) (w:World)=>Lib.run_eql_slice_nil (P:=Tryz.prog) w 39 5 a n c 0 0 Tryz.underlying39
 cases A with
 | none=>
  have hl:l=[]:=by
   rcases hB with h1|⟨ad,h1,_⟩
   ·cases l with
    | nil=>rfl
    | cons=>simp [cel] at h1
   ·cases h1
  subst hl;have hz:n=0:=by simpa using hn
  have hz2:c=0:=h0 rfl;subst hz;subst hz2;clear hB h0 hmax hn hz0 hz1 hi;go_enter Tryz.func32,Tryz.ntmps32;go_wp2;go_ret;exact ⟨_,rfl,Own.nil _ _ _ _,zab _⟩
 | some ad=>
  have HN:=zH hn;have k0:=zA w (.cells #[] 5);have hB2:=zH (hB.keep k0);have O0:=zH (show Own (w.alloc (.cells #[] 5)) w.heap.size 5 1 (.slice (some ⟨w.heap.size,0,none⟩) 0 0) 0 [] from ⟨rfl, .inr ⟨w.heap.size,0,#[],(0,0),rfl,Nat.le_refl _,heap_alloc_new w _, .inl rfl,Nat.le_refl _,by simp [maxLen],rfl,rfl⟩⟩);have HMX:=zH hmax;clear hn hB h0 hmax;go_enter Tryz.func32,Tryz.ntmps32;go_wp2_with (at_builtin;refine zaj _ rfl _ _ 39 rfl w.heap.size 5 i0 (.int .u8 0) 1 1 Tryz.underlying39 hi hz0 hz1 hz2 rfl (by decide) _ 0 [] rfl O0.out _ (some ad) n c (cel l) rfl (by rw [zaq,HN.out,Nat.mul_one]) hB2.out (za3 l) (by have:=HMX.out;unfold maxLen;omega) (by have:=HMX.out;omega) (by simp) ?_;intro v2 w2 hown2 hgrow2 hblk2)
  have k2:Keeps w w2:=Below.grown k0 hgrow2 k0.size (fun g hg=>(O0.out.lt g hg).1);have HO:=zH (show Own w2 w.heap.size 5 1 v2 l.length (cel l) by have:=hown2;rw [HN.out] at this;simpa using this);clear hown2 hgrow2 hblk2;go_wp2;go_ret;exact ⟨_,rfl,HO.out,k2⟩
def zbf (xs:List Value) (off:Nat) (ys:List Value):List Value:=xs.take off++ys++xs.drop (off+ys.length)
theorem zjk (w:World) (g:Nat) (cs:Array Value):w.grownBy (w.setRow g cs) (some g):=⟨rfl,rfl,rfl,by simp,fun k _ hk=>setRow_other w g k _ (fun e=>hk (by simp [e]))⟩
section
variable {P:Program} (w:World)
theorem zna (base:Nat) (t ty e:TypeId) (i:TypeInfo) (ht:P.underlying t=some (.slice e)) (hi:P.info? e=some i) (hsize:i.size=1)
 (A:Option Addr) (n cap:Nat) (xs:List Value) (hown:Own w base e 1 (.slice A n cap) n xs) (off dn dc:Nat) (hoff:off+dn≤n)
 (B:Option Addr) (m c:Nat) (news:List Value) (hm:news.length=m) (hr:At w w.heap.size B news) (h1:∀ u∈news,u.oneCell'=true) :
 ∃ w',(Builtin.copy_ #[t,t] ty #[.slice (dropA A cap off) dn dc, .slice B m c]).run P w = .ok (.int .i64 ((min m dn:Nat):Int)) w'∧Own w' base e 1 (.slice A n cap) n (zbf xs off (news.take (min m dn)))∧w.grownBy w' (Value.slice A n cap).ownBlock:=by
 have hlen:(news.take (min m dn)).length=min m dn:=by rw [List.length_take,hm];omega
 have hf:∀ j v,(news.take (min m dn))[j]? = some v→∀ ad,B=some ad→w.cell? (ad.add j)=some v:=by
  intro j v hv ad hB;rcases hr with hr|⟨ad',e',_,hc⟩
  ·rw [hr] at hv;simp at hv
  ·rw [hB] at e';obtain rfl:=Option.some.inj e';rw [List.getElem?_take] at hv;split at hv
   ·exact hc j v hv
   ·cases hv
 have hfc:(Builtin.firstCells 1 (min m dn) (.slice B m c)).run P w = .ok (news.take (min m dn)).toArray w:=by
  cases B with
  | none=>
   have:news=[]:=by
    rcases hr with hr|⟨ad',e',_⟩
    ·exact hr
    ·cases e'
   simp [Builtin.firstCells,this]
  | some ad=>exact run_firstCells_some (P:=P) w 1 (min m dn) ad m c _ (by rw [hlen];omega) (fun j v hv=>hf j v hv ad rfl)
 rcases hown.2 with ⟨hv,h0⟩|⟨g,cap',cur,fz,hv,hbg,hg,hfz,hnc,hcm,hcs,htake⟩
 ·injection hv with hA hn hc;subst hA;subst hc;subst hn;obtain ⟨rfl,rfl⟩:off=0∧dn=0:=(by omega);have hx:xs=[]:=List.eq_nil_of_length_eq_zero (by simpa using hown.1);subst hx;have hd:dropA (none:Option Addr) 0 0=none:=rfl;rw [hd];simp only [Nat.min_zero,List.take_zero] at hfc ⊢;refine ⟨w,?_,by simpa [zbf] using hown,World.grownBy.refl w _⟩;simp [Builtin.copy_,run_underlying ht,sizeOf,typeInfo,hi,hsize,Builtin.lenOf,hfc,goInt]
 ·injection hv with hA hn hc;subst hA;subst hc;have hlx:=hown.1;by_cases hz:dn=0
  ·subst hz;simp only [Nat.min_zero,List.take_zero] at hfc ⊢;have hst:∀ d:Option Addr,(Builtin.copy_ #[t,t] ty #[.slice d 0 dc, .slice B m c]).run P w = .ok (.int .i64 ((0:Nat):Int)) w:=by
    intro d;have e0:Nat.min m 0=0:=Nat.min_zero m;cases d<;>simp [Builtin.copy_,run_underlying ht,sizeOf,typeInfo,hi,hsize,Builtin.lenOf,e0,hfc,goInt,storeCells]
   exact ⟨w,hst _,by simpa [zbf] using hown,World.grownBy.refl w _⟩
  ·have hd:dropA (some ⟨g,0,none⟩) cap off=some ⟨g,off,none⟩:=by
    unfold dropA;rw [if_neg (by omega)];simp [Addr.add_lit]
   rw [hd];have hst:=zcx P g off e fz (news.take (min m dn)) 0 cur w hg hfz (by rw [hlen,hcs];omega) (fun u hu=>h1 u (List.mem_of_mem_take hu));simp only [Nat.add_zero] at hst;have e0:Nat.min m dn=min m dn:=rfl;refine ⟨w.setRow g (cur.toList.take off++news.take (min m dn)++cur.toList.drop (off+(news.take (min m dn)).length)).toArray,?_,⟨?_, .inr ⟨g,cap,_,fz,rfl,hbg,setRow_heap w g cur _ e _ hg,?_,hnc,hcm,?_,?_⟩⟩,zjk w g _⟩
   ·simp [Builtin.copy_,run_underlying ht,sizeOf,typeInfo,hi,hsize,Builtin.lenOf,e0,hfc,goInt,hst]
   ·unfold zbf;rw [List.length_append,List.length_append,List.length_take,List.length_drop,hlen];omega
   ·rcases hfz with h|h
    ·exact .inl h
    ·right;simp only [List.size_toArray,List.length_append,List.length_take,List.length_drop,Array.length_toList];omega
   ·simp only [List.size_toArray,List.length_append,List.length_take,List.length_drop,Array.length_toList];omega
   ·rw [Nat.mul_one] at htake hcs hlx ⊢;rw [←htake];unfold zbf;rw [hlen];have e1:(cur.toList.take off).length=off:=by rw [List.length_take,Array.length_toList];omega
    have e2:(cur.toList.take off++news.take (min m dn)).length=off+min m dn:=(by rw [List.length_append,e1,hlen]);have e3:(cur.toList.take n).take off=cur.toList.take off:=by rw [List.take_take,Nat.min_eq_left (by omega)]
    rw [show (cur.toList.take off++news.take (min m dn)++cur.toList.drop (off+min m dn)).toArray.toList=cur.toList.take off++news.take (min m dn)++cur.toList.drop (off+min m dn) from rfl,List.take_append,e2,List.take_of_length_le (by rw [e2];omega),e3,List.drop_take]
theorem zdv {ops:Array Oper} {rest:List Oper} {o:Oper} {a:Act} {Q:Exit→Act→World→Prop} (hgd:o.guard=none) (d s:Operand) (t:TypeId)
 (ho:o.op = .call {callee:=.builtin .copy,args:=#[d,s],argTypes:=#[t,t]})
 (base:Nat) (e:TypeId) (i:TypeInfo) (ht:P.underlying t=some (.slice e)) (hi:P.info? e=some i) (hsize:i.size=1)
 (A:Option Addr) (n cap:Nat) (xs:List Value) (hown:Own w base e 1 (.slice A n cap) n xs) (off dn dc:Nat) (hd:a.eval d = .slice (dropA A cap off) dn dc) (hoff:off+dn≤n)
 (B:Option Addr) (m c:Nat) (news:List Value) (hs:a.eval s = .slice B m c) (hm:news.length=m) (hr:At w w.heap.size B news) (h1:∀ u∈news,u.oneCell'=true)
 (h:∀ w',Own w' base e 1 (.slice A n cap) n (zbf xs off (news.take (min m dn)))→w.grownBy w' (Value.slice A n cap).ownBlock→wpList P ops Q rest (a.put o.dst (.int .i64 ((min m dn:Nat):Int))) w'):wpList P ops Q (o::rest) a w:=by
 refine wpList_plain hgd fun K' hK=>?_
 obtain ⟨w',hrun,h2,h3⟩:=zna (P:=P) w base t o.type e i ht hi hsize A n cap xs hown off dn dc hoff B m c news hm hr h1;unfold Oper.wp execOp;simp only [ho,resolve,invoke,builtin,Sem.run_bind,Sem.run_pure,Result.andThen_ok,List.map_toArray,List.map_cons,List.map_nil,hd,hs,hrun];exact hK _ _ (h w' h2 h3)
end
end Go.Proofs.YtjpldnjldindkaaGreatDoor
