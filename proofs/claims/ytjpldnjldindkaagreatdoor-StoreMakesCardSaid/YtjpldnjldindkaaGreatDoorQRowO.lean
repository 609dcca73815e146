/- A row of one's own of which the slice may begin behind its first cell (elements of one cell): append, cut. -/
import Derived.Test.YtjpldnjldindkaaGreatDoorQPoolFull
import Derived.Test.YtjpldnjldindkaaGreatDoorQEdges
import Derived.Deep.LoopGhost
import Derived.Deep.Light
set_option linter.all false
set_option maxHeartbeats 0
set_option maxRecDepth 100000
namespace Go.Proofs.YtjpldnjldindkaaGreatDoor
open Go.RowKit
def RowO (w:World) (base:Nat) (e:TypeId) (v:Value) (n:Nat) (xs:List Value):Prop:=
 xs.length=n∧∃ A cap,v = .slice A n cap∧n≤cap∧cap≤maxLen∧((A=none∧cap=0)∨
  ∃ g off cur fz,A=some ⟨g,off,none⟩∧base≤g∧w.heap[g]? = some (.cells cur e fz)∧(fz.2=0∨cur.size≤fz.1)∧(cap=0∨cur.size=off+cap)∧(cur.toList.drop off).take n=xs)
section
variable {w w':World} {base n:Nat} {e:TypeId} {v:Value} {xs:List Value}
theorem RowO.nil (w:World) (base:Nat) (e:TypeId):RowO w base e (.slice none 0 0) 0 []:=⟨rfl,none,0,rfl,Nat.le_refl _,by simp [maxLen], .inl ⟨rfl,rfl⟩⟩
theorem RowO.lt (h:RowO w base e v n xs):∀ k,v.ownBlock=some k→base≤k∧k<w.heap.size:=by
 intro k hk;obtain ⟨-,A,cap,rfl,-,-,⟨rfl,rfl⟩|⟨g,off,cur,fz,rfl,hb,hg,-⟩⟩:=h
 ·simp [Value.ownBlock] at hk
 ·simp only [Value.ownBlock,Option.some.injEq] at hk;subst hk;exact ⟨hb,(zJ9.1 hg).1⟩
theorem RowO.same (h:RowO w base e v n xs) (hk:∀ k,v.ownBlock=some k→w'.heap[k]? = w.heap[k]?):RowO w' base e v n xs:=by
 obtain ⟨h0,A,cap,rfl,h1,h2,h3⟩:=h;refine ⟨h0,A,cap,rfl,h1,h2,h3.imp id ?_⟩;rintro ⟨g,off,cur,fz,rfl,hbg,hg,r⟩;exact ⟨g,off,cur,fz,rfl,hbg,(hk g rfl).trans hg,r⟩
theorem RowO.keep (h:RowO w base e v n xs) (k:Keeps w w'):RowO w' base e v n xs:=h.same fun g hg=>k.block g (h.lt g hg).2
theorem RowO.form (h:RowO w base e v n xs):∃ A cap,v = .slice A n cap∧n≤cap∧cap≤maxLen∧(A=none→n=0∧cap=0)∧(∀ ad,A=some ad→v.ownBlock=some ad.block∧base≤ad.block∧ad.block<w.heap.size):=by
 have hl:=h.lt;obtain ⟨h0,A,cap,rfl,h1,h2,⟨rfl,rfl⟩|⟨g,off,cur,fz,rfl,hb,hg,-⟩⟩:=h
 ·exact ⟨none,0,rfl,h1,h2,fun _=>⟨by omega,rfl⟩,fun _ h=>by cases h⟩
 ·exact ⟨_,cap,rfl,h1,h2,fun h=>(by cases h),fun ad h=>by cases h;exact ⟨rfl,hl _ rfl⟩⟩
theorem RowO.at_ {A:Option Addr} {cap:Nat} (h:RowO w base e (.slice A n cap) n xs):At w w.heap.size A xs:=by
 obtain ⟨h0,A',cap',hv,h1,h2,⟨rfl,rfl⟩|⟨g,off,cur,fz,rfl,hb,hg,hz,hc,ht⟩⟩:=h
 ·left;exact List.eq_nil_of_length_eq_zero (by omega)
 ·injection hv with hA hn hcap;subst hA;right;refine ⟨_,rfl,(zJ9.1 hg).1,fun j u hu=>?_⟩;rw [Addr.add_lit,cell_of_row w g _ cur e fz hg];rw [←ht,List.getElem?_take] at hu;split at hu
  ·rw [List.getElem?_drop] at hu;simpa using hu
  ·cases hu
theorem RowO.drop {A:Option Addr} {cap k:Nat} (h:RowO w base e (.slice A n cap) n xs) (hk:k≤n):RowO w base e (.slice (if cap=k then A else A.map fun a=>a.add k) (n-k) (cap-k)) (n-k) (xs.drop k):=by
 obtain ⟨h0,A',cap',hv,h1,h2,h3⟩:=h;injection hv with hA hn hcap;subst hA;subst hcap;refine ⟨by rw [List.length_drop,h0],_,_,rfl,by omega,by omega,?_⟩;rcases h3 with ⟨rfl,rfl⟩|⟨g,off,cur,fz,rfl,hb,hg,hz,hc,ht⟩
 ·exact .inl ⟨by simp,by omega⟩
 ·right;by_cases e0:cap=k
  ·refine ⟨g,off,cur,fz,by rw [if_pos e0],hb,hg,hz, .inl (by omega),?_⟩;have hn0:n-k=0:=(by omega);rw [hn0,List.take_zero];exact (List.eq_nil_of_length_eq_zero (by rw [List.length_drop,h0];omega)).symm
  ·refine ⟨g,off+k,cur,fz,by rw [if_neg e0]; simp [Addr.add_lit],hb,hg,hz, .inr (by rcases hc with hc|hc<;>omega),?_⟩;rw [←ht,List.drop_take,List.drop_drop]
theorem RowO.take {A:Option Addr} {cap k:Nat} (h:RowO w base e (.slice A n cap) n xs) (hk:k≤n):RowO w base e (.slice A k cap) k (xs.take k):=by
 obtain ⟨h0,A',cap',hv,h1,h2,h3⟩:=h;injection hv with hA hn hcap;subst hA;subst hcap;refine ⟨by rw [List.length_take,h0];omega,A,cap,rfl,by omega,h2,h3.imp id ?_⟩;rintro ⟨g,off,cur,fz,rfl,hb,hg,hz,hc,ht⟩;exact ⟨g,off,cur,fz,rfl,hb,hg,hz,hc,by rw [←ht,List.take_take,Nat.min_eq_left hk]⟩
end
section
variable {P:Program} {w:World}
theorem znX (t e:TypeId) (ht:P.underlying t=some (.slice e)) (he:(P.info? e).map (·.size)=some 1) (A:Option Addr) (n c k:Nat) (hk:k≤n) (w:World) :
 (Instr.sliceAt t (.slice A n c) (some (.int .i64 (k:Int))) none none).run P w = .ok (.slice (if c=k then A else A.map fun a=>a.add k) (n-k) (c-k)) w:=by
 have he':P.elem t=e:=by simp [Program.elem,ht]
 have ht':P.underlying t=some (.slice (P.elem t)):=by rw [he'];exact ht
 obtain ⟨i,hi,hs⟩:=Option.map_eq_some_iff.1 he;rw [run_sliceAt_slice (h:=ht'),run_slice_l (ht:=ht') (h0:=by omega) (h1:=by omega)];rw [he'];cases A<;>simp [sizeOf,typeInfo,hi,hs,sliced]
theorem zqa (base:Nat) (t ty e:TypeId) (i:TypeInfo) (z:Value) (bytes:Nat) (ht:P.underlying t=some (.slice e)) (hi:P.info? e=some i) (hz:i.zero=some z)
 (hsize:i.size=1) (hby:i.bytes=bytes) (hzs:z.cells.size=1)
 (v:Value) (n:Nat) (xs:List Value) (hown:RowO w base e v n xs)
 (B:Nat) (A:Option Addr) (m c:Nat) (news:List Value) (hm:news.length=m) (hr:At w B A news) (h1:∀ u∈news,u.oneCell'=true) (hpos:0<m)
 (h63:n+m≤maxLen) (hbytes:(n+m)*bytes≤140737488355328) (hbase:base≤w.heap.size) :
 ∃ v' w',(Builtin.append_ #[t,t] ty #[v, .slice A m c]).run P w = .ok v' w'∧RowO w' base e v' (n+m) (xs++news)∧w.grownBy w' v.ownBlock∧
  (v'.ownBlock=v.ownBlock∨v'.ownBlock=some w.heap.size):=by
 have hm1:news.length=m*i.size:=by rw [hsize,hm,Nat.mul_one]
 have hx1:xs.length=n*i.size:=by rw [hsize,hown.1,Nat.mul_one]
 have hpos1:0<i.size:=by omega
 have hbytes1:(n+m)*i.bytes≤140737488355328:=by rw [hby];exact hbytes
 obtain ⟨ad,rfl,hnews⟩:∃ ad,A=some ad∧∀ j u,news[j]? = some u→w.cell? (ad.add j)=some u:=by
  rcases hr with hr|⟨ad,e,_,hc⟩
  ·subst hr;simp at hm;omega
  ·exact ⟨ad,e,hc⟩
 have hsmall:n+m≤9223372036854775807:=by simp only [maxLen] at h63;omega
 have hlen:(xs++news).length=n+m:=by rw [List.length_append,hown.1,hm]
 have made:∀ (old:Nat),∀ (row:Option Nat),
  RowO (w.drew.alloc (.cells (xs.toArray++news.toArray++Builtin.zeroCells z.cells (grownCap w (n+m) old e-(n+m))) e)) base e
   (.slice (some ⟨w.heap.size,0,none⟩) (n+m) (grownCap w (n+m) old e)) (n+m) (xs++news)∧
  w.grownBy (w.drew.alloc (.cells (xs.toArray++news.toArray++Builtin.zeroCells z.cells (grownCap w (n+m) old e-(n+m))) e)) row:=by
  intro old row;have hge:=grownCap_ge w (n+m) old e;have hcm:grownCap w (n+m) old e≤maxLen:=grownCap_le_maxLen w (n+m) old e h63;refine ⟨⟨hlen,_,_,rfl,hge,hcm, .inr ⟨w.heap.size,0,_,_,rfl,hbase,heap_alloc_new w.drew _, .inl rfl, .inr ?_,?_⟩⟩,⟨rfl,rfl,rfl,by simp,fun k hk _=>_root_.Go.heap_alloc_old w.drew _ hk⟩⟩
  ·simp only [Array.size_append,List.size_toArray,size_zeroCells,hzs,hown.1,hm];omega
  ·simp only [Array.toList_append,List.append_assoc,List.drop_zero];rw [←List.append_assoc,←hlen];exact List.take_left
 have hat:=hown.form;obtain ⟨h0,Av,cap,rfl,hnc,hcm,⟨rfl,rfl⟩|⟨g,off,cur,fz,rfl,hbg,hg,hfz,hcs,htake⟩⟩:=hown
 ·obtain rfl:n=0:=(by omega);have hx:xs=[]:=List.eq_nil_of_length_eq_zero h0;subst hx;have hrun:=run_append_nil (P:=P) w t ty e i z ht hi hz ad m c news hm1 hnews hpos (by omega) (by have hb:=hbytes1;simp only [Nat.zero_add] at hb;omega);have hgr:=made 0 (Value.ownBlock (.slice none 0 0));simp only [Nat.zero_add,List.nil_append,Array.empty_append] at hgr ⊢;exact ⟨_,_,hrun,hgr.1,hgr.2, .inr rfl⟩
 ·by_cases hroom:n+m≤cap
  ·have hcs:cur.size=off+cap:=hcs.resolve_left (by omega);have hfit:off+n+news.length≤cur.size:=(by omega);have hf:=run_firstCells_some (P:=P) w i.size m ad m c news hm1 hnews;rw [hsize] at hf;have hst:=zcx P g (off+n) e fz news 0 cur w hg hfz (by simpa using hfit) h1;simp only [Nat.add_zero] at hst;have hrun:(Builtin.append_ #[t,t] ty #[.slice (some ⟨g,off,none⟩) n cap, .slice (some ad) m c]).run P w =
    .ok (.slice (some ⟨g,off,none⟩) (n+m) cap) (w.setRow g (cur.toList.take (off+n)++news++cur.toList.drop (off+n+news.length)).toArray):=by
    simp [Builtin.append_,run_underlying ht,sizeOf,typeInfo,hi,Builtin.lenOf,hroom,hf,Addr.add_lit,hsize,hst]
   refine ⟨_,_,hrun,?_,?_, .inl rfl⟩
   ·refine ⟨hlen,_,cap,rfl,hroom,hcm, .inr ⟨g,off,_,fz,rfl,hbg,setRow_heap w g cur _ e _ hg,?_, .inr ?_,?_⟩⟩
    ·rcases hfz with h|h
     ·exact .inl h
     ·right;simp only [List.size_toArray,List.length_append,List.length_take,List.length_drop,Array.length_toList];omega
    ·simp only [List.size_toArray,List.length_append,List.length_take,List.length_drop,Array.length_toList];omega
    ·have hl1:off≤(cur.toList.take (off+n)).length:=by rw [List.length_take,Array.length_toList];omega
     rw [List.append_assoc,List.drop_append_of_le_length hl1,List.drop_take,show off+n-off=n by omega,htake,←List.append_assoc,←hlen];exact List.take_left
   ·exact ⟨rfl,rfl,rfl,by simp,fun k _ hk=>setRow_other w g k _ (fun e=>hk (by simp [Value.ownBlock,e]))⟩
  ·have holds:∀ j u,xs[j]? = some u→w.cell? ((⟨g,off,none⟩:Addr).add j)=some u:=by
    intro j u hu;rw [Addr.add_lit,cell_of_row w g _ cur e fz hg];rw [←htake,List.getElem?_take] at hu;split at hu
    ·rw [List.getElem?_drop] at hu;simpa using hu
    ·cases hu
   have hrun:=run_append_grow (P:=P) w t ty e i z ht hi hz ⟨g,off,none⟩ n cap xs hx1 holds ad m c news hm1 hnews (by omega) (by omega) (growslice_fits (by omega) hbytes1);have hgr:=made cap (Value.ownBlock (.slice (some ⟨g,off,none⟩) n cap));exact ⟨_,_,hrun,hgr.1,hgr.2, .inr rfl⟩
theorem zru {o:Oper} {a:Act} {K:Act→World→Prop} {Q:Exit→Act→World→Prop} (s x:Operand) (t:TypeId)
 (ho:o.op = .call {callee:=.builtin .append,args:=#[s,x],argTypes:=#[t,t]})
 (base:Nat) (e:TypeId) (i:TypeInfo) (z:Value) (bytes:Nat) (ht:P.underlying t=some (.slice e)) (hi:P.info? e=some i) (hz:i.zero=some z)
 (hsize:i.size=1) (hby:i.bytes=bytes) (hzs:z.cells.size=1)
 (v:Value) (n:Nat) (xs:List Value) (hs:a.eval s=v) (hown:RowO w base e v n xs)
 (B:Nat) (A:Option Addr) (m c:Nat) (news:List Value) (hx:a.eval x = .slice A m c) (hm:news.length=m) (hr:At w B A news) (h1:∀ u∈news,u.oneCell'=true) (hpos:0<m)
 (h63:n+m≤maxLen) (hbytes:(n+m)*bytes≤140737488355328) (hbase:base≤w.heap.size)
 (h:∀ v' w',RowO w' base e v' (n+m) (xs++news)→w.grownBy w' v.ownBlock→(v'.ownBlock=v.ownBlock∨v'.ownBlock=some w.heap.size)→K (a.put o.dst v') w'):o.wp P a w K Q:=by
 obtain ⟨v',w',hrun,h2,h3,h4⟩:=zqa (P:=P) (w:=w) base t o.type e i z bytes ht hi hz hsize hby hzs v n xs hown B A m c news hm hr h1 hpos h63 hbytes hbase;unfold Oper.wp execOp;simp only [ho,resolve,invoke,builtin,Sem.run_bind,Sem.run_pure,Result.andThen_ok,List.map_toArray,List.map_cons,List.map_nil,hs,hx,hrun];exact h v' w' h2 h3 h4
theorem zfN {ops:Array Oper} {rest:List Oper} {o:Oper} {a:Act} {Q:Exit→Act→World→Prop} (hgd:o.guard=none) (s x:Operand) (t:TypeId)
 (ho:o.op = .call {callee:=.builtin .append,args:=#[s,x],argTypes:=#[t,t]})
 (base:Nat) (e:TypeId) (i:TypeInfo) (z:Value) (bytes:Nat) (ht:P.underlying t=some (.slice e)) (hi:P.info? e=some i) (hz:i.zero=some z)
 (hsize:i.size=1) (hby:i.bytes=bytes) (hzs:z.cells.size=1)
 (v:Value) (n:Nat) (xs:List Value) (hs:a.eval s=v) (hown:RowO w base e v n xs)
 (B:Nat) (A:Option Addr) (m c:Nat) (news:List Value) (hx:a.eval x = .slice A m c) (hm:news.length=m) (hr:At w B A news) (h1:∀ u∈news,u.oneCell'=true) (hpos:0<m)
 (h63:n+m≤maxLen) (hbytes:(n+m)*bytes≤140737488355328) (hbase:base≤w.heap.size)
 (h:∀ v' w',RowO w' base e v' (n+m) (xs++news)→w.grownBy w' v.ownBlock→(v'.ownBlock=v.ownBlock∨v'.ownBlock=some w.heap.size)→wpList P ops Q rest (a.put o.dst v') w'):wpList P ops Q (o::rest) a w:=
 wpList_plain hgd fun _ hK=>zru s x t ho base e i z bytes ht hi hz hsize hby hzs v n xs hs hown B A m c news hx hm hr h1 hpos h63 hbytes hbase fun v' w' h2 h3 h4=>hK _ _ (h v' w' h2 h3 h4)
end
end Go.Proofs.YtjpldnjldindkaaGreatDoor
namespace Go.Proofs.YtjpldnjldindkaaGreatDoor
open Go.RowKit Go.Sort
structure Moves (T:Nat→Prop) (w w':World) (S S':Nat→Prop):Prop where
 only:Only w w' (fun i=>S i∨T i)
 next:∀ b,S' b→S b∨w.heap.size≤b
section
variable {T T2 S S' S2:Nat→Prop} {w w' w2:World}
theorem Only.wide {S T:Nat→Prop} (h:Only w w' S) (hS:∀ i,i<w.heap.size→S i→T i):Only w w' T:=⟨h.os,h.tape,h.output,h.size,fun k hk n=>h.block k hk fun e=>n (hS k hk e)⟩
theorem Turns.moves (t:Turns w w' S S') (T:Nat→Prop):Moves T w w' S S':=⟨t.only.wide fun i _ h=>.inl h,t.next⟩
theorem Moves.refl (T:Nat→Prop) (w:World) (S:Nat→Prop):Moves T w w S S:=⟨Only.refl _ _,fun _ h=>.inl h⟩
theorem Moves.of_keeps (k:Keeps w w') (T S:Nat→Prop):Moves T w w' S S:=(Turns.of_keeps k).moves T
theorem Moves.wide (h:Moves T w w' S S') (hT:∀ i,i<w.heap.size→T i→S i∨T2 i):Moves T2 w w' S S':=⟨h.only.wide fun i hi e=>e.elim .inl (hT i hi),h.next⟩
theorem Moves.trans (h:Moves T w w' S S') (k:Moves T2 w' w2 S' S2) (hT:∀ i,T2 i→S i∨T i∨w.heap.size≤i):Moves T w w2 S S2:=
 ⟨h.only.trans k.only (fun i e=>by
  rcases e with e|e
  ·exact (h.next i e).imp .inl id
  ·rcases hT i e with e|e|e
   ·exact .inl (.inl e)
   ·exact .inl (.inr e)
   ·exact .inr e),fun b hb=>by
  rcases k.next b hb with e|e
  ·exact h.next b e
  ·exact .inr (Nat.le_trans h.only.size e)⟩
theorem Moves.then (h:Moves T w w' S S') (k:Moves T w' w2 S' S2):Moves T w w2 S S2:=h.trans k fun i e=>.inr (.inl e)
theorem Moves.keep (h:Moves T w w' S S') (k:Keeps w' w2):Moves T w w2 S S':=h.then (Moves.of_keeps k T S')
theorem Moves.of_only (h:Only w w' T) (S:Nat→Prop):Moves T w w' S S:=⟨h.wide fun i _ e=>.inr e,fun b e=>.inl e⟩
theorem Moves.put (h:Moves T w w' S S') (a:Addr) (v:Value) (ha:T a.block∨w.heap.size≤a.block):Moves T w (w'.setCell a v) S S':=
 h.trans (Moves.of_only (za7 w' a v) S') fun i e=>by
  rcases ha with ha|ha
  ·exact .inr (.inl (by rw [show i=a.block from e];exact ha))
  ·exact .inr (.inr (by rw [show i=a.block from e];exact ha))
theorem Moves.block (h:Moves T w w' S S') {b:Nat} (hb:b<w.heap.size) (n:¬ S b) (nT:¬ T b):w'.heap[b]? = w.heap[b]?:=h.only.block b hb fun e=>e.elim n nT
theorem Moves.notIn (h:Moves T w w' S S') {b:Nat} (hb:b<w.heap.size) (n:¬ S b):¬ S' b:=fun e=>by
 rcases h.next b e with e|e
 ·exact n e
 ·omega
theorem Moves.size (h:Moves T w w' S S'):w.heap.size≤w'.heap.size:=h.only.size
theorem Box.moved {b:Nat} {t:TypeId} {cs:Array Value} (B:Box w b t cs) (h:Moves T w w' S S') (n:¬ S b) (nT:¬ T b):Box w' b t cs:=(h.block B.lt n nT).trans B
theorem StrAt.moved {sb pb:Nat} {nm:List UInt8} {size:Nat} (B:StrAt w sb pb nm size) (h:Moves T w w' S S') (n:¬ S sb) (nT:¬ T sb):StrAt w' sb pb nm size:=Box.moved B h n nT
theorem Own.moved {base:Nat} {e:TypeId} {size:Nat} {v:Value} {n:Nat} {xs:List Value} (o:Own w base e size v n xs) (h:Moves T w w' S S') (hn:∀ g,v.ownBlock=some g→¬ S g∧¬ T g):Own w' base e size v n xs:=
 o.same fun g hg=>h.block (o.lt g hg).2 (hn g hg).1 (hn g hg).2
theorem RowO.moved {base:Nat} {e:TypeId} {v:Value} {n:Nat} {xs:List Value} (o:RowO w base e v n xs) (h:Moves T w w' S S') (hn:∀ g,v.ownBlock=some g→¬ S g∧¬ T g):RowO w' base e v n xs:=
 o.same fun g hg=>h.block (o.lt g hg).2 (hn g hg).1 (hn g hg).2
theorem zbP {b b':Nat} {t t':TypeId} {cs cs':Array Value} (h:Box w b t cs) (h':Box w b' t' cs') (hne:t≠t'):b≠b':=fun e=>by
 subst e;have:=h.symm.trans h';injection this with this;injection this with _ e;exact hne e
theorem Box.only {b:Nat} {t:TypeId} {cs:Array Value} (B:Box w b t cs) (h:Only w w' T) (n:¬ T b):Box w' b t cs:=(h.block b B.lt n).trans B
end
section
variable {T S S':Nat→Prop} {w w' w2:World}
theorem Moves.grown {row:Option Nat} (h:Moves T w w' S S') (k:w'.grownBy w2 row) (hr:∀ g,row=some g→T g∨w.heap.size≤g):Moves T w w2 S S':=
 h.trans (T2:=fun i=>row=some i) (Moves.of_only ⟨k.os,k.tape,k.output,k.size,fun i hi hn=>k.block i hi (fun e=>hn e.symm)⟩ S') fun i e=>.inr (hr i e)
theorem Box.grownX {b:Nat} {t:TypeId} {cs:Array Value} {row:Option Nat} (B:Box w b t cs) (g:w.grownBy w' row) (hne:row≠some b):Box w' b t cs:=(g.block b B.lt (Ne.symm hne)).trans B
theorem zbz {row:Option Nat} (k:w.grownBy w' row):Only w w' (fun i=>row=some i):=⟨k.os,k.tape,k.output,k.size,fun i hi hn=>k.block i hi (fun e=>hn e.symm)⟩
theorem zbh {base:Nat} {e:TypeId} {size n b:Nat} {v:Value} {xs:List Value} {t:TypeId} {cs:Array Value} (h:Own w base e size v n xs) (B:Box w b t cs) (hne:e≠t):v.ownBlock≠some b:=by
 rcases h.2 with ⟨rfl,_⟩|⟨g,cap,cur,fz,rfl,_,hg,_⟩
 ·simp [Value.ownBlock]
 ·intro hh;simp only [Value.ownBlock,Option.some.injEq] at hh;subst hh;have:=hg.symm.trans B;injection this with this;injection this with _ e;exact hne e
theorem zcO {base:Nat} {e:TypeId} {n b:Nat} {v:Value} {xs:List Value} {t:TypeId} {cs:Array Value} (h:RowO w base e v n xs) (B:Box w b t cs) (hne:e≠t):v.ownBlock≠some b:=by
 obtain ⟨-,A,cap,rfl,-,-,⟨rfl,rfl⟩|⟨g,off,cur,fz,rfl,_,hg,_⟩⟩:=h
 ·simp [Value.ownBlock]
 ·intro hh;simp only [Value.ownBlock,Option.some.injEq] at hh;subst hh;have:=hg.symm.trans B;injection this with this;injection this with _ e;exact hne e
end
def Ty (w:World) (b:Nat) (t:TypeId):Prop:=∃ cs fz,w.heap[b]? = some (.cells cs t fz)
section
variable {w:World}
theorem Ty.ne {b b':Nat} {t t':TypeId} (h:Ty w b t) (h':Ty w b' t') (hne:t≠t'):b≠b':=fun e=>by
 subst e;obtain ⟨cs,fz,h⟩:=h;obtain ⟨cs',fz',h'⟩:=h';rw [h] at h';injection h' with h';injection h' with _ e;exact hne e
theorem Box.ty {b:Nat} {t:TypeId} {cs:Array Value} (h:Box w b t cs):Ty w b t:=⟨cs,_,h⟩
theorem Own.ty {base:Nat} {e:TypeId} {size n g:Nat} {v:Value} {xs:List Value} (h:Own w base e size v n xs) (hg:v.ownBlock=some g):Ty w g e:=by
 rcases h.2 with ⟨rfl,_⟩|⟨g',cap,cur,fz,rfl,_,hg',_⟩
 ·simp [Value.ownBlock] at hg
 ·simp only [Value.ownBlock,Option.some.injEq] at hg;subst hg;exact ⟨_,_,hg'⟩
theorem RowO.ty {base:Nat} {e:TypeId} {n g:Nat} {v:Value} {xs:List Value} (h:RowO w base e v n xs) (hg:v.ownBlock=some g):Ty w g e:=by
 obtain ⟨-,A,cap,rfl,-,-,⟨rfl,rfl⟩|⟨g',off,cur,fz,rfl,_,hg',_⟩⟩:=h
 ·simp [Value.ownBlock] at hg
 ·simp only [Value.ownBlock,Option.some.injEq] at hg;subst hg;exact ⟨_,_,hg'⟩
theorem Own.first {base:Nat} {e:TypeId} {size n c:Nat} {A:Option Addr} {xs:List Value} (h:Own w base e size (.slice A n c) n xs):Own w base e size (.slice A 0 c) 0 []:=by
 refine ⟨by simp,?_⟩;rcases h.2 with ⟨hv,rfl⟩|⟨g',cap,cur,fz,hv,h1,h2,h3,h4,h5,h6,h7⟩
 ·injection hv with h1 h2 h3;subst h1;subst h3;exact .inl ⟨rfl,rfl⟩
 ·injection hv with e1 e2 e3;subst e1;subst e3;exact .inr ⟨g',c,cur,fz,rfl,h1,h2,h3,Nat.zero_le _,h5,h6,by simp⟩
end
def StillX (X:List UInt8→Prop) (p q:Pst):Prop:=∀ x,¬ X x→zaa p.dl x=[]→zaa q.dl x=[]∧getF q.d.l x=getF p.d.l x
section
variable {X:List UInt8→Prop} {p q r:Pst} {nm:List UInt8}
theorem StillX.refl (X:List UInt8→Prop) (p:Pst):StillX X p p:=fun x _ h=>⟨h,rfl⟩
theorem StillX.trans (h:StillX X p q) (k:StillX X q r):StillX X p r:=fun x hx hd=>by
 obtain ⟨h1,h2⟩:=h x hx hd;obtain ⟨k1,k2⟩:=k x hx h1;exact ⟨k1,k2.trans h2⟩
theorem Still.x (h:Still p q (some nm)) (hx:X nm):StillX X p q:=fun x hn hd=>h x (fun e=>hn (by injection e with e;exact e▸hx)) hd
theorem Still.x0 (h:Still p q none) (X:List UInt8→Prop):StillX X p q:=fun x hn hd=>h x (by simp) hd
end
theorem zf5 {V:Vw} {nm:List UInt8} {a:Option (List (List UInt8))} (h:V nm=a):upV V nm a=V:=by
 funext x
 by_cases e:x=nm
 ·subst e;rw [zap,h]
 ·rw [zag _ _ e]
theorem zgS (V:Vw) (nm:List UInt8) (a b:Option (List (List UInt8))):upV (upV V nm a) nm b=upV V nm b:=by
 funext x
 by_cases e:x=nm
 ·subst e;rw [zap,zap]
 ·rw [zag _ _ e,zag _ _ e,zag _ _ e]
section
variable {K:DiskOk} {w0 w w':World} {B:PB} {S S' T:Nat→Prop} {p q:Pst} {N Q A C:Nat} {V:Vw} {ns:List (List UInt8)} {nm:List UInt8} {fb rb wb:Nat}
theorem ExS.put (h:ExS K w0 B N Q A C p V ns S w) (a:Addr) (v:Value) (h1:w0.heap.size≤a.block) (h2:¬ S a.block):ExS K w0 B N Q A C p V ns S (w.setCell a v):=⟨h.pj.put_ a v h1 h2,h.runs,h.tid,h.pk⟩
theorem ExS.only (h:ExS K w0 B N Q A C p V ns S w) (o:Only w w' T) (hl:∀ i,T i→w0.heap.size≤i) (dj:∀ i,S i→¬ T i):ExS K w0 B N Q A C p V ns S w':=
 (h.far (S2:=T) (S':=T) ⟨o,fun _ e=>.inl e⟩ hl dj).1
theorem ExS.lt (h:ExS K w0 B N Q A C p V ns S w) {b:Nat} (hb:w.heap.size≤b):¬ S b:=fun e=>by have:=h.pj.lt b e;omega
theorem ExS.base (h:ExS K w0 B N Q A C p V ns S w):w0.heap.size≤w.heap.size:=h.pj.kp.size
def zE:Ed:=⟨0,0,0,0⟩
end
structure Src where
 b:Nat
 f:Nat
 nm:List UInt8
 pre:List Ed
 e:Ed
 post:List Ed
def Src.all (s:Src):List Ed:=s.pre++s.e::s.post
def srcC (f i n:Nat) (e:Ed) (left:Bool):Array Value:=#[.pointer (some ⟨f,0,none⟩), .int .i64 (i:Int), .int .i64 (n:Int), .int .u32 (e.t:Int), .int .u32 (e.h:Int), .int .u64 (e.x:Int), .int .u32 (e.m:Int), .bool left]
def Src.cells (s:Src):Array Value:=srcC s.f (s.pre.length+1) s.all.length s.e true
def ptrS (b:Nat):Value:=.pointer (some ⟨b,0,none⟩)
def SrcAt (w:World) (s:Src):Prop:=Box w s.b 235 s.cells
section
variable {w w':World} {s:Src}
theorem SrcAt.keep (h:SrcAt w s) (k:Keeps w w'):SrcAt w' s:=Box.keep h k
structure OrdAt (w:World) (mb sb ob:Nat) (bi:Int):Prop where
 m:w.cell? ⟨mb,0,none⟩=some (.pointer (some ⟨sb,0,none⟩))
 s:w.cell? ⟨sb,1,none⟩=some (.func (.func 114) #[] #[.pointer (some ⟨ob,0,none⟩)])
 o:w.cell? ⟨ob,0,none⟩=some (.int .i64 bi)
theorem OrdAt.keep {mb sb ob:Nat} {bi:Int} (h:OrdAt w mb sb ob bi) (k:Keeps w w'):OrdAt w' mb sb ob bi:=⟨k.cellOf h.m,k.cellOf h.s,k.cellOf h.o⟩
theorem znY {mb sb ob:Nat} {bi:Int} (hbi:bi=0∨bi=1) (O:OrdAt w mb sb ob bi) {a c:Src} (ha:SrcAt w a) (hc:SrcAt w c) :
 Calls Tryz.prog 157 #[ptrS a.b,ptrS c.b, .pointer (some ⟨mb,0,none⟩)] w fun e w'=>e = .returned (.int .i64 (cfS (decide (bi=1)) a.e c.e))∧Grew w w':=by
 have OG:=zH (fun (W:World) (k:Keeps w W)=>zmQ a.e c.e bi hbi ob W (k.cellOf O.o));have SS:=zH (fun (W:World) (k:Keeps w W)=>show (W.cell? ⟨mb,0,none⟩=some (.pointer (some ⟨sb,0,none⟩))∧W.cell? ⟨sb,1,none⟩=some (.func (.func 114) #[] #[.pointer (some ⟨ob,0,none⟩)]))∧
  (W.cell? ⟨a.b,3,none⟩=some (.int .u32 (a.e.t:Int))∧W.cell? ⟨a.b,4,none⟩=some (.int .u32 (a.e.h:Int))∧W.cell? ⟨a.b,5,none⟩=some (.int .u64 (a.e.x:Int))∧W.cell? ⟨a.b,6,none⟩=some (.int .u32 (a.e.m:Int)))∧
  (W.cell? ⟨c.b,3,none⟩=some (.int .u32 (c.e.t:Int))∧W.cell? ⟨c.b,4,none⟩=some (.int .u32 (c.e.h:Int))∧W.cell? ⟨c.b,5,none⟩=some (.int .u64 (c.e.x:Int))∧W.cell? ⟨c.b,6,none⟩=some (.int .u32 (c.e.m:Int))) from
  ⟨⟨k.cellOf O.m,k.cellOf O.s⟩,⟨(ha.keep k).cell 3 rfl,(ha.keep k).cell 4 rfl,(ha.keep k).cell 5 rfl,(ha.keep k).cell 6 rfl⟩,⟨(hc.keep k).cell 3 rfl,(hc.keep k).cell 4 rfl,(hc.keep k).cell 5 rfl,(hc.keep k).cell 6 rfl⟩⟩)
 obtain ⟨RR,hRR⟩:∃ RR,cfS (decide (bi=1)) a.e c.e=RR:=⟨_,rfl⟩
 rw [hRR] at OG ⊢;clear O ha hc hRR hbi;unfold edG at OG;unfold ptrS;go_enter Tryz.func157,Tryz.ntmps157;go_wp2_with fail
 go_region_held3 (fun W=>(W.cell? ⟨mb,0,none⟩=some (.pointer (some ⟨sb,0,none⟩))∧W.cell? ⟨sb,1,none⟩=some (.func (.func 114) #[] #[.pointer (some ⟨ob,0,none⟩)]))∧
  (W.cell? ⟨a.b,3,none⟩=some (.int .u32 (a.e.t:Int))∧W.cell? ⟨a.b,4,none⟩=some (.int .u32 (a.e.h:Int))∧W.cell? ⟨a.b,5,none⟩=some (.int .u64 (a.e.x:Int))∧W.cell? ⟨a.b,6,none⟩=some (.int .u32 (a.e.m:Int)))∧
  (W.cell? ⟨c.b,3,none⟩=some (.int .u32 (c.e.t:Int))∧W.cell? ⟨c.b,4,none⟩=some (.int .u32 (c.e.h:Int))∧W.cell? ⟨c.b,5,none⟩=some (.int .u64 (c.e.x:Int))∧W.cell? ⟨c.b,6,none⟩=some (.int .u32 (c.e.m:Int)))) (first|assumption|exact SS.out _ (zD _)) (first
  | (go_at_call 114;refine (OG.out _ (zD _)).mono ?_;rintro ee w1 ⟨rfl,g1⟩;have s1:=SS.out _ (zK (zD _) g1.keeps);have G1:=zH ((Grew.drew w).trans g1)))
 clear s1;go_wp2;go_ret;exact ⟨rfl,G1.out⟩
theorem zcs {b:Nat} {cs:Array Value} {left:Bool} (h:Box w b 235 cs) (hc:cs[7]? = some (.bool left)) :
 Calls Tryz.prog 160 #[ptrS b] w fun e w'=>e = .returned (.bool (!left))∧w=w':=by
 have c7:=h.cell 7 hc;unfold ptrS;clear h hc;go_enter Tryz.func160,Tryz.ntmps160;go_wp2;go_ret;exact ⟨rfl,rfl⟩
end
section
variable {w w':World} {hd:Bool}
theorem zkE {ss:List Src} {A:Option Addr} {n c k:Nat} {cb:Array Value} (hn:n=ss.length) (h0:0<n) (hm:n≤100000) (hR:At w w.heap.size A (ss.map fun s=>ptrS s.b)) (hk:k=157)
 (HC:∀ W,Keeps w W→∀ a∈ss,∀ c∈ss,Calls Tryz.prog k (#[ptrS a.b,ptrS c.b]++cb) W fun e w'=>e = .returned (.int .i64 (cfS hd a.e c.e))∧Grew W w') :
 Calls Tryz.prog 156 #[.slice A n c, .func (.func k) #[] cb] w fun e w'=>∃ s,s∈ss∧e = .returned (ptrS s.b)∧(∀ u∈ss,LeE hd s.e u.e)∧Grew w w':=by
 subst hk;have GET:=zH (show ∀ W,Keeps w W→∀ m,m<n→∃ s ad,ss[m]? = some s∧A=some ad∧W.cell? (ad.add m)=some (ptrS s.b) from fun W kW m hmn=>by
  have hml:m<ss.length:=by omega
  obtain ⟨ad,e,-,hc⟩:=At.get (hR.keep (zoJ kW (Nat.le_refl _))) (k:=m) (by rw [List.length_map];exact hml);refine ⟨ss[m],ad,zG9 hml,e,?_⟩;rw [hc,List.getElem?_map,zG9 hml];rfl)
 have HCC:=zH HC;have HN:=zH hn;have hni:(n:Int)≤100000:=by omega
 have h0i:¬ (n:Int)<1:=by omega
 have h0n:(0:Int)<(n:Int):=by omega
 obtain ⟨s0,ad,hs0,rfl,c0⟩:=GET.out w (zab w) 0 h0;have HS0:=zH hs0;have e00:ad.add 0=ad:=rfl;rw [e00] at c0;clear hR HC hn hs0 e00;go_enter Tryz.func156,Tryz.ntmps156;go_wp2;go_loopw [5,6] (fun m i wr=>∃ (k:Nat) (s:Src),i = .int .i64 (k:Int)∧m=ptrS s.b∧1≤k∧k≤n∧s∈ss∧(∀ j u,j<k→ss[j]? = some u→LeE hd s.e u.e)∧Grew w wr) (fun _ i _=>n-(intOf i).toNat)
 case atStart=>exact ⟨1,s0,rfl,rfl,Nat.le_refl _,h0,List.mem_of_getElem? HS0.out,fun j u hj hu=>by
  obtain rfl:j=0:=by omega
  rw [HS0.out] at hu;obtain rfl:=Option.some.inj hu;exact LeE.refl _ _,Grew.refl _⟩
 case round=>
  obtain ⟨k,s,rfl,rfl,hk1,hkn,hs,hle,hg⟩:=hrel;have HLE:=zH hle;have HS:=zH hs;have HG:=zH hg;clear hle hs hg c0;by_cases hlt:k<n
  ·have hlt':(k:Int)<(n:Int):=(by omega);obtain ⟨u,ad2,hu,e,cu⟩:=GET.out wr HG.out.keeps k hlt;obtain rfl:=Option.some.inj e;have HU:=zH hu;have C:=zH (HCC.out wr HG.out.keeps u (List.mem_of_getElem? hu) s HS.out);have hcf:=zeU hd u.e s.e;obtain ⟨RR,hRR⟩:∃ RR,cfS hd u.e s.e=RR:=⟨_,rfl⟩
   rw [hRR] at C hcf;have hk0:(0:Int)≤(k:Int):=(by omega);have hcu:=zH cu;by_cases hl:RR<0
   ·have NX:=zH (show ∀ j v,j<k+1→ss[j]? = some v→LeE hd u.e v.e from fun j v hj hv=>by
     have hus:LeE hd u.e s.e:=(LeE.total hd u.e s.e).resolve_right (hcf.1 hl);by_cases e:j=k
     ·subst e;rw [HU.out] at hv;obtain rfl:=Option.some.inj hv;exact LeE.refl _ _
     ·exact hus.trans (HLE.out j v (by omega) hv))
    clear hcf hRR hu hlt;unfold ptrS at *;go_wp2_with fail
    refine C.out.mono ?_;rintro e w2 ⟨rfl,g2⟩;have cu2:=g2.keeps.cellOf hcu.out;have G2:=zH (HG.out.trans g2);clear g2 cu;go_wp2;go_roundw
    case rel=>exact ⟨k+1,u,rfl,rfl,by omega,by omega,List.mem_of_getElem? HU.out,NX.out,G2.out⟩
    case measure=>simp [intOf];omega
   ·have NX:=zH (show ∀ j v,j<k+1→ss[j]? = some v→LeE hd s.e v.e from fun j v hj hv=>by
     by_cases e:j=k
     ·subst e;rw [HU.out] at hv;obtain rfl:=Option.some.inj hv;exact Classical.not_not.1 fun h=>hl (hcf.2 h)
     ·exact HLE.out j v (by omega) hv)
    clear hcf hRR hu hlt;unfold ptrS at *;go_wp2_with fail
    refine C.out.mono ?_;rintro e w2 ⟨rfl,g2⟩;have cu2:=g2.keeps.cellOf hcu.out;have G2:=zH (HG.out.trans g2);clear g2 cu;go_wp2;go_roundw
    case rel=>exact ⟨k+1,s,rfl,rfl,by omega,by omega,HS.out,NX.out,G2.out⟩
    case measure=>simp [intOf];omega
  ·have hlt':¬ (k:Int)<(n:Int):=(by omega);have FIN:=zH (show ∀ u∈ss,LeE hd s.e u.e from fun u hu=>by
    obtain ⟨j,hj⟩:=List.mem_iff_getElem?.1 hu;have:=(zI9.1 hj).1;exact HLE.out j u (by have:=HN.out;omega) hj)
   clear hlt;go_wp2;go_ret;exact ⟨s,HS.out,rfl,FIN.out,HG.out⟩
end
end Go.Proofs.YtjpldnjldindkaaGreatDoor
