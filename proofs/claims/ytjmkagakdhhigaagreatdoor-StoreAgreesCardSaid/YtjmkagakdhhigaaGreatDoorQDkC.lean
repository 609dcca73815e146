/- Package disk: where a whole disk lies in memory. -/
import Derived.Test.YtjmkagakdhhigaaGreatDoorQDkB
import Derived.Test.YtjmkagakdhhigaaGreatDoorQDiskMath
import Derived.Test.YtjmkagakdhhigaaGreatDoorQLawDisk
import Derived.Shelf.Abstract
set_option linter.unusedVariables false
set_option linter.unusedSimpArgs false
set_option maxRecDepth 100000
namespace Go.Proofs.YtjmkagakdhhigaaGreatDoor
open Go.RowKit
def LooseIn (l:List Fl) (p:List UInt8×Nat):Prop:=∃ f∈l,f.name=p.1∧f.loose p.2=true
theorem lt_irr (a:List UInt8):¬ a<a:=List.lt_irrefl a
theorem getF_of_mem {l:List Fl} (hn:(l.map (·.name)).Nodup) {f:Fl} (hf:f∈l):getF l f.name=some f:=by
 induction l with
 | nil=>simp at hf
 | cons g l ih=>
  rw [List.map_cons,List.nodup_cons] at hn
  rw [getF_cons]
  rcases List.mem_cons.1 hf with rfl|hf'
  · rw [if_pos rfl]
  · rw [if_neg (fun e=>hn.1 (by rw [e];exact List.mem_map_of_mem hf'))]
    exact ih hn.2 hf'
theorem look_files (l:List Fl) (fb:List UInt8→Nat) (nm:List UInt8):lookM (l.map fun f=>(f.name,fb f.name)) nm=(getF l nm).map fun f=>fb f.name:=by
 unfold lookM getF
 rw [List.find?_map]
 cases h:l.find? ((fun p:List UInt8×Nat=>decide (p.1=nm)) ∘ fun f=>(f.name,fb f.name)) with
 | none=>
  have:l.find? (fun f=>decide (f.name=nm))=none:=h
  rw [this]
  rfl
 | some f=>
  have:l.find? (fun f=>decide (f.name=nm))=some f:=h
  rw [this]
  rfl
theorem mem_setF {l:List Fl} {f' g:Fl} (h:g∈setF l f'):(g=f'∧∃ f∈l,f.name=f'.name)∨(g∈l∧g.name≠f'.name):=by
 obtain ⟨x,hx,he⟩:=List.mem_map.1 h
 by_cases hn:x.name=f'.name
 · rw [if_pos hn] at he
   exact .inl ⟨he.symm,x,hx,hn⟩
 · rw [if_neg hn] at he
   subst he
   exact .inr ⟨hx,hn⟩
theorem setF_self {l:List Fl} {f' f:Fl} (hf:f∈l) (hn:f.name=f'.name):f'∈setF l f':=List.mem_map.2 ⟨f,hf,by rw [if_pos hn]⟩
theorem setF_other {l:List Fl} {f' g:Fl} (hg:g∈l) (hn:g.name≠f'.name):g∈setF l f':=List.mem_map.2 ⟨g,hg,by rw [if_neg hn]⟩
theorem setF_names (l:List Fl) (f':Fl):(setF l f').map (·.name)=l.map (·.name):=by
 unfold setF
 rw [List.map_map]
 apply List.map_congr_left
 intro g hg
 simp only [Function.comp]
 split
 · rename_i h;exact h.symm
 · rfl
theorem names_map (l l':List Fl) (fb:List UInt8→Nat) (h:l'.map (·.name)=l.map (·.name)):(l'.map fun f=>(f.name,fb f.name))=l.map fun f=>(f.name,fb f.name):=by
 have:=congrArg (List.map fun n=>(n,fb n)) h
 simpa [List.map_map,Function.comp_def] using this
theorem looseIn_set {l:List Fl} {f f':Fl} (hn:(l.map (·.name)).Nodup) (hf:f∈l) (he:f'.name=f.name) (hl:∀ k,f'.loose k=f.loose k) (p:List UInt8×Nat):LooseIn (setF l f') p↔LooseIn l p:=by
 constructor
 · rintro ⟨g,hg,h1,h2⟩
   rcases mem_setF hg with ⟨rfl,-⟩|⟨hg',-⟩
   · exact ⟨f,hf,by rw [←he];exact h1,by rw [←hl];exact h2⟩
   · exact ⟨g,hg',h1,h2⟩
 · rintro ⟨g,hg,h1,h2⟩
   by_cases hgn:g.name=f'.name
   · have:g=f:=by
      have e1:=getF_of_mem hn hg
      have e2:=getF_of_mem hn hf
      rw [hgn,he,e2] at e1
      exact (Option.some.inj e1).symm
     subst this
     exact ⟨f',setF_self hg he.symm,by rw [he];exact h1,by rw [hl];exact h2⟩
   · exact ⟨g,setF_other hg hgn,h1,h2⟩
structure DkX (w:World) (b:Nat) (F:Nat→Prop) (l:List Fl) (mf ml:Nat) (fb:List UInt8→Nat) (col:Nat→Option (List UInt8)):Prop where
 lt:∀ i,F i→i<w.heap.size
 nb:F b∧col b=none
 nf:F mf∧col mf=none
 nl:F ml∧col ml=none
 ne:mf≠ml
 files:FilesM w mf (l.map fun f=>(f.name,fb f.name))
 loose:∃ l2,LooseM w ml l2∧∀ p,p∈l2.map Prod.fst↔LooseIn l p
 each:∀ f∈l,∃ v1 v2,FileAt w (fun i=>F i∧col i=some f.name) (fb f.name) v1 v2 f.now f.lasts
def paint (w:World) (col:Nat→Option (List UInt8)) (nm:List UInt8) (i:Nat):Option (List UInt8):=if w.heap.size≤i then some nm else col i
theorem paint_old {w:World} {col:Nat→Option (List UInt8)} {nm:List UInt8} {i:Nat} (h:i<w.heap.size):paint w col nm i=col i:=by
 unfold paint
 rw [if_neg (by omega)]
theorem paint_new {w:World} {col:Nat→Option (List UInt8)} {nm:List UInt8} {i:Nat} (h:w.heap.size≤i):paint w col nm i=some nm:=by
 unfold paint
 rw [if_pos h]
theorem turns_more {w w':World} {F S:Nat→Prop} (h:Only w w' S) (hS:∀ i,S i→F i):Turns w w' F (more w w' F):=
 ⟨h.weak hS,fun i hi=>by
  rcases hi with hi|⟨h1,_⟩
  · exact .inl hi
  · exact .inr h1⟩
section
variable {w w':World} {b:Nat} {F:Nat→Prop} {l:List Fl} {mf ml:Nat} {fb:List UInt8→Nat} {col:Nat→Option (List UInt8)}
theorem DkX.nodup (h:DkX w b F l mf ml fb col):(l.map (·.name)).Nodup:=by
 have:=h.files.once
 simpa [List.map_map,Function.comp_def] using this
theorem DkX.same (h:DkX w b F l mf ml fb col) (hs:∀ i,F i→w'.heap[i]? = w.heap[i]?) (hsz:w.heap.size≤w'.heap.size):DkX w' b F l mf ml fb col:=by
 obtain ⟨l2,h2,h3⟩:=h.loose
 exact ⟨fun i hi=>Nat.lt_of_lt_of_le (h.lt i hi) hsz,h.nb,h.nf,h.nl,h.ne,h.files.same (hs _ h.nf.1),⟨l2,h2.same (hs _ h.nl.1),h3⟩,fun f hf=>by
  obtain ⟨v1,v2,q⟩:=h.each f hf
  exact ⟨v1,v2,q.same fun i hi=>hs i hi.1⟩⟩
theorem DkX.keep (h:DkX w b F l mf ml fb col) (k:Keeps w w'):DkX w' b F l mf ml fb col:=h.same (fun i hi=>k.block i (h.lt i hi)) k.size
abbrev DkX.own (F:Nat→Prop) (col:Nat→Option (List UInt8)) (nm:List UInt8) (i:Nat):Prop:=F i∧col i=some nm
theorem DkX.turn (h:DkX w b F l mf ml fb col) {f f':Fl} (hf:f∈l) (hn:f'.name=f.name) (hl:∀ k,f'.loose k=f.loose k) {v1 v2:Value} (hO:Only w w' (DkX.own F col f.name)) (hA:FileAt w' (more w w' (DkX.own F col f.name)) (fb f.name) v1 v2 f'.now f'.lasts) :
 DkX w' b (more w w' F) (setF l f') mf ml fb (paint w col f.name):=by
 have hne:∀ i,F i→col i=none→w'.heap[i]? = w.heap[i]?:=fun i hi hc=>hO.block i (h.lt i hi) (fun e=>by have e:=e.2;rw [hc] at e;cases e)
 have hold:∀ i,F i→paint w col f.name i=col i:=fun i hi=>paint_old (h.lt i hi)
 obtain ⟨l2,h2,h3⟩:=h.loose
 refine ⟨fun i hi=>?_,⟨.inl h.nb.1,by rw [hold _ h.nb.1];exact h.nb.2⟩,⟨.inl h.nf.1,by rw [hold _ h.nf.1];exact h.nf.2⟩,⟨.inl h.nl.1,by rw [hold _ h.nl.1];exact h.nl.2⟩,h.ne,?_,⟨l2,h2.same (hne _ h.nl.1 h.nl.2),fun p=>?_⟩,fun g hg=>?_⟩
 · rcases hi with hi|⟨_,hi⟩
   · exact Nat.lt_of_lt_of_le (h.lt i hi) hO.size
   · exact hi
 · rw [names_map l _ fb (setF_names l f')]
   exact h.files.same (hne _ h.nf.1 h.nf.2)
 · rw [h3,looseIn_set h.nodup hf hn hl]
 · rcases mem_setF hg with ⟨rfl,-⟩|⟨hg',hgn⟩
   · rw [hn]
     exact ⟨v1,v2,hA.wide fun i hi=>by
      rcases hi with ⟨hi,hc⟩|⟨h1,h2⟩
      · exact ⟨.inl hi,by rw [hold i hi];exact hc⟩
      · exact ⟨.inr ⟨h1,h2⟩,paint_new h1⟩⟩
   · obtain ⟨u1,u2,q⟩:=h.each g hg'
     refine ⟨u1,u2,(q.same fun i hi=>hO.block i (h.lt i hi.1) (fun e=>hgn ?_)).wide fun i hi=>⟨.inl hi.1,by rw [hold i hi.1];exact hi.2⟩⟩
     have:=hi.2.symm.trans e.2
     rw [hn]
     exact Option.some.inj this
theorem DkX.find (h:DkX w b F l mf ml fb col) (nm:List UInt8):lookM (l.map fun f=>(f.name,fb f.name)) nm=(getF l nm).map fun f=>fb f.name:=look_files l fb nm
theorem DkX.box (h:DkX w b F l mf ml fb col) {cs:Array Value} (hb:Box w b 131 cs) {nm:List UInt8} (hO:Only w w' (DkX.own F col nm)):Box w' b 131 cs:=
 (hO.block b hb.lt (fun e=>by have e:=e.2;rw [h.nb.2] at e;cases e)).trans hb
theorem DkX.setB (h:DkX w b F l mf ml fb col) {cs:Array Value} (hb:Box w b 131 cs) (hO:Only w w' (fun c=>c=b)):DkX w' b F l mf ml fb col:=by
 have hs:∀ i,F i→i≠b→w'.heap[i]? = w.heap[i]?:=fun i hi hne=>hO.block i (h.lt i hi) hne
 obtain ⟨l2,h2,h3⟩:=h.loose
 refine ⟨fun i hi=>Nat.lt_of_lt_of_le (h.lt i hi) hO.size,h.nb,h.nf,h.nl,h.ne,h.files.same (hs _ h.nf.1 (fun e=>h.files.ne hb e.symm)),⟨l2,h2.same (hs _ h.nl.1 (fun e=>h2.ne hb e.symm)),h3⟩,fun f hf=>?_⟩
 obtain ⟨v1,v2,q⟩:=h.each f hf
 exact ⟨v1,v2,q.same fun i hi=>hs i hi.1 (fun e=>by have hi:=hi.2;rw [e,h.nb.2] at hi;cases hi)⟩
end
structure Dk (w:World) (b:Nat) (F:Nat→Prop) (s:Ds):Prop where
 ok:DsOk s
 dead:s.off=true→s.armed=0
 armed:s.armed≤9223372036854775807
 used:usedL s.l≤1048576
 at_:∃ mf ml fb col,Box w b 131 (dkC mf ml s.q s.armed s.off)∧DkX w b F s.l mf ml fb col
section
variable {w w':World} {b:Nat} {F:Nat→Prop} {s:Ds}
theorem Dk.lt (h:Dk w b F s):∀ i,F i→i<w.heap.size:=by
 obtain ⟨mf,ml,fb,col,hb,hx⟩:=h.at_
 exact hx.lt
theorem Dk.same (h:Dk w b F s) (hs:∀ i,F i→w'.heap[i]? = w.heap[i]?) (hsz:w.heap.size≤w'.heap.size):Dk w' b F s:=by
 obtain ⟨mf,ml,fb,col,hb,hx⟩:=h.at_
 exact ⟨h.ok,h.dead,h.armed,h.used,mf,ml,fb,col,(hs b hx.nb.1).trans hb,hx.same hs hsz⟩
end
end Go.Proofs.YtjmkagakdhhigaaGreatDoor
namespace Go.Proofs.YtjmkagakdhhigaaGreatDoor
open Go.RowKit Go.Shelf
section
variable {κ ε:Type} [DecidableEq κ] {P:Program} {M K V:TypeId} {kv:κ→Value} {ev:ε→Value} (w:World) {ops:Array Oper} {o:Oper} {a:Act} {KK:Act→World→Prop} {Q:Exit→Act→World→Prop} {E:Prop}
theorem step_delV (hg:o.guard=none) (m x:Operand) (hop:o.op=Op.call {callee:=Callee.builtin Builtin.delete,args:=#[m,x],argTypes:=#[M,K]}) (T:MapV P M K V kv ev) (b:Nat) (l:List (κ×ε)) (hm:a.eval m = .map (some b)) (h:MapW kv ev w b l) (k:κ) (hx:a.eval x=kv k)
 (hK:∀ w',MapW kv ev w' b (delM l k)→Only w w' (fun c=>c=b)→KK (a.put o.dst (.tuple #[])) w'):if Region.wanted o (yielded ops a.tmps)=true then Oper.wp P o a w KK Q else E:=by
 have hw:Region.wanted o (yielded ops a.tmps)=true:=by simp [Region.wanted,hg]
 rw [if_pos hw]
 obtain ⟨w',hrun,r1,r2⟩:=run_delV T h k o.type
 unfold Oper.wp
 simp [execOp,hop,resolve,invoke,builtin,hm,hx,hrun,Result.andThen]
 exact hK w' r1 r2
theorem step_delIter (hg:o.guard=none) (m x:Operand) (hop:o.op=Op.call {callee:=Callee.builtin Builtin.delete,args:=#[m,x],argTypes:=#[M,K]}) (T:MapV P M K V kv ev) (b r:Nat) (l lf:List (κ×ε)) (hm:a.eval m = .map (some b)) (h:IterV kv ev w b r l lf) (k:κ) (hx:a.eval x=kv k)
 (hK:∀ w',IterV kv ev w' b r (delM l k) (delM lf k)→Only w w' (fun c=>c=b)→KK (a.put o.dst (.tuple #[])) w'):if Region.wanted o (yielded ops a.tmps)=true then Oper.wp P o a w KK Q else E:=by
 have hw:Region.wanted o (yielded ops a.tmps)=true:=by simp [Region.wanted,hg]
 rw [if_pos hw]
 obtain ⟨w',hrun,r1,r2⟩:=run_delIter T h k o.type
 unfold Oper.wp
 simp [execOp,hop,resolve,invoke,builtin,hm,hx,hrun,Result.andThen]
 exact hK w' r1 r2
end
abbrev Pl:=List UInt8×Nat
def keepL (l:List (Pl×Unit)) (pq:Pl→Bool) (ss:List Pl):List (Pl×Unit):=l.filter fun p=>!(decide (p.1∈ss)&&pq p.1)
theorem keepL_nil (l:List (Pl×Unit)) (pq:Pl→Bool):keepL l pq []=l:=by
 unfold keepL
 rw [List.filter_eq_self]
 intro p hp
 simp
theorem keepL_all {l:List (Pl×Unit)} {pq:Pl→Bool} {ss:List Pl} (h:ss.Perm (l.map Prod.fst)):keepL l pq ss=l.filter fun p=>!pq p.1:=by
 unfold keepL
 apply List.filter_congr
 intro p hp
 have:p.1∈ss:=h.mem_iff.2 (List.mem_map_of_mem hp)
 simp [this]
theorem keepL_del (l:List (Pl×Unit)) (pq:Pl→Bool) (ss:List Pl) (x:Pl) (hx:pq x=true):delM (keepL l pq ss) x=keepL l pq (ss++[x]):=by
 unfold keepL delM
 rw [List.filter_filter]
 apply List.filter_congr
 intro p hp
 by_cases e:p.1=x
 · simp [e,hx]
 · simp [e]
theorem keepL_stay (l:List (Pl×Unit)) (pq:Pl→Bool) (ss:List Pl) (x:Pl) (hx:pq x=false):keepL l pq ss=keepL l pq (ss++[x]):=by
 unfold keepL
 apply List.filter_congr
 intro p hp
 by_cases e:p.1=x
 · simp [e,hx]
 · simp [e]
theorem delM_lf {l2:List (Pl×Unit)} {ss:List Pl} {lf lf':List (Pl×Unit)} {x:Pl} {y:Unit} (hn:(l2.map Prod.fst).Nodup) (hP:(ss++lf.map Prod.fst).Perm (l2.map Prod.fst)) (hp:lf.Perm ((x,y)::lf')):delM lf' x=lf':=by
 apply delM_absent
 have h1:(ss++lf.map Prod.fst).Nodup:=hP.nodup_iff.2 hn
 have h2:=(List.nodup_append.1 h1).2.1
 have h3:=((hp.map Prod.fst).nodup_iff).1 h2
 rw [List.map_cons,List.nodup_cons] at h3
 exact h3.1
set_option maxHeartbeats 8000000 in
theorem forget_any {w:World} {b mf ml q armed:Nat} {off:Bool} (h:Box w b 131 (dkC mf ml q armed off)) {l2:List (Pl×Unit)} (hm:LooseM w ml l2) (g:FuncId) (lb:Array Value) (eg:∀ args w,(callFunc g args).run Tryz.prog w = .ok (.enter g args) w)
 (pq:Pl→Bool) (J:List Pl→(Nat→Prop)→World→Prop) (T0:Nat→Prop) (hT:∀ c,T0 c→c<w.heap.size∧c≠b∧c≠ml) (h0:J [] T0 w)
 (hJs:∀ pre T W W',J pre T W→(∀ c,T c→W'.heap[c]? = W.heap[c]?)→W.heap.size≤W'.heap.size→J pre T W')
 (hJl:∀ pre T W,J pre T W→∀ c,T c→c<W.heap.size)
 (hq:∀ pre T (x:Pl) W,J pre T W→pre.length<l2.length→Calls Tryz.prog g (#[.agg #[.string (str x.1), .int .i64 (x.2:Int)]]++lb) W fun e W'=>e = .returned (.bool (pq x))∧∃ T',J (pre++[x]) T' W'∧Turns W W' T T') :
 Calls Tryz.prog 169 #[.pointer (some ⟨b,0,none⟩), .func (.func g) #[] lb] w fun e w'=>e = .returned (.tuple #[])∧∃ ss T',ss.Perm (l2.map Prod.fst)∧J ss T' w'∧LooseM w' ml (l2.filter fun p=>!pq p.1)∧Only w w' (fun c=>c=ml∨T0 c)∧(∀ c,T' c→T0 c∨w.heap.size≤c):=by
 have c1:w.cell? ⟨b,1,none⟩=some (.map (some ml)):=h.cell 1 rfl
 have OM:=zH hm
 have HB:=zH h
 have HNE:=zH (hm.ne h)
 have HT:=zH hT
 have H0:=zH h0
 have JS:=zH hJs
 have JL:=zH hJl
 have HQ:=zH hq
 clear h hm hT h0 hJs hJl hq
 go_enter Tryz.func169,Tryz.ntmps169
 go_wp2_with (at_range;refine wpList_rangeV _ rfl _ rfl looseT ml l2 rfl OM.out ?_;intro w0 hi0 hk0 hs0)
 go_frame
 have HI0:=zH hi0
 have HK0:=zH hk0
 clear hi0 hk0 hs0
 go_loopw [4] (fun _ wr=>∃ (lf:List (Pl×Unit)) (ss:List Pl) (T:Nat→Prop),IterV plV unV wr ml w.heap.size (keepL l2 pq ss) lf∧(ss++lf.map Prod.fst).Perm (l2.map Prod.fst)∧J ss T wr∧Only w wr (fun c=>c=ml∨T0 c)∧(∀ c,T c→T0 c∨w.heap.size<c))
  (fun _ wr=>wr.rangeLeft ml w.heap.size)
 case atStart=>
  refine ⟨l2,[],T0,by rw [keepL_nil];exact HI0.out,by simp,JS.out [] T0 w w0 H0.out (fun c hc=>HK0.out.block c (HT.out c hc).1) HK0.out.size,⟨HK0.out.os,HK0.out.tape,HK0.out.output,HK0.out.size,fun i hi _=>HK0.out.block i hi⟩,fun c hc=>.inl hc⟩
 case round=>
  obtain ⟨lf,ss,T,hI,hP,hJ,hO,hTT⟩:=hrel
  have HI:=zH hI
  have HP:=zH hP
  have HJ:=zH hJ
  have HO:=zH hO
  have HTT:=zH hTT
  clear hI hP hJ hO hTT
  go_wp2_with (at_next;refine wpList_nextV _ rfl _ rfl looseT ml w.heap.size (keepL l2 pq ss) lf rfl HI.out (fun p:List UInt8×Nat=>Value.agg #[.string (str p.1), .int .i64 (p.2:Int)]) rfl (fun _:Unit=>Value.agg #[]) rfl ?_ ?_)
  · intro hd
    have hS:ss.Perm (l2.map Prod.fst):=by have:=HP.out;rw [hd] at this;simpa using this
    have HS:=zH hS
    have HM:=zH (by have:=HI.out.map;rw [keepL_all hS] at this;exact this)
    clear hd hS
    go_wp2
    go_returns
    exact ⟨rfl,ss,T,HS.out,HJ.out,HM.out,HO.out,fun c hc=>by
     rcases HTT.out c hc with e|e
     · exact .inl e
     · exact .inr (Nat.le_of_lt e)⟩
  · rintro xa xb y lf' w2 hp hI2 ho2 hen
    have hlen:ss.length<l2.length:=by
     have h1:=HP.out.length_eq
     have h2:=hp.length_eq
     simp only [List.length_append,List.length_map,List.length_cons] at h1 h2
     omega
    have hlt2:=HI.out.lt
    obtain ⟨w3,hw3⟩:∃ w3,w2.alloc (.cells #[.string (str xa), .int .i64 (xb:Int)] 69)=w3:=⟨_,rfl⟩
    have k3:Keeps w2 w3:=by rw [←hw3];exact zA _ _
    have hTr:∀ c,T c→c≠w.heap.size:=fun c hc e=>by
     rcases HTT.out c hc with h1|h1
     · have:=(HT.out c h1).1;omega
     · omega
    have hTl:∀ c,T c→c<wr.heap.size:=JL.out _ _ _ HJ.out
    have J3:J ss T w3:=JS.out ss T wr w3 HJ.out (fun c hc=>by
     have e1:=ho2.block c (hTl c hc) (hTr c hc)
     exact (k3.block c (Nat.lt_of_lt_of_le (hTl c hc) ho2.size)).trans e1) (Nat.le_trans ho2.size k3.size)
    have I3:=hI2.keep k3
    have B3:Box w3 w2.heap.size 69 #[.string (str xa), .int .i64 (xb:Int)]:=by rw [←hw3];exact Box.new _ _ _
    have HQ3':=HQ.out ss T (xa,xb) w3 J3 hlen
    have O3:Only w w3 (fun c=>c=ml∨T0 c):=(HO.out.trans (S1:=fun c=>c=w.heap.size) ho2 (fun i hi=>.inr (by omega))).keep k3
    have hwl:w.heap.size<w3.heap.size:=by have:=hlt2.2;have:=ho2.size;have:=k3.size;omega
    have HB3:=zH B3
    have HI3:=zH I3
    have HJ3:=zH J3
    have HO3:=zH O3
    have HPP:=zH hp
    have HTL:=zH hTl
    have HW:=zH (show wr.heap.size≤w2.heap.size from ho2.size)
    have HTR:=zH hTr
    have b0:w3.cell? ⟨w2.heap.size,0,none⟩=some (.string (str xa)):=B3.cell 0 rfl
    have b1:w3.cell? ⟨w2.heap.size,1,none⟩=some (.int .i64 (xb:Int)):=B3.cell 1 rfl
    clear hp hI2 ho2 hlt2 k3 J3 I3 O3 B3 hTl hTr hlen
    have FIN:=zH (show ∀ w4 T4,J (ss++[(xa,xb)]) T4 w4→Turns w3 w4 T T4→IterV plV unV w4 ml w.heap.size (keepL l2 pq ss) lf'∧Only w w4 (fun c=>c=ml∨T0 c)∧(∀ c,T4 c→T0 c∨w.heap.size<c)∧Box w4 w2.heap.size 69 #[.string (str xa), .int .i64 (xb:Int)]∧Box w4 b 131 (dkC mf ml q armed off) from fun w4 T4 hJ4 hT4=>by
     have hTm:∀ c,c<w.heap.size→¬ T0 c→¬ T c:=fun c hc hn hh=>by
      rcases HTT.out c hh with e|e
      · exact hn e
      · omega
     have I4:=HI3.out.same (w':=w4) (hT4.only.block ml HI3.out.lt.1 (hTm ml OM.out.lt (fun e=>(HT.out ml e).2.2 rfl))) (hT4.only.block _ HI3.out.lt.2 (fun e=>HTR.out _ e rfl))
     have O4:Only w w4 (fun c=>c=ml∨T0 c):=HO3.out.trans hT4.only (fun i hi=>by
      rcases HTT.out i hi with e|e
      · exact .inl (.inr e)
      · exact .inr (Nat.le_of_lt e))
     refine ⟨I4,O4,fun c hc=>?_,?_,?_⟩
     · rcases hT4.next c hc with e|e
       · exact HTT.out c e
       · exact .inr (Nat.lt_of_lt_of_le hwl e)
     · exact (hT4.only.block _ HB3.out.lt (fun e=>by have:=HTL.out _ e;have:=HW.out;omega)).trans HB3.out
     · exact (O4.block b HB.out.lt (fun e=>by
        rcases e with e|e
        · exact HNE.out e
        · exact (HT.out b e).2.1 rfl)).trans HB.out)
    have PERM:=zH (show ((ss++[(xa,xb)])++lf'.map Prod.fst).Perm (l2.map Prod.fst) by
     have h1:=HPP.out.map Prod.fst
     have h2:(ss++lf.map Prod.fst).Perm ((ss++[(xa,xb)])++lf'.map Prod.fst):=by
      rw [List.append_assoc]
      exact List.Perm.append_left ss (by simpa using h1)
     exact h2.symm.trans HP.out)
    have LEN:=zH (show lf.length=lf'.length+1 by have:=HPP.out.length_eq;simpa using this)
    cases hx:pq (xa,xb) with
    | false=>
     rw [hx] at HQ3'
     have HQ3:=zH HQ3'
     clear HQ3'
     go_wp2_with (go_at_fn g;refine HQ3.out.mono ?_;rintro e w4 ⟨rfl,T4,hJ4,hT4⟩)
     obtain ⟨I4,O4,T4c,-,-⟩:=FIN.out w4 T4 hJ4 hT4
     rw [keepL_stay l2 pq ss (xa,xb) hx] at I4
     exact ⟨⟨lf',ss++[(xa,xb)],T4,I4,PERM.out,hJ4,O4,T4c⟩,by rw [I4.left_eq,HI.out.left_eq,LEN.out];omega⟩
    | true=>
     rw [hx] at HQ3'
     have HQ3:=zH HQ3'
     have DL:=zH (delM_lf OM.out.once HP.out HPP.out)
     have KD:=zH (keepL_del l2 pq ss (xa,xb) hx)
     clear HQ3' hx
     go_wp2_with (go_at_fn g;refine HQ3.out.mono ?_;rintro e w4 ⟨rfl,T4,hJ4,hT4⟩)
     obtain ⟨I4,O4,T4c,B4,D4⟩:=FIN.out w4 T4 hJ4 hT4
     have d1:w4.cell? ⟨b,1,none⟩=some (.map (some ml)):=D4.cell 1 rfl
     have p0:w4.cell? ⟨w2.heap.size,0,none⟩=some (.string (str xa)):=B4.cell 0 rfl
     have p1:w4.cell? ⟨w2.heap.size,1,none⟩=some (.int .i64 (xb:Int)):=B4.cell 1 rfl
     have HI4:=zH I4
     have HO4:=zH O4
     have HT4:=zH T4c
     have HJ4:=zH hJ4
     have HML:=zH (show ∀ c,T4 c→c≠ml from fun c hc e=>by
      rcases T4c c hc with h1|h1
      · exact (HT.out c h1).2.2 e
      · have:=OM.out.lt;omega)
     clear I4 O4 T4c B4 D4 hJ4 hT4 b0 b1 c1
     go_region_law ((refine step_delIter _ rfl (.tmp 20) (.tmp 21) rfl looseT ml w.heap.size (keepL l2 pq ss) lf' (by simp [Act.eval,Act.put]) (HI4.out.keep (zD _)) (xa,xb) (by simp [Act.eval,Act.put,plV]) ?_);intro w5 hI5 hO5)
     all_goals
      rw [KD.out,DL.out] at hI5
      have k4:Keeps w4 w4.drew:=zD _
      have O5:Only w w5 (fun c=>c=ml∨T0 c):=(HO4.out.keep k4).trans hO5 (fun i hi=>.inl (.inl hi))
      have J5:J (ss++[(xa,xb)]) T4 w5:=JS.out _ T4 w4 w5 HJ4.out (fun c hc=>hO5.block c (JL.out _ _ _ HJ4.out c hc) (HML.out c hc)) hO5.size
      have LE:=zH (show w5.rangeLeft ml w.heap.size<wr.rangeLeft ml w.heap.size by rw [hI5.left_eq,HI.out.left_eq,LEN.out];omega)
      have I5:=zH hI5
      have O5h:=zH O5
      have J5h:=zH J5
      clear hI5 hO5 O5 J5 k4
      go_wp2_with fail
      exact ⟨⟨lf',ss++[(xa,xb)],T4,I5.out,PERM.out,J5h.out,O5h.out,HT4.out⟩,LE.out⟩
end Go.Proofs.YtjmkagakdhhigaaGreatDoor
