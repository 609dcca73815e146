/- Package disk: where a whole disk lies in memory. -/
import Derived.Test.YtjmkagakdhhigaaGreatDoorQDkB
import Derived.Test.YtjmkagakdhhigaaGreatDoorQDiskMath
import Derived.Test.YtjmkagakdhhigaaGreatDoorQLawDisk
import Derived.Shelf.Abstract
import Derived.Test.YtjmkagakdhhigaaGreatDoorQClone
import Derived.BigQuiet
set_option linter.unusedVariables false
set_option linter.unusedSimpArgs false
set_option maxRecDepth 100000
namespace Go.Proofs.YtjmkagakdhhigaaGreatDoor
open Go.RowKit
def LooseIn (l:List Fl) (p:List UInt8×Nat):Prop:=∃ f∈l,f.name=p.1∧f.loose p.2=true
theorem lt_irr (a:List UInt8):¬ a<a:=List.lt_irrefl a
theorem getF_of_mem {l:List Fl} (hn:(l.map (·.name)).Nodup) {f:Fl} (hf:f∈l):getF l f.name=some f:=by
 induction l with
 | nil=>simp at hf
 | cons g l ih=>
  rw [List.map_cons,List.nodup_cons] at hn
  rw [getF_cons]
  rcases List.mem_cons.1 hf with rfl|hf'
  · rw [if_pos rfl]
  · rw [if_neg (fun e=>hn.1 (by rw [e];exact List.mem_map_of_mem hf'))]
    exact ih hn.2 hf'
theorem look_files (l:List Fl) (fb:List UInt8→Nat) (nm:List UInt8):lookM (l.map fun f=>(f.name,fb f.name)) nm=(getF l nm).map fun f=>fb f.name:=by
 unfold lookM getF
 rw [List.find?_map]
 cases h:l.find? ((fun p:List UInt8×Nat=>decide (p.1=nm)) ∘ fun f=>(f.name,fb f.name)) with
 | none=>
  have:l.find? (fun f=>decide (f.name=nm))=none:=h
  rw [this]
  rfl
 | some f=>
  have:l.find? (fun f=>decide (f.name=nm))=some f:=h
  rw [this]
  rfl
theorem mem_setF {l:List Fl} {f' g:Fl} (h:g∈setF l f'):(g=f'∧∃ f∈l,f.name=f'.name)∨(g∈l∧g.name≠f'.name):=by
 obtain ⟨x,hx,he⟩:=List.mem_map.1 h
 by_cases hn:x.name=f'.name
 · rw [if_pos hn] at he
   exact .inl ⟨he.symm,x,hx,hn⟩
 · rw [if_neg hn] at he
   subst he
   exact .inr ⟨hx,hn⟩
theorem setF_self {l:List Fl} {f' f:Fl} (hf:f∈l) (hn:f.name=f'.name):f'∈setF l f':=List.mem_map.2 ⟨f,hf,by rw [if_pos hn]⟩
theorem setF_other {l:List Fl} {f' g:Fl} (hg:g∈l) (hn:g.name≠f'.name):g∈setF l f':=List.mem_map.2 ⟨g,hg,by rw [if_neg hn]⟩
theorem setF_names (l:List Fl) (f':Fl):(setF l f').map (·.name)=l.map (·.name):=by
 unfold setF
 rw [List.map_map]
 apply List.map_congr_left
 intro g hg
 simp only [Function.comp]
 split
 · rename_i h;exact h.symm
 · rfl
theorem names_map (l l':List Fl) (fb:List UInt8→Nat) (h:l'.map (·.name)=l.map (·.name)):(l'.map fun f=>(f.name,fb f.name))=l.map fun f=>(f.name,fb f.name):=by
 have:=congrArg (List.map fun n=>(n,fb n)) h
 simpa [List.map_map,Function.comp_def] using this
theorem looseIn_set {l:List Fl} {f f':Fl} (hn:(l.map (·.name)).Nodup) (hf:f∈l) (he:f'.name=f.name) (hl:∀ k,f'.loose k=f.loose k) (p:List UInt8×Nat):LooseIn (setF l f') p↔LooseIn l p:=by
 constructor
 · rintro ⟨g,hg,h1,h2⟩
   rcases mem_setF hg with ⟨rfl,-⟩|⟨hg',-⟩
   · exact ⟨f,hf,by rw [←he];exact h1,by rw [←hl];exact h2⟩
   · exact ⟨g,hg',h1,h2⟩
 · rintro ⟨g,hg,h1,h2⟩
   by_cases hgn:g.name=f'.name
   · have:g=f:=by
      have e1:=getF_of_mem hn hg
      have e2:=getF_of_mem hn hf
      rw [hgn,he,e2] at e1
      exact (Option.some.inj e1).symm
     subst this
     exact ⟨f',setF_self hg he.symm,by rw [he];exact h1,by rw [hl];exact h2⟩
   · exact ⟨g,setF_other hg hgn,h1,h2⟩
structure DkX (w:World) (b:Nat) (F:Nat→Prop) (l:List Fl) (mf ml:Nat) (fb:List UInt8→Nat) (col:Nat→Option (List UInt8)):Prop where
 lt:∀ i,F i→i<w.heap.size
 nb:F b∧col b=none
 nf:F mf∧col mf=none
 nl:F ml∧col ml=none
 ne:mf≠ml
 files:FilesM w mf (l.map fun f=>(f.name,fb f.name))
 loose:∃ l2,LooseM w ml l2∧∀ p,p∈l2.map Prod.fst↔LooseIn l p
 each:∀ f∈l,∃ v1 v2,FileAt w (fun i=>F i∧col i=some f.name) (fb f.name) v1 v2 f.now f.lasts
def paint (w:World) (col:Nat→Option (List UInt8)) (nm:List UInt8) (i:Nat):Option (List UInt8):=if w.heap.size≤i then some nm else col i
theorem paint_old {w:World} {col:Nat→Option (List UInt8)} {nm:List UInt8} {i:Nat} (h:i<w.heap.size):paint w col nm i=col i:=by
 unfold paint
 rw [if_neg (by omega)]
theorem paint_new {w:World} {col:Nat→Option (List UInt8)} {nm:List UInt8} {i:Nat} (h:w.heap.size≤i):paint w col nm i=some nm:=by
 unfold paint
 rw [if_pos h]
theorem turns_more {w w':World} {F S:Nat→Prop} (h:Only w w' S) (hS:∀ i,S i→F i):Turns w w' F (more w w' F):=
 ⟨h.weak hS,fun i hi=>by
  rcases hi with hi|⟨h1,_⟩
  · exact .inl hi
  · exact .inr h1⟩
section
variable {w w':World} {b:Nat} {F:Nat→Prop} {l:List Fl} {mf ml:Nat} {fb:List UInt8→Nat} {col:Nat→Option (List UInt8)}
theorem DkX.nodup (h:DkX w b F l mf ml fb col):(l.map (·.name)).Nodup:=by
 have:=h.files.once
 simpa [List.map_map,Function.comp_def] using this
theorem DkX.same (h:DkX w b F l mf ml fb col) (hs:∀ i,F i→w'.heap[i]? = w.heap[i]?) (hsz:w.heap.size≤w'.heap.size):DkX w' b F l mf ml fb col:=by
 obtain ⟨l2,h2,h3⟩:=h.loose
 exact ⟨fun i hi=>Nat.lt_of_lt_of_le (h.lt i hi) hsz,h.nb,h.nf,h.nl,h.ne,h.files.same (hs _ h.nf.1),⟨l2,h2.same (hs _ h.nl.1),h3⟩,fun f hf=>by
  obtain ⟨v1,v2,q⟩:=h.each f hf
  exact ⟨v1,v2,q.same fun i hi=>hs i hi.1⟩⟩
theorem DkX.keep (h:DkX w b F l mf ml fb col) (k:Keeps w w'):DkX w' b F l mf ml fb col:=h.same (fun i hi=>k.block i (h.lt i hi)) k.size
abbrev DkX.own (F:Nat→Prop) (col:Nat→Option (List UInt8)) (nm:List UInt8) (i:Nat):Prop:=F i∧col i=some nm
theorem DkX.turn (h:DkX w b F l mf ml fb col) {f f':Fl} (hf:f∈l) (hn:f'.name=f.name) (hl:∀ k,f'.loose k=f.loose k) {v1 v2:Value} (hO:Only w w' (DkX.own F col f.name)) (hA:FileAt w' (more w w' (DkX.own F col f.name)) (fb f.name) v1 v2 f'.now f'.lasts) :
 DkX w' b (more w w' F) (setF l f') mf ml fb (paint w col f.name):=by
 have hne:∀ i,F i→col i=none→w'.heap[i]? = w.heap[i]?:=fun i hi hc=>hO.block i (h.lt i hi) (fun e=>by have e:=e.2;rw [hc] at e;cases e)
 have hold:∀ i,F i→paint w col f.name i=col i:=fun i hi=>paint_old (h.lt i hi)
 obtain ⟨l2,h2,h3⟩:=h.loose
 refine ⟨fun i hi=>?_,⟨.inl h.nb.1,by rw [hold _ h.nb.1];exact h.nb.2⟩,⟨.inl h.nf.1,by rw [hold _ h.nf.1];exact h.nf.2⟩,⟨.inl h.nl.1,by rw [hold _ h.nl.1];exact h.nl.2⟩,h.ne,?_,⟨l2,h2.same (hne _ h.nl.1 h.nl.2),fun p=>?_⟩,fun g hg=>?_⟩
 · rcases hi with hi|⟨_,hi⟩
   · exact Nat.lt_of_lt_of_le (h.lt i hi) hO.size
   · exact hi
 · rw [names_map l _ fb (setF_names l f')]
   exact h.files.same (hne _ h.nf.1 h.nf.2)
 · rw [h3,looseIn_set h.nodup hf hn hl]
 · rcases mem_setF hg with ⟨rfl,-⟩|⟨hg',hgn⟩
   · rw [hn]
     exact ⟨v1,v2,hA.wide fun i hi=>by
      rcases hi with ⟨hi,hc⟩|⟨h1,h2⟩
      · exact ⟨.inl hi,by rw [hold i hi];exact hc⟩
      · exact ⟨.inr ⟨h1,h2⟩,paint_new h1⟩⟩
   · obtain ⟨u1,u2,q⟩:=h.each g hg'
     refine ⟨u1,u2,(q.same fun i hi=>hO.block i (h.lt i hi.1) (fun e=>hgn ?_)).wide fun i hi=>⟨.inl hi.1,by rw [hold i hi.1];exact hi.2⟩⟩
     have:=hi.2.symm.trans e.2
     rw [hn]
     exact Option.some.inj this
theorem DkX.find (h:DkX w b F l mf ml fb col) (nm:List UInt8):lookM (l.map fun f=>(f.name,fb f.name)) nm=(getF l nm).map fun f=>fb f.name:=look_files l fb nm
theorem DkX.box (h:DkX w b F l mf ml fb col) {cs:Array Value} (hb:Box w b 131 cs) {nm:List UInt8} (hO:Only w w' (DkX.own F col nm)):Box w' b 131 cs:=
 (hO.block b hb.lt (fun e=>by have e:=e.2;rw [h.nb.2] at e;cases e)).trans hb
theorem DkX.setB (h:DkX w b F l mf ml fb col) {cs:Array Value} (hb:Box w b 131 cs) (hO:Only w w' (fun c=>c=b)):DkX w' b F l mf ml fb col:=by
 have hs:∀ i,F i→i≠b→w'.heap[i]? = w.heap[i]?:=fun i hi hne=>hO.block i (h.lt i hi) hne
 obtain ⟨l2,h2,h3⟩:=h.loose
 refine ⟨fun i hi=>Nat.lt_of_lt_of_le (h.lt i hi) hO.size,h.nb,h.nf,h.nl,h.ne,h.files.same (hs _ h.nf.1 (fun e=>h.files.ne hb e.symm)),⟨l2,h2.same (hs _ h.nl.1 (fun e=>h2.ne hb e.symm)),h3⟩,fun f hf=>?_⟩
 obtain ⟨v1,v2,q⟩:=h.each f hf
 exact ⟨v1,v2,q.same fun i hi=>hs i hi.1 (fun e=>by have hi:=hi.2;rw [e,h.nb.2] at hi;cases hi)⟩
end
structure Dk (w:World) (b:Nat) (F:Nat→Prop) (s:Ds):Prop where
 ok:DsOk s
 dead:s.off=true→s.armed=0
 armed:s.armed≤9223372036854775807
 used:usedL s.l≤1048576
 at_:∃ mf ml fb col,Box w b 131 (dkC mf ml s.q s.armed s.off)∧DkX w b F s.l mf ml fb col
section
variable {w w':World} {b:Nat} {F:Nat→Prop} {s:Ds}
theorem Dk.lt (h:Dk w b F s):∀ i,F i→i<w.heap.size:=by
 obtain ⟨mf,ml,fb,col,hb,hx⟩:=h.at_
 exact hx.lt
theorem Dk.same (h:Dk w b F s) (hs:∀ i,F i→w'.heap[i]? = w.heap[i]?) (hsz:w.heap.size≤w'.heap.size):Dk w' b F s:=by
 obtain ⟨mf,ml,fb,col,hb,hx⟩:=h.at_
 exact ⟨h.ok,h.dead,h.armed,h.used,mf,ml,fb,col,(hs b hx.nb.1).trans hb,hx.same hs hsz⟩
end
end Go.Proofs.YtjmkagakdhhigaaGreatDoor
namespace Go.Proofs.YtjmkagakdhhigaaGreatDoor
open Go.RowKit Go.Shelf
section
variable {κ ε:Type} [DecidableEq κ] {P:Program} {M K V:TypeId} {kv:κ→Value} {ev:ε→Value} (w:World) {ops:Array Oper} {o:Oper} {a:Act} {KK:Act→World→Prop} {Q:Exit→Act→World→Prop} {E:Prop}
theorem step_delV (hg:o.guard=none) (m x:Operand) (hop:o.op=Op.call {callee:=Callee.builtin Builtin.delete,args:=#[m,x],argTypes:=#[M,K]}) (T:MapV P M K V kv ev) (b:Nat) (l:List (κ×ε)) (hm:a.eval m = .map (some b)) (h:MapW kv ev w b l) (k:κ) (hx:a.eval x=kv k)
 (hK:∀ w',MapW kv ev w' b (delM l k)→Only w w' (fun c=>c=b)→KK (a.put o.dst (.tuple #[])) w'):if Region.wanted o (yielded ops a.tmps)=true then Oper.wp P o a w KK Q else E:=by
 have hw:Region.wanted o (yielded ops a.tmps)=true:=by simp [Region.wanted,hg]
 rw [if_pos hw]
 obtain ⟨w',hrun,r1,r2⟩:=run_delV T h k o.type
 unfold Oper.wp
 simp [execOp,hop,resolve,invoke,builtin,hm,hx,hrun,Result.andThen]
 exact hK w' r1 r2
theorem step_delIter (hg:o.guard=none) (m x:Operand) (hop:o.op=Op.call {callee:=Callee.builtin Builtin.delete,args:=#[m,x],argTypes:=#[M,K]}) (T:MapV P M K V kv ev) (b r:Nat) (l lf:List (κ×ε)) (hm:a.eval m = .map (some b)) (h:IterV kv ev w b r l lf) (k:κ) (hx:a.eval x=kv k)
 (hK:∀ w',IterV kv ev w' b r (delM l k) (delM lf k)→Only w w' (fun c=>c=b)→KK (a.put o.dst (.tuple #[])) w'):if Region.wanted o (yielded ops a.tmps)=true then Oper.wp P o a w KK Q else E:=by
 have hw:Region.wanted o (yielded ops a.tmps)=true:=by simp [Region.wanted,hg]
 rw [if_pos hw]
 obtain ⟨w',hrun,r1,r2⟩:=run_delIter T h k o.type
 unfold Oper.wp
 simp [execOp,hop,resolve,invoke,builtin,hm,hx,hrun,Result.andThen]
 exact hK w' r1 r2
end
abbrev Pl:=List UInt8×Nat
def keepL (l:List (Pl×Unit)) (pq:Pl→Bool) (ss:List Pl):List (Pl×Unit):=l.filter fun p=>!(decide (p.1∈ss)&&pq p.1)
theorem keepL_nil (l:List (Pl×Unit)) (pq:Pl→Bool):keepL l pq []=l:=by
 unfold keepL
 rw [List.filter_eq_self]
 intro p hp
 simp
theorem keepL_all {l:List (Pl×Unit)} {pq:Pl→Bool} {ss:List Pl} (h:ss.Perm (l.map Prod.fst)):keepL l pq ss=l.filter fun p=>!pq p.1:=by
 unfold keepL
 apply List.filter_congr
 intro p hp
 have:p.1∈ss:=h.mem_iff.2 (List.mem_map_of_mem hp)
 simp [this]
theorem keepL_del (l:List (Pl×Unit)) (pq:Pl→Bool) (ss:List Pl) (x:Pl) (hx:pq x=true):delM (keepL l pq ss) x=keepL l pq (ss++[x]):=by
 unfold keepL delM
 rw [List.filter_filter]
 apply List.filter_congr
 intro p hp
 by_cases e:p.1=x
 · simp [e,hx]
 · simp [e]
theorem keepL_stay (l:List (Pl×Unit)) (pq:Pl→Bool) (ss:List Pl) (x:Pl) (hx:pq x=false):keepL l pq ss=keepL l pq (ss++[x]):=by
 unfold keepL
 apply List.filter_congr
 intro p hp
 by_cases e:p.1=x
 · simp [e,hx]
 · simp [e]
theorem delM_lf {l2:List (Pl×Unit)} {ss:List Pl} {lf lf':List (Pl×Unit)} {x:Pl} {y:Unit} (hn:(l2.map Prod.fst).Nodup) (hP:(ss++lf.map Prod.fst).Perm (l2.map Prod.fst)) (hp:lf.Perm ((x,y)::lf')):delM lf' x=lf':=by
 apply delM_absent
 have h1:(ss++lf.map Prod.fst).Nodup:=hP.nodup_iff.2 hn
 have h2:=(List.nodup_append.1 h1).2.1
 have h3:=((hp.map Prod.fst).nodup_iff).1 h2
 rw [List.map_cons,List.nodup_cons] at h3
 exact h3.1
set_option maxHeartbeats 8000000 in
theorem forget_any {w:World} {b mf ml q armed:Nat} {off:Bool} (h:Box w b 131 (dkC mf ml q armed off)) {l2:List (Pl×Unit)} (hm:LooseM w ml l2) (g:FuncId) (lb:Array Value) (eg:∀ args w,(callFunc g args).run Tryz.prog w = .ok (.enter g args) w)
 (pq:Pl→Bool) (J:List Pl→(Nat→Prop)→World→Prop) (T0:Nat→Prop) (hT:∀ c,T0 c→c<w.heap.size∧c≠b∧c≠ml) (h0:J [] T0 w)
 (hJs:∀ pre T W W',J pre T W→(∀ c,T c→W'.heap[c]? = W.heap[c]?)→W.heap.size≤W'.heap.size→J pre T W')
 (hJl:∀ pre T W,J pre T W→∀ c,T c→c<W.heap.size)
 (hq:∀ pre T (x:Pl) W,J pre T W→pre.length<l2.length→Calls Tryz.prog g (#[.agg #[.string (str x.1), .int .i64 (x.2:Int)]]++lb) W fun e W'=>e = .returned (.bool (pq x))∧∃ T',J (pre++[x]) T' W'∧Turns W W' T T') :
 Calls Tryz.prog 169 #[.pointer (some ⟨b,0,none⟩), .func (.func g) #[] lb] w fun e w'=>e = .returned (.tuple #[])∧∃ ss T',ss.Perm (l2.map Prod.fst)∧J ss T' w'∧LooseM w' ml (l2.filter fun p=>!pq p.1)∧Only w w' (fun c=>c=ml∨T0 c)∧(∀ c,T' c→T0 c∨w.heap.size≤c):=by
 have c1:w.cell? ⟨b,1,none⟩=some (.map (some ml)):=h.cell 1 rfl
 have OM:=zH hm
 have HB:=zH h
 have HNE:=zH (hm.ne h)
 have HT:=zH hT
 have H0:=zH h0
 have JS:=zH hJs
 have JL:=zH hJl
 have HQ:=zH hq
 clear h hm hT h0 hJs hJl hq
 go_enter Tryz.func169,Tryz.ntmps169
 go_wp2_with (at_range;refine wpList_rangeV _ rfl _ rfl looseT ml l2 rfl OM.out ?_;intro w0 hi0 hk0 hs0)
 go_frame
 have HI0:=zH hi0
 have HK0:=zH hk0
 clear hi0 hk0 hs0
 go_loopw [4] (fun _ wr=>∃ (lf:List (Pl×Unit)) (ss:List Pl) (T:Nat→Prop),IterV plV unV wr ml w.heap.size (keepL l2 pq ss) lf∧(ss++lf.map Prod.fst).Perm (l2.map Prod.fst)∧J ss T wr∧Only w wr (fun c=>c=ml∨T0 c)∧(∀ c,T c→T0 c∨w.heap.size<c))
  (fun _ wr=>wr.rangeLeft ml w.heap.size)
 case atStart=>
  refine ⟨l2,[],T0,by rw [keepL_nil];exact HI0.out,by simp,JS.out [] T0 w w0 H0.out (fun c hc=>HK0.out.block c (HT.out c hc).1) HK0.out.size,⟨HK0.out.os,HK0.out.tape,HK0.out.output,HK0.out.size,fun i hi _=>HK0.out.block i hi⟩,fun c hc=>.inl hc⟩
 case round=>
  obtain ⟨lf,ss,T,hI,hP,hJ,hO,hTT⟩:=hrel
  have HI:=zH hI
  have HP:=zH hP
  have HJ:=zH hJ
  have HO:=zH hO
  have HTT:=zH hTT
  clear hI hP hJ hO hTT
  go_wp2_with (at_next;refine wpList_nextV _ rfl _ rfl looseT ml w.heap.size (keepL l2 pq ss) lf rfl HI.out (fun p:List UInt8×Nat=>Value.agg #[.string (str p.1), .int .i64 (p.2:Int)]) rfl (fun _:Unit=>Value.agg #[]) rfl ?_ ?_)
  · intro hd
    have hS:ss.Perm (l2.map Prod.fst):=by have:=HP.out;rw [hd] at this;simpa using this
    have HS:=zH hS
    have HM:=zH (by have:=HI.out.map;rw [keepL_all hS] at this;exact this)
    clear hd hS
    go_wp2
    go_returns
    exact ⟨rfl,ss,T,HS.out,HJ.out,HM.out,HO.out,fun c hc=>by
     rcases HTT.out c hc with e|e
     · exact .inl e
     · exact .inr (Nat.le_of_lt e)⟩
  · rintro xa xb y lf' w2 hp hI2 ho2 hen
    have hlen:ss.length<l2.length:=by
     have h1:=HP.out.length_eq
     have h2:=hp.length_eq
     simp only [List.length_append,List.length_map,List.length_cons] at h1 h2
     omega
    have hlt2:=HI.out.lt
    obtain ⟨w3,hw3⟩:∃ w3,w2.alloc (.cells #[.string (str xa), .int .i64 (xb:Int)] 69)=w3:=⟨_,rfl⟩
    have k3:Keeps w2 w3:=by rw [←hw3];exact zA _ _
    have hTr:∀ c,T c→c≠w.heap.size:=fun c hc e=>by
     rcases HTT.out c hc with h1|h1
     · have:=(HT.out c h1).1;omega
     · omega
    have hTl:∀ c,T c→c<wr.heap.size:=JL.out _ _ _ HJ.out
    have J3:J ss T w3:=JS.out ss T wr w3 HJ.out (fun c hc=>by
     have e1:=ho2.block c (hTl c hc) (hTr c hc)
     exact (k3.block c (Nat.lt_of_lt_of_le (hTl c hc) ho2.size)).trans e1) (Nat.le_trans ho2.size k3.size)
    have I3:=hI2.keep k3
    have B3:Box w3 w2.heap.size 69 #[.string (str xa), .int .i64 (xb:Int)]:=by rw [←hw3];exact Box.new _ _ _
    have HQ3':=HQ.out ss T (xa,xb) w3 J3 hlen
    have O3:Only w w3 (fun c=>c=ml∨T0 c):=(HO.out.trans (S1:=fun c=>c=w.heap.size) ho2 (fun i hi=>.inr (by omega))).keep k3
    have hwl:w.heap.size<w3.heap.size:=by have:=hlt2.2;have:=ho2.size;have:=k3.size;omega
    have HB3:=zH B3
    have HI3:=zH I3
    have HJ3:=zH J3
    have HO3:=zH O3
    have HPP:=zH hp
    have HTL:=zH hTl
    have HW:=zH (show wr.heap.size≤w2.heap.size from ho2.size)
    have HTR:=zH hTr
    have b0:w3.cell? ⟨w2.heap.size,0,none⟩=some (.string (str xa)):=B3.cell 0 rfl
    have b1:w3.cell? ⟨w2.heap.size,1,none⟩=some (.int .i64 (xb:Int)):=B3.cell 1 rfl
    clear hp hI2 ho2 hlt2 k3 J3 I3 O3 B3 hTl hTr hlen
    have FIN:=zH (show ∀ w4 T4,J (ss++[(xa,xb)]) T4 w4→Turns w3 w4 T T4→IterV plV unV w4 ml w.heap.size (keepL l2 pq ss) lf'∧Only w w4 (fun c=>c=ml∨T0 c)∧(∀ c,T4 c→T0 c∨w.heap.size<c)∧Box w4 w2.heap.size 69 #[.string (str xa), .int .i64 (xb:Int)]∧Box w4 b 131 (dkC mf ml q armed off) from fun w4 T4 hJ4 hT4=>by
     have hTm:∀ c,c<w.heap.size→¬ T0 c→¬ T c:=fun c hc hn hh=>by
      rcases HTT.out c hh with e|e
      · exact hn e
      · omega
     have I4:=HI3.out.same (w':=w4) (hT4.only.block ml HI3.out.lt.1 (hTm ml OM.out.lt (fun e=>(HT.out ml e).2.2 rfl))) (hT4.only.block _ HI3.out.lt.2 (fun e=>HTR.out _ e rfl))
     have O4:Only w w4 (fun c=>c=ml∨T0 c):=HO3.out.trans hT4.only (fun i hi=>by
      rcases HTT.out i hi with e|e
      · exact .inl (.inr e)
      · exact .inr (Nat.le_of_lt e))
     refine ⟨I4,O4,fun c hc=>?_,?_,?_⟩
     · rcases hT4.next c hc with e|e
       · exact HTT.out c e
       · exact .inr (Nat.lt_of_lt_of_le hwl e)
     · exact (hT4.only.block _ HB3.out.lt (fun e=>by have:=HTL.out _ e;have:=HW.out;omega)).trans HB3.out
     · exact (O4.block b HB.out.lt (fun e=>by
        rcases e with e|e
        · exact HNE.out e
        · exact (HT.out b e).2.1 rfl)).trans HB.out)
    have PERM:=zH (show ((ss++[(xa,xb)])++lf'.map Prod.fst).Perm (l2.map Prod.fst) by
     have h1:=HPP.out.map Prod.fst
     have h2:(ss++lf.map Prod.fst).Perm ((ss++[(xa,xb)])++lf'.map Prod.fst):=by
      rw [List.append_assoc]
      exact List.Perm.append_left ss (by simpa using h1)
     exact h2.symm.trans HP.out)
    have LEN:=zH (show lf.length=lf'.length+1 by have:=HPP.out.length_eq;simpa using this)
    cases hx:pq (xa,xb) with
    | false=>
     rw [hx] at HQ3'
     have HQ3:=zH HQ3'
     clear HQ3'
     go_wp2_with (go_at_fn g;refine HQ3.out.mono ?_;rintro e w4 ⟨rfl,T4,hJ4,hT4⟩)
     obtain ⟨I4,O4,T4c,-,-⟩:=FIN.out w4 T4 hJ4 hT4
     rw [keepL_stay l2 pq ss (xa,xb) hx] at I4
     exact ⟨⟨lf',ss++[(xa,xb)],T4,I4,PERM.out,hJ4,O4,T4c⟩,by rw [I4.left_eq,HI.out.left_eq,LEN.out];omega⟩
    | true=>
     rw [hx] at HQ3'
     have HQ3:=zH HQ3'
     have DL:=zH (delM_lf OM.out.once HP.out HPP.out)
     have KD:=zH (keepL_del l2 pq ss (xa,xb) hx)
     clear HQ3' hx
     go_wp2_with (go_at_fn g;refine HQ3.out.mono ?_;rintro e w4 ⟨rfl,T4,hJ4,hT4⟩)
     obtain ⟨I4,O4,T4c,B4,D4⟩:=FIN.out w4 T4 hJ4 hT4
     have d1:w4.cell? ⟨b,1,none⟩=some (.map (some ml)):=D4.cell 1 rfl
     have p0:w4.cell? ⟨w2.heap.size,0,none⟩=some (.string (str xa)):=B4.cell 0 rfl
     have p1:w4.cell? ⟨w2.heap.size,1,none⟩=some (.int .i64 (xb:Int)):=B4.cell 1 rfl
     have HI4:=zH I4
     have HO4:=zH O4
     have HT4:=zH T4c
     have HJ4:=zH hJ4
     have HML:=zH (show ∀ c,T4 c→c≠ml from fun c hc e=>by
      rcases T4c c hc with h1|h1
      · exact (HT.out c h1).2.2 e
      · have:=OM.out.lt;omega)
     clear I4 O4 T4c B4 D4 hJ4 hT4 b0 b1 c1
     go_region_law ((refine step_delIter _ rfl (.tmp 20) (.tmp 21) rfl looseT ml w.heap.size (keepL l2 pq ss) lf' (by simp [Act.eval,Act.put]) (HI4.out.keep (zD _)) (xa,xb) (by simp [Act.eval,Act.put,plV]) ?_);intro w5 hI5 hO5)
     all_goals
      rw [KD.out,DL.out] at hI5
      have k4:Keeps w4 w4.drew:=zD _
      have O5:Only w w5 (fun c=>c=ml∨T0 c):=(HO4.out.keep k4).trans hO5 (fun i hi=>.inl (.inl hi))
      have J5:J (ss++[(xa,xb)]) T4 w5:=JS.out _ T4 w4 w5 HJ4.out (fun c hc=>hO5.block c (JL.out _ _ _ HJ4.out c hc) (HML.out c hc)) hO5.size
      have LE:=zH (show w5.rangeLeft ml w.heap.size<wr.rangeLeft ml w.heap.size by rw [hI5.left_eq,HI.out.left_eq,LEN.out];omega)
      have I5:=zH hI5
      have O5h:=zH O5
      have J5h:=zH J5
      clear hI5 hO5 O5 J5 k4
      go_wp2_with fail
      exact ⟨⟨lf',ss++[(xa,xb)],T4,I5.out,PERM.out,J5h.out,O5h.out,HT4.out⟩,LE.out⟩
section
variable {w w':World} {b:Nat} {F:Nat→Prop} {s:Ds}
theorem gone_parts (h:Dk w b F s):(goneS s).l=s.l∧(goneS s).q=s.q∧(goneS s).armed=fuseA s.armed∧(goneS s).off=fuseO s.armed s.off:=by
 have hd:=h.dead
 unfold goneS fuseA fuseO
 by_cases h0:0<s.armed
 · rw [if_pos h0,if_pos h0]
   have:s.off=false:=by
    cases ho:s.off with
    | false=>rfl
    | true=>have:=hd ho;omega
   simp [this]
 · rw [if_neg h0,if_neg h0]
   refine ⟨rfl,rfl,?_,rfl⟩
   omega
theorem begin_dk (h:Dk w b F s):Calls Tryz.prog 159 #[.pointer (some ⟨b,0,none⟩)] w fun e w'=>e = .returned (.int .i64 (pwr (goneS s).off))∧Dk w' b F (goneS s)∧Only w w' (fun c=>c=b):=by
 obtain ⟨g1,g2,g3,g4⟩:=gone_parts h
 obtain ⟨mf,ml,fb,col,hb,hx⟩:=h.at_
 refine (begin_any hb h.armed).mono ?_
 rintro e w' ⟨rfl,hb',hO⟩
 refine ⟨by rw [g4],⟨⟨by rw [g1];exact h.ok.rise,by rw [g1];exact h.ok.files,by rw [g2];exact h.ok.q⟩,?_,?_,by rw [g1];exact h.used,mf,ml,fb,col,by rw [g2,g3,g4];exact hb',by rw [g1];exact hx.setB hb hO⟩,hO⟩
 · rw [g3,g4]
   unfold fuseO fuseA
   intro ho
   split at ho
   · have:=of_decide_eq_true ho;omega
   · have:=h.dead ho;omega
 · rw [g3]
   unfold fuseA
   have:=h.armed
   omega
theorem Dk.turnsB (h:Dk w b F s) (hO:Only w w' (fun c=>c=b)):Turns w w' F F:=by
 obtain ⟨mf,ml,fb,col,hb,hx⟩:=h.at_
 exact ⟨hO.weak (fun i hi=>by rw [hi];exact hx.nb.1),fun _ hi=>.inl hi⟩
theorem power_dk (h:Dk w b F s):Calls Tryz.prog 205 #[.pointer (some ⟨b,0,none⟩)] w fun e w'=>e = .returned (.int .i64 (pwr s.off))∧w=w':=by
 obtain ⟨mf,ml,fb,col,hb,hx⟩:=h.at_
 exact checkPower_any hb
def foundV (s:Ds) (fb:List UInt8→Nat) (nm:List UInt8):Value×Int:=if nameOk nm=false then (.pointer none,1) else match getF s.l nm with
 | none=>(.pointer none,3)
 | some f=>(.pointer (some ⟨fb f.name,0,none⟩),0)
theorem find_dk {mf ml:Nat} {fb:List UInt8→Nat} {col:Nat→Option (List UInt8)} {q armed:Nat} {off:Bool} (hb:Box w b 131 (dkC mf ml q armed off)) (hx:DkX w b F s.l mf ml fb col) (nm:List UInt8) (hnm:nm.length≤maxLen) :
 Calls Tryz.prog 160 #[.pointer (some ⟨b,0,none⟩), .string (str nm)] w fun e w'=>e = .returned (.tuple #[(foundV s fb nm).1, .int .i64 (foundV s fb nm).2])∧w=w':=by
 refine find_any hb hx.files nm hnm _ _ ?_
 rw [hx.find]
 unfold findA foundV
 by_cases h:nameOk nm=false
 · rw [if_pos h,if_pos h]
 · rw [if_neg h,if_neg h]
   cases getF s.l nm<;>rfl
theorem only_cell (w:World) (b i:Nat) (v:Value):Only w (w.setCell ⟨b,i,none⟩ v) (fun c=>c=b):=⟨rfl,rfl,rfl,by simp,fun j _ hn=>Below.heap_setCell _ ⟨b,i,none⟩ _ j hn⟩
theorem quota_any (h:Dk w b F s) (n:Int) (h1 : -9223372036854775808≤n) (h2:n≤9223372036854775807):Calls Tryz.prog 47 #[dpt b, .int .i64 n] w fun e w'=>e = .returned (.int .i64 ((quotaS s n).2:Int))∧∃ F',Dk w' b F' (quotaS s n).1∧Turns w w' F F':=by
 have H:=zH h
 obtain ⟨mf,ml,fb,col,hb,hx⟩:=h.at_
 have f2:=hb.frozen 2
 have c2:w.cell? ⟨b,2,none⟩=some (.int .i64 (s.q:Int)):=hb.cell 2 rfl
 have hl:=hb.lt
 have IQ:=zH (isQuota_any n)
 show Calls _ _ #[.pointer (some ⟨b,0,none⟩),_] w _
 by_cases hq:0≤n∧n≤1048576
 · have e:quotaS s n=({s with q:=n.toNat},0):=by unfold quotaS;rw [if_neg (by omega)]
   rw [e]
   rw [decide_eq_true hq] at IQ
   have B2:=hb.set 2 (.int .i64 n)
   have FIN:=zH (show Dk (w.setCell ⟨b,2,none⟩ (.int .i64 n)) b F {s with q:=n.toNat}∧Turns w (w.setCell ⟨b,2,none⟩ (.int .i64 n)) F F from
    ⟨⟨⟨h.ok.rise,h.ok.files,by show n.toNat≤1048576;omega⟩,h.dead,h.armed,h.used,mf,ml,fb,col,by
     have e2:((n.toNat:Nat):Int)=n:=by omega
     have:dkC mf ml n.toNat s.armed s.off=(dkC mf ml s.q s.armed s.off).setIfInBounds 2 (.int .i64 n):=by unfold dkC;rw [e2];rfl
     rw [this]
     exact B2,hx.setB hb (only_cell w b 2 _)⟩,h.turnsB (only_cell w b 2 _)⟩)
   clear h hb hx B2 e hq
   go_enter Tryz.func47,Tryz.ntmps47
   go_wp2_with (go_at_call 84;refine (IQ.out _).mono ?_;rintro e w' ⟨rfl,rfl⟩)
   go_ret
   exact ⟨rfl,F,FIN.out⟩
 · have e:quotaS s n=(s,1):=by unfold quotaS;rw [if_pos (by omega)]
   rw [e]
   rw [decide_eq_false hq] at IQ
   clear h hb hx e hq
   go_enter Tryz.func47,Tryz.ntmps47
   go_wp2_with (go_at_call 84;refine (IQ.out _).mono ?_;rintro e w' ⟨rfl,rfl⟩)
   go_ret
   exact ⟨rfl,F,H.out,Turns.refl _ _⟩
set_option maxHeartbeats 4000000 in
theorem size_any (h:Dk w b F s) (nm:List UInt8) (hnm:nm.length≤maxLen):Calls Tryz.prog 163 #[dpt b,strV nm] w fun e w'=>e = .returned (.tuple #[.int .i64 ((sizeS s nm).1:Int), .int .i64 ((sizeS s nm).2:Int)])∧Keeps w w':=by
 obtain ⟨mf,ml,fb,col,hb,hx⟩:=h.at_
 have P:=zH (power_dk h)
 have FD:=zH (find_dk hb hx nm hnm)
 show Calls _ _ #[.pointer (some ⟨b,0,none⟩), .string (str nm)] w _
 cases ho:s.off
 · rw [ho] at P
   cases hn:nameOk nm
   · have e:sizeS s nm=(0,1):=by unfold sizeS;rw [ho,hn];simp
     have e2:foundV s fb nm=(.pointer none,1):=by unfold foundV;rw [if_pos hn]
     rw [e]
     rw [e2] at FD
     clear h hb hx e e2
     go_enter Tryz.func163,Tryz.ntmps163
     go_wp2_with (first
      | (go_at_call 205;refine P.out.mono ?_;rintro e w' ⟨rfl,rfl⟩)
      | (go_at_call 160;refine FD.out.mono ?_;rintro e w' ⟨rfl,rfl⟩))
     exact bodyPost_ret (v:=.tuple #[.int .i64 0, .int .i64 1]) (by simp [results,Tryz.results163,go_sem]) rfl ⟨rfl,keeps_refl _⟩
   · cases hg:getF s.l nm with
     | none=>
      have e:sizeS s nm=(0,3):=by unfold sizeS;rw [ho,hn,hg];simp
      have e2:foundV s fb nm=(.pointer none,3):=by unfold foundV;rw [if_neg (by rw [hn];simp),hg]
      rw [e]
      rw [e2] at FD
      clear h hb hx e e2
      go_enter Tryz.func163,Tryz.ntmps163
      go_wp2_with (first
       | (go_at_call 205;refine P.out.mono ?_;rintro e w' ⟨rfl,rfl⟩)
       | (go_at_call 160;refine FD.out.mono ?_;rintro e w' ⟨rfl,rfl⟩))
      exact bodyPost_ret (v:=.tuple #[.int .i64 0, .int .i64 3]) (by simp [results,Tryz.results163,go_sem]) rfl ⟨rfl,keeps_refl _⟩
     | some f=>
      have e:sizeS s nm=(f.now.length,0):=by unfold sizeS;rw [ho,hn,hg];simp
      have e2:foundV s fb nm=(.pointer (some ⟨fb f.name,0,none⟩),0):=by unfold foundV;rw [if_neg (by rw [hn];simp),hg]
      rw [e]
      rw [e2] at FD
      obtain ⟨v1,v2,q⟩:=hx.each f (getF_mem hg)
      obtain ⟨A,cap,rfl,-⟩:=q.own1.form
      have c0:=q.box.cell 0 rfl
      clear h hb hx e e2 q
      go_enter Tryz.func163,Tryz.ntmps163
      go_wp2_with (first
       | (go_at_call 205;refine P.out.mono ?_;rintro e w' ⟨rfl,rfl⟩)
       | (go_at_call 160;refine FD.out.mono ?_;rintro e w' ⟨rfl,rfl⟩))
      exact bodyPost_ret (v:=.tuple #[.int .i64 (f.now.length:Int), .int .i64 0]) (by simp [results,Tryz.results163,go_sem]) rfl ⟨rfl,keeps_refl _⟩
 · rw [ho] at P
   have e:sizeS s nm=(0,6):=by unfold sizeS;rw [ho];simp
   rw [e]
   clear h hb hx e
   go_enter Tryz.func163,Tryz.ntmps163
   go_wp2_with (go_at_call 205;refine P.out.mono ?_;rintro e w' ⟨rfl,rfl⟩)
   exact bodyPost_ret (v:=.tuple #[.int .i64 0, .int .i64 6]) (by simp [results,Tryz.results163,go_sem,pwr]) rfl ⟨rfl,keeps_refl _⟩
end
theorem usedL_perm {l m:List Fl} (h:l.Perm m):usedL l=usedL m:=by
 unfold usedL
 exact (h.map _).sum_nat
section
variable {w w':World} {b:Nat} {F:Nat→Prop} {s:Ds}
theorem take_file {fb:List UInt8→Nat} {gl:List Fl} {lf lf':List (List UInt8×Nat)} {e:List UInt8×Nat} (h1:lf.Perm (gl.map fun f=>(f.name,fb f.name))) (h2:lf.Perm (e::lf')) :
 ∃ f gl',e=(f.name,fb f.name)∧gl.Perm (f::gl')∧lf'.Perm (gl'.map fun f=>(f.name,fb f.name)):=by
 have h3:=h2.symm.trans h1
 have hm:e∈gl.map fun f=>(f.name,fb f.name):=h3.mem_iff.1 (List.mem_cons_self)
 obtain ⟨f,hf,rfl⟩:=List.mem_map.1 hm
 obtain ⟨a,c,rfl⟩:=List.append_of_mem hf
 refine ⟨f,a++c,rfl,List.perm_middle,?_⟩
 have h4:((a++f::c).map fun f=>(f.name,fb f.name)).Perm ((f.name,fb f.name)::(a++c).map fun f=>(f.name,fb f.name)):=by
  have:=(List.perm_middle (a:=f) (l₁:=a) (l₂:=c)).map fun f=>(f.name,fb f.name)
  exact this
 exact (h3.trans h4).cons_inv
set_option maxHeartbeats 4000000 in
theorem used_any (h:Dk w b F s):Calls Tryz.prog 242 #[dpt b] w fun e w'=>e = .returned (.int .i64 (usedL s.l:Int))∧Keeps w w':=by
 obtain ⟨mf,ml,fb,col,hb,hx⟩:=h.at_
 have c0:w.cell? ⟨b,0,none⟩=some (.map (some mf)):=hb.cell 0 rfl
 have OM:=zH hx.files
 have EA:=zH hx.each
 have OK:=zH h.ok.files
 have SE:=zH sectorsOf_any
 obtain ⟨total,htot⟩:∃ t,t=usedL s.l:=⟨_,rfl⟩
 have hb2:total≤1048576:=by rw [htot];exact h.used
 have TOT:=zH htot
 have hbi:(total:Int)≤1048576:=by omega
 rw [←htot]
 clear h hb hx htot
 show Calls _ _ #[.pointer (some ⟨b,0,none⟩)] w _
 go_enter Tryz.func242,Tryz.ntmps242
 go_wp2_with (at_range;refine wpList_rangeV _ rfl _ rfl filesT mf _ rfl OM.out ?_;intro w0 hi0 hk0 hs0)
 go_frame
 have HI0:=zH hi0
 have HK0:=zH hk0
 clear hi0 hk0 hs0
 go_loopw [3,5] (fun t _ wr=>∃ (acc:Nat) (gl:List Fl) (lf:List (List UInt8×Nat)),t = .int .i64 (acc:Int)∧acc+usedL gl=total∧(∀ f∈gl,f∈s.l)∧IterV strW dpt wr mf w.heap.size (s.l.map fun f=>(f.name,fb f.name)) lf∧lf.Perm (gl.map fun f=>(f.name,fb f.name))∧Keeps w wr)
  (fun _ _ wr=>wr.rangeLeft mf w.heap.size)
 case atStart=>exact ⟨0,s.l,_,rfl,by rw [TOT.out];omega,fun f hf=>hf,HI0.out, .refl _,HK0.out⟩
 case round=>
  obtain ⟨acc,gl,lf,rfl,hacc,hgl,hI,hP,hkw⟩:=hrel
  have HA:=zH hacc
  have HG:=zH hgl
  have HI:=zH hI
  have HP:=zH hP
  have HKW:=zH hkw
  clear hacc hgl hI hP hkw
  go_wp2_with (at_next;refine wpList_nextV _ rfl _ rfl filesT mf w.heap.size _ lf rfl HI.out (fun s:List UInt8=>Value.string (str s)) rfl (fun k:Nat=>Value.pointer (some ⟨k,0,none⟩)) rfl ?_ ?_)
  · intro hd
    have hz:acc=total:=by
     have h1:=HP.out.length_eq
     rw [hd] at h1
     have h2:gl=[]:=List.eq_nil_of_length_eq_zero (by simpa using h1.symm)
     have h3:=HA.out
     rw [h2] at h3
     simpa [usedL] using h3
    subst hz
    clear hd
    go_wp2
    go_ret
    exact ⟨rfl,HKW.out⟩
  · rintro nm k lf' w2 hp hI2 ho2 hen
    obtain ⟨f,gl',he,hg2,hl2⟩:=take_file HP.out hp
    obtain ⟨rfl,rfl⟩:nm=f.name∧k=fb f.name:=by simpa using he
    have hfm:f∈s.l:=HG.out f (hg2.mem_iff.2 List.mem_cons_self)
    obtain ⟨v1,v2,q⟩:=EA.out f hfm
    obtain ⟨A,cap,rfl,-⟩:=q.own1.form
    have hr0:w.heap.size<w0.heap.size:=HI0.out.lt.2
    have kw2:Keeps w w2:=⟨ho2.os.trans HKW.out.os,ho2.tape.trans HKW.out.tape,ho2.output.trans HKW.out.output,Nat.le_trans HKW.out.size ho2.size,fun i hi=>(ho2.block i (Nat.lt_of_lt_of_le hi HKW.out.size) (by omega)).trans (HKW.out.block i hi)⟩
    have bx:=q.box.keep kw2
    have c0':w2.cell? ⟨fb f.name,0,none⟩=some (.slice A f.now.length cap):=bx.cell 0 rfl
    have hsz:=(OK.out f hfm).size
    have e1:acc+(sect f.now.length+usedL gl')=total:=by rw [←usedL_cons,←usedL_perm hg2];exact HA.out
    have hs1:(sect f.now.length:Int)≤1048576:=by omega
    have hs2:(acc:Int)+(sect f.now.length:Int)≤1048576:=by omega
    have S1:=zH (SE.out f.now.length (by omega) w2)
    have E1:=zH e1
    have G1:=zH (show ∀ g∈gl',g∈s.l from fun g hg=>HG.out g (hg2.mem_iff.2 (List.mem_cons_of_mem _ hg)))
    have I2:=zH hI2
    have L2:=zH hl2
    have PP:=zH hp
    have KW2:=zH kw2
    have LEN:=zH (show lf.length=lf'.length+1 by have:=hp.length_eq;simpa using this)
    have hsn:(((acc+sect f.now.length:Nat)):Int)=(acc:Int)+(sect f.now.length:Int):=by omega
    clear he hg2 hl2 hp hI2 ho2 kw2 bx q hfm e1 hr0 hsz
    generalize sect f.now.length=sl at *
    go_wp2_with (go_at_call 241;refine S1.out.mono ?_;rintro e w' ⟨rfl,rfl⟩)
    first
     | exact ⟨⟨acc+sl,gl',lf',by rw [hsn],by have:=E1.out;omega,G1.out,I2.out,L2.out,KW2.out⟩,by rw [I2.out.left_eq,HI.out.left_eq,LEN.out];omega⟩
end
theorem new_dk (w:World) (q:Int) (hq:0≤q∧q≤1048576) :
 Dk (((w.alloc (.map #[] 0)).alloc (.map #[] 0)).alloc (.cells #[.map (some w.heap.size), .map (some (w.heap.size+1)), .int .i64 q, .int .i64 0, .bool false] 131)) (w.heap.size+1+1) (fun i=>w.heap.size≤i∧i<w.heap.size+3) ⟨[],q.toNat,0,false⟩∧
 (∀ i,(fun i=>w.heap.size≤i∧i<w.heap.size+3) i→w.heap.size≤i)∧Keeps w (((w.alloc (.map #[] 0)).alloc (.map #[] 0)).alloc (.cells #[.map (some w.heap.size), .map (some (w.heap.size+1)), .int .i64 q, .int .i64 0, .bool false] 131)):=by
 have k1:=zA w (.map #[] 0)
 have k2:=zA (w.alloc (.map #[] 0)) (.map #[] 0)
 have k3:=zA ((w.alloc (.map #[] 0)).alloc (.map #[] 0)) (.cells #[.map (some w.heap.size), .map (some (w.heap.size+1)), .int .i64 q, .int .i64 0, .bool false] 131)
 have m1:=((MapW.new strW dpt w).keep k2).keep k3
 have m2:=(MapW.new plV unV (w.alloc (.map #[] 0))).keep k3
 have bx:=Box.new ((w.alloc (.map #[] 0)).alloc (.map #[] 0)) 131 #[.map (some w.heap.size), .map (some (w.heap.size+1)), .int .i64 q, .int .i64 0, .bool false]
 simp only [World.size_alloc] at m2 bx
 have hqn:((q.toNat:Nat):Int)=q:=by omega
 refine ⟨⟨⟨List.Pairwise.nil,(fun f hf=>by cases hf),by show q.toNat≤1048576;omega⟩,(fun hh=>by cases hh),by show 0≤_;omega,by simp [usedL],w.heap.size,w.heap.size+1,fun _=>0,fun _=>none,?_,⟨fun i hi=>by simp;omega,⟨⟨by omega,by omega⟩,rfl⟩,⟨⟨by omega,by omega⟩,rfl⟩,⟨⟨by omega,by omega⟩,rfl⟩,by omega,m1,⟨[],m2,fun p=>?_⟩,fun f hf=>by cases hf⟩⟩,fun i hi=>hi.1,zK (zK k1 k2) k3⟩
 · unfold dkC
   show Box _ _ _ #[_,_, .int .i64 ((q.toNat:Nat):Int),_,_]
   rw [hqn]
   exact bx
 · constructor
   · intro h;cases h
   · rintro ⟨f,hf,_⟩;cases hf
theorem new_any (q:Int) (w:World) (h1 : -9223372036854775808≤q) (h2:q≤9223372036854775807) :
 Calls Tryz.prog 41 #[.int .i64 q] w fun e w'=>
  (0≤q∧q≤1048576∧∃ b F,e = .returned (.tuple #[dpt b, .int .i64 0])∧Dk w' b F ⟨[],q.toNat,0,false⟩∧(∀ i,F i→w.heap.size≤i)∧Keeps w w')∨
  ((q<0∨1048576<q)∧e = .returned (.tuple #[.pointer none, .int .i64 1])∧Keeps w w'):=by
 have hmm:=@run_makeMap Tryz.prog
 have NEWD:=zH (new_dk w q)
 have IQ:=zH (isQuota_any q)
 by_cases hq:0≤q∧q≤1048576
 · rw [decide_eq_true hq] at IQ
   have HQ:=zH hq
   clear hq
   go_enter Tryz.func41,Tryz.ntmps41
   go_wp2_with (go_at_call 84;refine (IQ.out _).mono ?_;rintro e w' ⟨rfl,rfl⟩)
   have FIN:=NEWD.out HQ.out
   exact bodyPost_ret (v:=.tuple #[.pointer (some ⟨w.heap.size+1+1,0,none⟩), .int .i64 0]) (by simp [results,Tryz.results41,go_sem]) rfl (.inl ⟨HQ.out.1,HQ.out.2,w.heap.size+1+1,_,rfl,FIN⟩)
 · rw [decide_eq_false hq] at IQ
   have HQ:=zH (show q<0∨1048576<q by omega)
   clear hq
   go_enter Tryz.func41,Tryz.ntmps41
   go_wp2_with (go_at_call 84;refine (IQ.out _).mono ?_;rintro e w' ⟨rfl,rfl⟩)
   exact bodyPost_ret (v:=.tuple #[.pointer none, .int .i64 1]) (by simp [results,Tryz.results41,go_sem]) rfl (.inr ⟨HQ.out,rfl,keeps_refl _⟩)
section
variable {w w':World} {b:Nat} {F:Nat→Prop} {s:Ds}
theorem foundV_bad {fb:List UInt8→Nat} {nm:List UInt8} (h:nameOk nm=false):foundV s fb nm=(.pointer none,1):=by unfold foundV;rw [if_pos h]
theorem foundV_none {fb:List UInt8→Nat} {nm:List UInt8} (h:nameOk nm=true) (hg:getF s.l nm=none):foundV s fb nm=(.pointer none,3):=by unfold foundV;rw [if_neg (by rw [h];simp),hg]
theorem foundV_some {fb:List UInt8→Nat} {nm:List UInt8} {f:Fl} (h:nameOk nm=true) (hg:getF s.l nm=some f):foundV s fb nm=(.pointer (some ⟨fb f.name,0,none⟩),0):=by unfold foundV;rw [if_neg (by rw [h];simp),hg]
set_option maxHeartbeats 8000000 in
theorem read_any (h:Dk w b F s) (nm:List UInt8) (off n:Int) (hnm:nm.length≤maxLen) (h1 : -9223372036854775808≤off) (h2:off≤9223372036854775807) (h3 : -9223372036854775808≤n) (h4:n≤9223372036854775807) :
 Calls Tryz.prog 261 #[dpt b,strV nm, .int .i64 off, .int .i64 n] w fun e w'=>∃ v,e = .returned (.tuple #[v, .int .i64 ((readS s nm off n).2:Int)])∧Own w' w.heap.size 5 1 v (readS s nm off n).1.length (cel (readS s nm off n).1)∧Keeps w w':=by
 have H:=zH h
 obtain ⟨mf,ml,fb,col,hb,hx⟩:=h.at_
 have P:=zH (power_dk h)
 have FD:=zH (find_dk hb hx nm hnm)
 show Calls _ _ #[.pointer (some ⟨b,0,none⟩), .string (str nm),_,_] w _
 have NIL:=zH (fun (V:World)=>Own.nil V w.heap.size 5 1)
 cases ho:s.off
 · rw [ho] at P
   by_cases hneg:off<0∨n<0
   · have e:readS s nm off n=([],1):=by unfold readS;rw [ho];simp;omega
     rw [e]
     clear h hb hx e FD
     rcases hneg with hn|hn
     · go_enter Tryz.func261,Tryz.ntmps261
       go_wp2_with (go_at_call 205;refine P.out.mono ?_;rintro e w' ⟨rfl,rfl⟩)
       exact bodyPost_ret (v:=.tuple #[.slice none 0 0, .int .i64 1]) (by simp [results,Tryz.results261,go_sem]) rfl ⟨_,rfl,NIL.out _,keeps_refl _⟩
     · by_cases hoff:off<0
       · go_enter Tryz.func261,Tryz.ntmps261
         go_wp2_with (go_at_call 205;refine P.out.mono ?_;rintro e w' ⟨rfl,rfl⟩)
         exact bodyPost_ret (v:=.tuple #[.slice none 0 0, .int .i64 1]) (by simp [results,Tryz.results261,go_sem]) rfl ⟨_,rfl,NIL.out _,keeps_refl _⟩
       · go_enter Tryz.func261,Tryz.ntmps261
         go_wp2_with (go_at_call 205;refine P.out.mono ?_;rintro e w' ⟨rfl,rfl⟩)
         exact bodyPost_ret (v:=.tuple #[.slice none 0 0, .int .i64 1]) (by simp [results,Tryz.results261,go_sem]) rfl ⟨_,rfl,NIL.out _,keeps_refl _⟩
   · obtain ⟨o,rfl⟩:=Int.eq_ofNat_of_zero_le (show 0≤off by omega)
     obtain ⟨m,rfl⟩:=Int.eq_ofNat_of_zero_le (show 0≤n by omega)
     have hn1:¬ (o:Int)<0:=by omega
     have hn2:¬ (m:Int)<0:=by omega
     cases hn:nameOk nm
     · have e:readS s nm o m=([],1):=by unfold readS;rw [ho,hn];simp
       rw [e]
       rw [foundV_bad hn] at FD
       clear h hb hx e hneg
       go_enter Tryz.func261,Tryz.ntmps261
       go_wp2_with (first
        | (go_at_call 205;refine P.out.mono ?_;rintro e w' ⟨rfl,rfl⟩)
        | (go_at_call 160;refine FD.out.mono ?_;rintro e w' ⟨rfl,rfl⟩))
       exact bodyPost_ret (v:=.tuple #[.slice none 0 0, .int .i64 1]) (by simp [results,Tryz.results261,go_sem]) rfl ⟨_,rfl,NIL.out _,keeps_refl _⟩
     · cases hg:getF s.l nm with
       | none=>
        have e:readS s nm o m=([],3):=by unfold readS;rw [ho,hn,hg];simp
        rw [e]
        rw [foundV_none hn hg] at FD
        clear h hb hx e hneg
        go_enter Tryz.func261,Tryz.ntmps261
        go_wp2_with (first
         | (go_at_call 205;refine P.out.mono ?_;rintro e w' ⟨rfl,rfl⟩)
         | (go_at_call 160;refine FD.out.mono ?_;rintro e w' ⟨rfl,rfl⟩))
        exact bodyPost_ret (v:=.tuple #[.slice none 0 0, .int .i64 3]) (by simp [results,Tryz.results261,go_sem]) rfl ⟨_,rfl,NIL.out _,keeps_refl _⟩
       | some f=>
        have e:readS s nm o m=((f.now.drop o).take m,0):=by unfold readS;rw [ho,hn,hg];simp
        rw [e]
        rw [foundV_some hn hg] at FD
        obtain ⟨v1,v2,q⟩:=hx.each f (getF_mem hg)
        have hsz:=(h.ok.files f (getF_mem hg)).size
        obtain ⟨A,cap,rfl,hcap,hcm,-⟩:=q.own1.form
        have c0:w.cell? ⟨fb f.name,0,none⟩=some (.slice A f.now.length cap):=q.box.cell 0 rfl
        have hBs:Bs w A f.now:=q.own1.at_
        have hA0:A=none→cap=0:=fun ea=>by
         have:=q.own1
         rw [ea] at this
         exact this.nil_len.2
        clear h hb hx e hneg q
        generalize f.now=now at *
        obtain ⟨p,hp⟩:∃ p,p=min o now.length:=⟨_,rfl⟩
        obtain ⟨r,hr⟩:∃ r,r=min m (now.length-p):=⟨_,rfl⟩
        have hmin1:∀ (ts:Array TypeId) (t:TypeId) (w:World),(Builtin.min_ ts t #[.int .i64 (o:Int), .int .i64 (now.length:Int)]).run Tryz.prog w = .ok (.int .i64 (p:Int)) w:=by
         intro ts t w
         rw [run_min_int2]
         congr 2
         split<;>omega
        have hmin2:∀ (ts:Array TypeId) (t:TypeId) (w:World),(Builtin.min_ ts t #[.int .i64 (m:Int), .int .i64 ((now.length-p:Nat):Int)]).run Tryz.prog w = .ok (.int .i64 (r:Int)) w:=by
         intro ts t w
         rw [run_min_int2]
         congr 2
         split<;>omega
        have hsl:=run_from (P:=Tryz.prog) 36 5 Tryz.underlying36 sizeU8k A now.length cap p (by omega)
        have hB2:Bs w (dropA A cap p) ((now.drop o).take m):=by
         have h1:=(hBs.dropA rfl hcap (k:=p)).take r
         have e1:(now.drop p).take r=(now.drop o).take m:=by
          by_cases ho2:o≤now.length
          · have:p=o:=by omega
            rw [this,hr,this]
            by_cases hm2:m≤now.length-o
            · rw [Nat.min_eq_left hm2]
            · rw [Nat.min_eq_right (by omega),List.take_of_length_le (by rw [List.length_drop];exact Nat.le_refl _),List.take_of_length_le (by rw [List.length_drop];omega)]
          · rw [List.drop_eq_nil_of_le (show now.length≤o by omega),List.drop_eq_nil_of_le (show now.length≤p by omega)]
            simp
         rwa [e1] at h1
        have hlen:r=((now.drop o).take m).length:=by rw [List.length_take,List.length_drop];omega
        have CL:=zH (fun (V:World) (k:Keeps w V)=>clone_any (dropA A cap p) r (cap-p) ((now.drop o).take m) V (hB2.keep k) hlen (fun ea=>by
         unfold dropA at ea
         split at ea
         · omega
         · cases A with
           | none=>have:=hA0 rfl;omega
           | some ad=>cases ea) (by omega))
        have hrc:(r:Int)≤((cap-p:Nat):Int):=by omega
        have hrn:(p:Int)≤(now.length:Int):=by omega
        clear hp hr hBs hA0 hB2 hlen hcm hsz
        go_enter Tryz.func261,Tryz.ntmps261
        go_wp2_with (first
         | (go_at_call 205;refine P.out.mono ?_;rintro e w' ⟨rfl,rfl⟩)
         | (go_at_call 160;refine FD.out.mono ?_;rintro e w' ⟨rfl,rfl⟩))
        go_region
        all_goals
         generalize dropA A cap p=D at *
         generalize now.length-p=d1 at *
         generalize cap-p=d2 at *
         go_wp2_with (go_at_call 58;refine (CL.out _ (zD _)).mono ?_;rintro e w' ⟨v,rfl,hown,hk⟩)
         exact bodyPost_ret (v:=.tuple #[v, .int .i64 0]) (by simp [results,Tryz.results261,go_sem]) rfl ⟨_,rfl,hown.base_le (by simp),zK (zD _) hk⟩
 · rw [ho] at P
   have e:readS s nm off n=([],6):=by unfold readS;rw [ho];simp
   rw [e]
   clear h hb hx e
   go_enter Tryz.func261,Tryz.ntmps261
   go_wp2_with (go_at_call 205;refine P.out.mono ?_;rintro e w' ⟨rfl,rfl⟩)
   exact bodyPost_ret (v:=.tuple #[.slice none 0 0, .int .i64 6]) (by simp [results,Tryz.results261,go_sem,pwr]) rfl ⟨_,rfl,NIL.out _,keeps_refl _⟩
end
structure LOk (l:List Fl):Prop where
 rise:l.Pairwise fun f g=>f.name<g.name
 files:∀ f∈l,FlOk f
 used:usedL l≤1048576
theorem putF_perm (l:List Fl) (f:Fl):(putF l f).Perm (f::l):=by
 induction l with
 | nil=>exact .refl _
 | cons g l ih=>
  unfold putF
  split
  · exact (ih.cons g).trans (List.Perm.swap f g l)
  · exact .refl _
theorem getF_none {l:List Fl} {nm:List UInt8} (h:getF l nm=none):∀ f∈l,f.name≠nm:=by
 intro f hf e
 have:=List.find?_eq_none.1 h f hf
 simp [e] at this
theorem putF_rise {l:List Fl} {f:Fl} (h:l.Pairwise fun f g=>f.name<g.name) (hn:∀ g∈l,g.name≠f.name):(putF l f).Pairwise fun f g=>f.name<g.name:=by
 induction l with
 | nil=>simp [putF]
 | cons g l ih=>
  rw [List.pairwise_cons] at h
  unfold putF
  by_cases e:g.name<f.name
  · rw [if_pos e,List.pairwise_cons]
    refine ⟨fun x hx=>?_,ih h.2 (fun y hy=>hn y (List.mem_cons_of_mem _ hy))⟩
    rcases List.mem_cons.1 ((putF_perm l f).mem_iff.1 hx) with rfl|hx'
    · exact e
    · exact h.1 x hx'
  · rw [if_neg e,List.pairwise_cons]
    have hlt:f.name<g.name:=by
     have h1:=hn g List.mem_cons_self
     have h2:f.name≤g.name:=List.not_lt.1 e
     by_cases h3:f.name<g.name
     · exact h3
     · exact absurd (List.le_antisymm (List.not_lt.1 h3) h2) h1
    refine ⟨fun x hx=>?_,List.pairwise_cons.2 h⟩
    rcases List.mem_cons.1 hx with rfl|hx'
    · exact hlt
    · exact List.lt_trans hlt (h.1 x hx')
theorem LOk.put {l:List Fl} (h:LOk l) {f:Fl} (hn:getF l f.name=none) (hf:FlOk f) (hu:usedL l+sect f.now.length≤1048576):LOk (putF l f):=
 ⟨putF_rise h.rise (getF_none hn),fun g hg=>by
  rcases List.mem_cons.1 ((putF_perm l f).mem_iff.1 hg) with rfl|hg'
  · exact hf
  · exact h.files g hg',by rw [used_put];exact hu⟩
theorem LOk.del {l:List Fl} (h:LOk l) (nm:List UInt8):LOk (delF l nm):=
 ⟨h.rise.filter _,fun g hg=>h.files g (List.mem_filter.1 hg).1,Nat.le_trans (used_del_le l nm) h.used⟩
theorem LOk.set {l:List Fl} (h:LOk l) {f f':Fl} (hg:getF l f'.name=some f) (hf:FlOk f') (hu:usedL l+sect f'.now.length≤1048576+sect f.now.length):LOk (setF l f'):=by
 refine ⟨?_,fun g hg'=>?_,?_⟩
 · have hm:(setF l f').map (·.name)=l.map (·.name):=by
    unfold setF
    rw [List.map_map]
    apply List.map_congr_left
    intro g hg
    simp only [Function.comp]
    split
    · rename_i q;exact q.symm
    · rfl
   have h1:(l.map (·.name)).Pairwise (· < ·):=List.pairwise_map.2 h.rise
   rw [←hm] at h1
   exact List.pairwise_map.1 h1
 · obtain ⟨x,hx,he⟩:=List.mem_map.1 hg'
   by_cases q:x.name=f'.name
   · rw [if_pos q] at he
     rw [←he]
     exact hf
   · rw [if_neg q] at he
     rw [←he]
     exact h.files x hx
 · have:=used_set l f' f h.rise hg
   omega
theorem FlOk.write {f:Fl} (h:FlOk f) {off:Nat} {b:List UInt8} (ho:off≤f.now.length) (hm:off+b.length≤16777216):FlOk (writeF f off b):=by
 have hl:(writeF f off b).now.length=max f.now.length (off+b.length):=layB_length f.now off b ho
 refine ⟨h.name,by have:=h.size;omega,by have:=h.lasts;show f.lasts.length≤_;omega,fun k hk=>?_⟩
 rw [hl]
 have hk':(f.loose k||(decide (0<b.length)&&decide (off/64≤k)&&decide (k≤(off+b.length-1)/64)))=true:=hk
 rw [Bool.or_eq_true] at hk'
 rcases hk' with h1|h1
 · have:=h.loose k h1
   have:=sect_le (show f.now.length≤max f.now.length (off+b.length) by omega)
   omega
 · simp only [Bool.and_eq_true,decide_eq_true_eq] at h1
   unfold sect
   omega
theorem FlOk.sync {f:Fl} (h:FlOk f):FlOk (syncF f):=⟨h.name,h.size,Nat.le_refl _,fun k hk=>by cases hk⟩
theorem FlOk.fresh {nm:List UInt8} (h:nameOk nm=true):FlOk ⟨nm,[],[],fun _=>false⟩:=⟨h,by simp,by simp,fun k hk=>by cases hk⟩
section
variable {w w':World} {b:Nat} {F:Nat→Prop} {s:Ds}
theorem Dk.lok (h:Dk w b F s):LOk s.l:=⟨h.ok.rise,h.ok.files,h.used⟩
theorem Dk.make {F':Nat→Prop} {l':List Fl} (h:Dk w b F s) (hl:LOk l') (hat:∃ mf ml fb col,Box w' b 131 (dkC mf ml s.q s.armed s.off)∧DkX w' b F' l' mf ml fb col):Dk w' b F' {s with l:=l'}:=
 ⟨⟨hl.rise,hl.files,h.ok.q⟩,h.dead,h.armed,hl.used,hat⟩
theorem lookM_none_of {l:List Fl} {fb:List UInt8→Nat} {nm:List UInt8} (hg:getF l nm=none):nm∉(l.map fun f=>(f.name,fb f.name)).map Prod.fst:=by
 rw [List.map_map]
 intro hm
 obtain ⟨f,hf,he⟩:=List.mem_map.1 hm
 exact getF_none hg f hf he
theorem DkX.put {l:List Fl} {mf ml:Nat} {fb:List UInt8→Nat} {col:Nat→Option (List UInt8)} (h:DkX w b F l mf ml fb col) {nm:List UInt8} (hg:getF l nm=none) {k:Nat} (hk:w.heap.size≤k) (hk2:k<w'.heap.size)
 (hM:FilesM w' mf (putM (l.map fun f=>(f.name,fb f.name)) nm k)) (hb:Box w' k 126 #[.slice none 0 0, .slice none 0 0]) (hO:Only w w' (fun c=>c=mf)) :
 DkX w' b (fun i=>F i∨i=k) (putF l ⟨nm,[],[],fun _=>false⟩) mf ml (fun n=>if n=nm then k else fb n) (fun i=>if i=k then some nm else col i):=by
 have hne:∀ i,F i→i≠k:=fun i hi e=>by have:=h.lt i hi;omega
 have hs:∀ i,F i→i≠mf→w'.heap[i]? = w.heap[i]?:=fun i hi hne=>hO.block i (h.lt i hi) hne
 have hmem:∀ {g:Fl},g∈putF l ⟨nm,[],[],fun _=>false⟩→g=⟨nm,[],[],fun _=>false⟩∨g∈l:=fun {g} hgm=>List.mem_cons.1 ((putF_perm l _).mem_iff.1 hgm)
 obtain ⟨l2,h2,h3⟩:=h.loose
 refine ⟨fun i hi=>?_,⟨.inl h.nb.1,by rw [if_neg (hne b h.nb.1)];exact h.nb.2⟩,⟨.inl h.nf.1,by rw [if_neg (hne mf h.nf.1)];exact h.nf.2⟩,⟨.inl h.nl.1,by rw [if_neg (hne ml h.nl.1)];exact h.nl.2⟩,h.ne,?_,⟨l2,h2.same (hs ml h.nl.1 (fun e=>h.ne e.symm)),fun p=>?_⟩,fun g hg'=>?_⟩
 · rcases hi with hi|rfl
   · exact Nat.lt_of_lt_of_le (h.lt i hi) hO.size
   · exact hk2
 · refine hM.perm ?_
   unfold putM
   rw [delM_absent (lookM_none_of hg)]
   have h4:=((putF_perm l ⟨nm,[],[],fun _=>false⟩).map fun f=>(f.name,if f.name=nm then k else fb f.name))
   refine List.Perm.trans ?_ h4.symm
   rw [List.map_cons]
   have:(l.map fun f=>(f.name,if f.name=nm then k else fb f.name))=l.map fun f=>(f.name,fb f.name):=by
    apply List.map_congr_left
    intro f hf
    rw [if_neg (getF_none hg f hf)]
   rw [this,if_pos rfl]
 · rw [h3]
   constructor
   · rintro ⟨g,hg',q1,q2⟩
     exact ⟨g,(putF_perm l _).mem_iff.2 (List.mem_cons_of_mem _ hg'),q1,q2⟩
   · rintro ⟨g,hg',q1,q2⟩
     rcases hmem hg' with rfl|hg2
     · cases q2
     · exact ⟨g,hg2,q1,q2⟩
 · rcases hmem hg' with rfl|hg2
   · refine ⟨.slice none 0 0, .slice none 0 0,?_⟩
     simp only [if_true]
     exact ⟨hb,Own.nil _ _ _ _,Own.nil _ _ _ _,⟨.inr rfl,by rw [if_pos rfl]⟩,fun g hgg=>(by cases hgg),fun g hgg=>(by cases hgg), .inl rfl⟩
   · obtain ⟨v1,v2,q⟩:=h.each g hg2
     rw [if_neg (getF_none hg g hg2)]
     refine ⟨v1,v2,(q.same fun i hi=>hs i hi.1 (fun e=>by have:=hi.2;rw [e,h.nf.2] at this;cases this)).wide fun i hi=>⟨.inl hi.1,by rw [if_neg (hne i hi.1)];exact hi.2⟩⟩
set_option maxHeartbeats 8000000 in
theorem create_any (h:Dk w b F s) (nm:List UInt8) (hnm:nm.length≤maxLen) :
 Calls Tryz.prog 122 #[dpt b,strV nm] w fun e w'=>e = .returned (.int .i64 ((createS s nm).2:Int))∧∃ F',Dk w' b F' (createS s nm).1∧Turns w w' F F':=by
 show Calls _ _ #[.pointer (some ⟨b,0,none⟩), .string (str nm)] w _
 have BG:=zH (begin_dk h)
 have TB:=zH (fun (V:World) (hO:Only w V (fun c=>c=b))=>h.turnsB hO)
 have GL:=zH (gone_parts h).1
 cases ho:(goneS s).off
 · rw [ho] at BG
   cases hn:nameOk nm
   · have e:createS s nm=(goneS s,1):=by unfold createS;rw [ho,hn];simp
     rw [e]
     clear e
     go_enter Tryz.func122,Tryz.ntmps122
     go_wp2_with (first
      | (go_at_call 159;refine BG.out.mono ?_;rintro e w1 ⟨rfl,hD,hO⟩)
      | (go_at_call 160;obtain ⟨mf,ml,fb,col,hb,hx⟩:=hD.at_;refine (find_dk hb hx nm hnm).mono ?_;rw [foundV_bad hn];rintro e w' ⟨rfl,rfl⟩))
     go_ret
     exact ⟨rfl,F,hD,TB.out _ hO⟩
   · cases hg:getF s.l nm with
     | some f=>
      have e:createS s nm=(goneS s,4):=by unfold createS;rw [ho,hn,hg];simp
      rw [e]
      have hg2:getF (goneS s).l nm=some f:=by rw [GL.out];exact hg
      clear e
      go_enter Tryz.func122,Tryz.ntmps122
      go_wp2_with (first
       | (go_at_call 159;refine BG.out.mono ?_;rintro e w1 ⟨rfl,hD,hO⟩)
       | (go_at_call 160;obtain ⟨mf,ml,fb,col,hb,hx⟩:=hD.at_;refine (find_dk hb hx nm hnm).mono ?_;rw [foundV_some hn hg2];rintro e w' ⟨rfl,rfl⟩))
      go_ret
      exact ⟨rfl,F,hD,TB.out _ hO⟩
     | none=>
      have e:createS s nm=({goneS s with l:=putF s.l ⟨nm,[],[],fun _=>false⟩},0):=by unfold createS;rw [ho,hn,hg];simp
      rw [e]
      have hg2:getF (goneS s).l nm=none:=by rw [GL.out];exact hg
      rw [←GL.out]
      clear e
      go_enter Tryz.func122,Tryz.ntmps122
      go_wp2_with (first
       | (go_at_call 159;refine BG.out.mono ?_;rintro e w1 ⟨rfl,hD,hO⟩)
       | (go_at_call 160;obtain ⟨mf,ml,fb,col,hb,hx⟩:=hD.at_;refine (find_dk hb hx nm hnm).mono ?_;rw [foundV_none hn hg2];rintro e w' ⟨rfl,rfl⟩;have c0:=hb.cell 0 rfl;have HM:=hx.files)
       | (at_mapUpdate;refine wpList_putV _ rfl _ _ _ rfl filesT mf _ rfl (HM.keep (zA _ _)) nm rfl w1.heap.size rfl ?_;intro w2 hM2 hO2))
      have k1:=zA w1 (.cells #[.slice none 0 0, .slice none 0 0] 126)
      have hOO:Only w1 w2 (fun c=>c=mf):=((Only.of_keeps k1).weak (fun _ e=>e.elim)).trans hO2 (fun i hi=>.inl hi)
      have hmf:=hx.lt mf hx.nf.1
      have bk:Box w2 w1.heap.size 126 #[.slice none 0 0, .slice none 0 0]:=(hO2.block _ (by simp) (by omega)).trans (Box.new w1 126 _)
      have X2:=hx.put hg2 (Nat.le_refl _) (by have:=hO2.size;simp at this;omega) hM2 bk hOO
      have B2:Box w2 b 131 (dkC mf ml (goneS s).q (goneS s).armed (goneS s).off):=(hOO.block b hb.lt (HM.ne hb)).trans hb
      have D2:=hD.make (hD.lok.put (f:=⟨nm,[],[],fun _=>false⟩) hg2 (FlOk.fresh hn) (by show usedL (goneS s).l+sect 0≤_;have:=hD.used;unfold sect;omega)) ⟨mf,ml,_,_,B2,X2⟩
      have T2:=(TB.out _ hO).trans (T:=F) (U:=fun i=>F i∨i=w1.heap.size) (Turns.mk (hOO.weak fun i hi=>by rw [hi];exact hx.nf.1) fun i hi=>by
       rcases hi with hi|hi
       · exact .inl hi
       · exact .inr (by omega))
      go_ret
      exact ⟨rfl,_,D2,T2⟩
 · rw [ho] at BG
   have e:createS s nm=(goneS s,6):=by unfold createS;rw [ho];simp
   rw [e]
   clear e
   go_enter Tryz.func122,Tryz.ntmps122
   go_wp2_with (go_at_call 159;refine BG.out.mono ?_;rintro e w1 ⟨rfl,hD,hO⟩)
   go_ret
   exact ⟨rfl,F,hD,TB.out _ hO⟩
end
section
variable {w w':World} {b:Nat} {F:Nat→Prop} {s:Ds}
theorem Dk.keep (h:Dk w b F s) (k:Keeps w w'):Dk w' b F s:=h.same (fun i hi=>k.block i (h.lt i hi)) k.size
theorem DkX.relist {l l':List Fl} {mf ml:Nat} {fb:List UInt8→Nat} {col:Nat→Option (List UInt8)} (h:DkX w b F l mf ml fb col) (hsub:∀ g∈l',∃ f∈l,f.name=g.name∧f.now=g.now∧f.lasts=g.lasts)
 (hM:FilesM w' mf (l'.map fun f=>(f.name,fb f.name))) (hL:∃ l2,LooseM w' ml l2∧∀ p,p∈l2.map Prod.fst↔LooseIn l' p) (hO:Only w w' (fun c=>c=mf∨c=ml∨¬ F c)):DkX w' b F l' mf ml fb col:=by
 refine ⟨fun i hi=>Nat.lt_of_lt_of_le (h.lt i hi) hO.size,h.nb,h.nf,h.nl,h.ne,hM,hL,fun g hg=>?_⟩
 obtain ⟨f,hf,e1,e2,e3⟩:=hsub g hg
 obtain ⟨v1,v2,q⟩:=h.each f hf
 rw [e1,e2,e3] at q
 exact ⟨v1,v2,q.same fun i hi=>hO.block i (h.lt i hi.1) (fun e=>by
  rcases e with e|e|e
  · have:=hi.2;rw [e,h.nf.2] at this;cases this
  · have:=hi.2;rw [e,h.nl.2] at this;cases this
  · exact e hi.1)⟩
def NameJ (bn:Nat) (nm:List UInt8) (_:List Pl) (T:Nat→Prop) (W:World):Prop:=T=(fun c=>c=bn)∧Box W bn 9 #[.string (str nm)]
theorem str_eq_cases (a c:List UInt8):((str a).toList == (str c).toList)=decide (a=c):=by
 rw [str_toList,str_toList]
 by_cases h:a=c<;>simp [h]
theorem removeC_any (bn:Nat) (nm:List UInt8) (x:Pl) (W:World) (hb:Box W bn 9 #[.string (str nm)]) :
 Calls Tryz.prog 177 (#[.agg #[.string (str x.1), .int .i64 (x.2:Int)]] ++ #[.pointer (some ⟨bn,0,none⟩)]) W fun e W'=>e = .returned (.bool (decide (x.1=nm)))∧Keeps W W':=by
 have k:=zA W (.cells #[.string (str x.1), .int .i64 (x.2:Int)] 69)
 have c0:=(hb.keep k).cell 0 rfl
 have hbl:=hb.lt
 show Calls _ _ #[.agg #[.string (str x.1), .int .i64 (x.2:Int)], .pointer (some ⟨bn,0,none⟩)] W _
 have he:=str_eq_cases x.1 nm
 have HE:=zH he
 clear hb
 go_enter Tryz.func177,Tryz.ntmps177
 go_wp2_with fail
 go_ret
 exact ⟨by first|rfl|(rw [HE.out])|(congr 2;exact HE.out),k⟩
theorem syncC_any (bn:Nat) (nm:List UInt8) (x:Pl) (W:World) (hb:Box W bn 9 #[.string (str nm)]) :
 Calls Tryz.prog 170 (#[.agg #[.string (str x.1), .int .i64 (x.2:Int)]] ++ #[.pointer (some ⟨bn,0,none⟩)]) W fun e W'=>e = .returned (.bool (decide (x.1=nm)))∧Keeps W W':=by
 have k:=zA W (.cells #[.string (str x.1), .int .i64 (x.2:Int)] 69)
 have c0:=(hb.keep k).cell 0 rfl
 have hbl:=hb.lt
 show Calls _ _ #[.agg #[.string (str x.1), .int .i64 (x.2:Int)], .pointer (some ⟨bn,0,none⟩)] W _
 have he:=str_eq_cases x.1 nm
 have HE:=zH he
 clear hb
 go_enter Tryz.func170,Tryz.ntmps170
 go_wp2_with fail
 go_ret
 exact ⟨by first|rfl|(rw [HE.out])|(congr 2;exact HE.out),k⟩
theorem forgetK_any {mf ml q armed:Nat} {off:Bool} (h:Box w b 131 (dkC mf ml q armed off)) {l2:List (Pl×Unit)} (hm:LooseM w ml l2) (g:FuncId) (lb:Array Value) (eg:∀ args w,(callFunc g args).run Tryz.prog w = .ok (.enter g args) w)
 (pq:Pl→Bool) (T:Nat→Prop) (hT:∀ c,T c→c<w.heap.size∧c≠b∧c≠ml)
 (hq:∀ (x:Pl) W,(∀ c,T c→W.heap[c]? = w.heap[c]?)→Calls Tryz.prog g (#[.agg #[.string (str x.1), .int .i64 (x.2:Int)]]++lb) W fun e W'=>e = .returned (.bool (pq x))∧Keeps W W') :
 Calls Tryz.prog 169 #[.pointer (some ⟨b,0,none⟩), .func (.func g) #[] lb] w fun e w'=>e = .returned (.tuple #[])∧LooseM w' ml (l2.filter fun p=>!pq p.1)∧Only w w' (fun c=>c=ml∨T c):=by
 refine (forget_any h hm g lb eg pq (fun _ T' W=>T'=T∧(∀ c,T c→W.heap[c]? = w.heap[c]?)∧w.heap.size≤W.heap.size) T hT ⟨rfl,fun _ _=>rfl,Nat.le_refl _⟩ ?_ ?_ ?_).mono ?_
 · rintro pre T' W W' ⟨rfl,h1,h2⟩ hs hsz
   exact ⟨rfl,fun c hc=>(hs c hc).trans (h1 c hc),Nat.le_trans h2 hsz⟩
 · rintro pre T' W ⟨rfl,h1,h2⟩ c hc
   exact Nat.lt_of_lt_of_le (hT c hc).1 h2
 · rintro pre T' x W ⟨rfl,h1,h2⟩ -
   refine (hq x W h1).mono ?_
   rintro e W' ⟨rfl,k⟩
   exact ⟨rfl,T',⟨rfl,fun c hc=>(k.block c (Nat.lt_of_lt_of_le (hT c hc).1 h2)).trans (h1 c hc),Nat.le_trans h2 k.size⟩,Turns.of_keeps k⟩
 · rintro e W' ⟨rfl,ss,T',-,⟨rfl,h1,h2⟩,hM,hO,-⟩
   exact ⟨rfl,hM,hO⟩
theorem forgetName_any {mf ml q armed:Nat} {off:Bool} (h:Box w b 131 (dkC mf ml q armed off)) {l2:List (Pl×Unit)} (hm:LooseM w ml l2) (g:FuncId) (hg:g=177) (bn:Nat) (nm:List UInt8) (hb:Box w bn 9 #[.string (str nm)]) (hne:bn≠b) :
 Calls Tryz.prog 169 #[.pointer (some ⟨b,0,none⟩), .func (.func g) #[] #[.pointer (some ⟨bn,0,none⟩)]] w fun e w'=>e = .returned (.tuple #[])∧LooseM w' ml (l2.filter fun p=>!decide (p.1.1=nm))∧Only w w' (fun c=>c=ml∨c=bn):=by
 have hne2:bn≠ml:=hm.ne hb
 refine forgetK_any h hm g _ ?_ (fun p=>decide (p.1=nm)) (fun c=>c=bn) (fun c hc=>by rw [hc];exact ⟨hb.lt,hne,hne2⟩) ?_
 · subst hg
   exact enters_of Tryz.func177 (by kernel_rfl) rfl
 · intro x W hW
   subst hg
   exact removeC_any bn nm x W ((hW bn rfl).trans hb)
theorem forgetSync_any {mf ml q armed:Nat} {off:Bool} (h:Box w b 131 (dkC mf ml q armed off)) {l2:List (Pl×Unit)} (hm:LooseM w ml l2) (g:FuncId) (hg:g=170) (bn:Nat) (nm:List UInt8) (hb:Box w bn 9 #[.string (str nm)]) (hne:bn≠b) :
 Calls Tryz.prog 169 #[.pointer (some ⟨b,0,none⟩), .func (.func g) #[] #[.pointer (some ⟨bn,0,none⟩)]] w fun e w'=>e = .returned (.tuple #[])∧LooseM w' ml (l2.filter fun p=>!decide (p.1.1=nm))∧Only w w' (fun c=>c=ml∨c=bn):=by
 have hne2:bn≠ml:=hm.ne hb
 refine forgetK_any h hm g _ ?_ (fun p=>decide (p.1=nm)) (fun c=>c=bn) (fun c hc=>by rw [hc];exact ⟨hb.lt,hne,hne2⟩) ?_
 · subst hg
   exact enters_of Tryz.func170 (by kernel_rfl) rfl
 · intro x W hW
   subst hg
   exact syncC_any bn nm x W ((hW bn rfl).trans hb)
set_option maxHeartbeats 8000000 in
theorem remove_any (h:Dk w b F s) (nm:List UInt8) (hnm:nm.length≤maxLen) :
 Calls Tryz.prog 145 #[dpt b,strV nm] w fun e w'=>e = .returned (.int .i64 ((removeS s nm).2:Int))∧∃ F',Dk w' b F' (removeS s nm).1∧Turns w w' F F':=by
 show Calls _ _ #[.pointer (some ⟨b,0,none⟩), .string (str nm)] w _
 have k0:=zA w (.cells #[.string (str nm)] 9)
 have h0:=h.keep k0
 have hFl:=h.lt
 have bx:=Box.new w 9 #[.string (str nm)]
 have BG:=zH (begin_dk h0)
 have TB:=zH (fun (V:World) (hO:Only (w.alloc (.cells #[.string (str nm)] 9)) V (fun c=>c=b))=>(Turns.of_keeps (S:=F) k0).trans (h0.turnsB hO))
 have GL:=zH (gone_parts h).1
 have hbw:b<w.heap.size:=by
  obtain ⟨mf,ml,fb,col,hb,hx⟩:=h.at_
  exact hb.lt
 have NB:=zH (fun (V:World) (hO:Only (w.alloc (.cells #[.string (str nm)] 9)) V (fun c=>c=b))=>show Box V w.heap.size 9 #[.string (str nm)] from (hO.block _ bx.lt (by omega)).trans bx)
 cases ho:(goneS s).off
 · rw [ho] at BG
   cases hn:nameOk nm
   · have e:removeS s nm=(goneS s,1):=by unfold removeS;rw [ho,hn];simp
     rw [e]
     clear e h h0 bx
     go_enter Tryz.func145,Tryz.ntmps145
     go_wp2_with (first
      | (go_at_call 159;refine BG.out.mono ?_;rintro e w1 ⟨rfl,hD,hO⟩;have n0:=(NB.out _ hO).cell 0 rfl)
      | (go_at_call 160;obtain ⟨mf,ml,fb,col,hb,hx⟩:=hD.at_;refine (find_dk hb hx nm hnm).mono ?_;rw [foundV_bad hn];rintro e w' ⟨rfl,rfl⟩))
     go_ret
     exact ⟨rfl,F,hD,TB.out _ hO⟩
   · cases hg:getF s.l nm with
     | none=>
      have e:removeS s nm=(goneS s,3):=by unfold removeS;rw [ho,hn,hg];simp
      rw [e]
      have hg2:getF (goneS s).l nm=none:=by rw [GL.out];exact hg
      clear e h h0 bx
      go_enter Tryz.func145,Tryz.ntmps145
      go_wp2_with (first
       | (go_at_call 159;refine BG.out.mono ?_;rintro e w1 ⟨rfl,hD,hO⟩;have n0:=(NB.out _ hO).cell 0 rfl)
       | (go_at_call 160;obtain ⟨mf,ml,fb,col,hb,hx⟩:=hD.at_;refine (find_dk hb hx nm hnm).mono ?_;rw [foundV_none hn hg2];rintro e w' ⟨rfl,rfl⟩))
      go_ret
      exact ⟨rfl,F,hD,TB.out _ hO⟩
     | some f=>
      have e:removeS s nm=({goneS s with l:=delF s.l nm},0):=by unfold removeS;rw [ho,hn,hg];simp
      rw [e]
      have hg2:getF (goneS s).l nm=some f:=by rw [GL.out];exact hg
      rw [←GL.out]
      clear e h h0 bx
      go_enter Tryz.func145,Tryz.ntmps145
      go_wp2_with (first
       | (go_at_call 159;refine BG.out.mono ?_;rintro e w1 ⟨rfl,hD,hO⟩;have n0:=(NB.out _ hO).cell 0 rfl)
       | (go_at_call 160;obtain ⟨mf,ml,fb,col,hb,hx⟩:=hD.at_;refine (find_dk hb hx nm hnm).mono ?_;rw [foundV_some hn hg2];rintro e w' ⟨rfl,rfl⟩))
      have c0:w1.cell? ⟨b,0,none⟩=some (.map (some mf)):=hb.cell 0 rfl
      have HB:=zH hb
      have HX:=zH hx
      have HO:=zH hO
      have HD:=zH hD
      have hlb:=hb.lt
      have hls:w.heap.size<w1.heap.size:=(NB.out _ hO).lt
      clear hb hx hD
      go_region_law ((refine step_delV _ rfl (.tmp 25) (.tmp 26) rfl filesT mf _ (by simp [Act.eval,Act.put]) (HX.out.files.keep (zD _)) nm (by simp [Act.eval,Act.put,strW]) ?_);intro w2 hM2 hO2)
      all_goals
       have O2:Only w1 w2 (fun c=>c=mf):=((Only.of_keeps (zD w1)).weak (fun _ e=>e.elim)).trans hO2 (fun i hi=>.inl hi)
       obtain ⟨l2,hm2,hmem⟩:=HX.out.loose
       have B2:Box w2 b 131 (dkC mf ml (goneS s).q (goneS s).armed (goneS s).off):=(O2.block b HB.out.lt (HX.out.files.ne HB.out)).trans HB.out
       have N2:Box w2 w.heap.size 9 #[.string (str nm)]:=(O2.block _ hls (HX.out.files.ne (NB.out _ HO.out))).trans (NB.out _ HO.out)
       have M2:LooseM w2 ml l2:=hm2.same (O2.block ml hm2.lt (fun e=>HX.out.ne e.symm))
       have FG:=zH (forgetName_any B2 M2 177 rfl w.heap.size nm N2 (by omega))
       have FIN:=zH (show ∀ w3,LooseM w3 ml (l2.filter fun p=>!decide (p.1.1=nm))→Only w2 w3 (fun c=>c=ml∨c=w.heap.size)→Dk w3 b F {goneS s with l:=delF (goneS s).l nm}∧Turns w w3 F F from fun w3 hL3 hO3=>by
        have O3:Only w1 w3 (fun c=>c=mf∨c=ml∨c=w.heap.size):=(O2.weak (fun i hi=>.inl hi)).trans hO3 (fun i hi=>.inl (.inr hi))
        have nF:¬ F w.heap.size:=fun e=>by have:=hFl _ e;omega
        have hM3:FilesM w3 mf ((delF (goneS s).l nm).map fun f=>(f.name,fb f.name)):=by
         have h3:FilesM w3 mf (delM ((goneS s).l.map fun f=>(f.name,fb f.name)) nm):=hM2.same (hO3.block mf hM2.lt (fun e=>by
          rcases e with e|e
          · exact HX.out.ne e
          · exact nF (by rw [←e];exact HX.out.nf.1)))
         have e3:delM ((goneS s).l.map fun f=>(f.name,fb f.name)) nm=(delF (goneS s).l nm).map fun f=>(f.name,fb f.name):=by
          unfold delM delF
          rw [List.filter_map]
          rfl
         rw [e3] at h3
         exact h3
        have X3:=HX.out.relist (l':=delF (goneS s).l nm) (fun g hg=>⟨g,(List.mem_filter.1 hg).1,rfl,rfl,rfl⟩) hM3 ⟨_,hL3,fun p=>by
         have h4:=hmem p
         constructor
         · intro hp
           obtain ⟨q,hq,rfl⟩:=List.mem_map.1 hp
           obtain ⟨q1,q2⟩:=List.mem_filter.1 hq
           obtain ⟨g,hg,g1,g2⟩:=h4.1 (List.mem_map.2 ⟨q,q1,rfl⟩)
           refine ⟨g,List.mem_filter.2 ⟨hg,?_⟩,g1,g2⟩
           simp only [Bool.not_eq_true',decide_eq_false_iff_not] at q2
           rw [g1]
           exact decide_eq_true q2
         · rintro ⟨g,hg,g1,g2⟩
           obtain ⟨hg1,hg3⟩:=List.mem_filter.1 hg
           obtain ⟨q,hq,rfl⟩:=List.mem_map.1 (h4.2 ⟨g,hg1,g1,g2⟩)
           refine List.mem_map.2 ⟨q,List.mem_filter.2 ⟨hq,?_⟩,rfl⟩
           have:=of_decide_eq_true hg3
           rw [g1] at this
           simp [this]⟩ (O3.weak (fun i hi=>by
         rcases hi with hi|hi|hi
         · exact .inl hi
         · exact .inr (.inl hi)
         · exact .inr (.inr (by rw [hi];exact nF))))
        refine ⟨HD.out.make (HD.out.lok.del nm) ⟨mf,ml,fb,col,(O3.block b HB.out.lt (fun e=>?_)).trans HB.out,X3⟩,⟨(TB.out _ HO.out).only.trans O3 (fun i hi=>?_),fun _ hi=>.inl hi⟩⟩
        · rcases e with e|e|e
          · exact HX.out.files.ne HB.out e
          · exact hm2.ne HB.out e
          · omega
        · rcases hi with hi|hi|hi
          · exact .inl (by rw [hi];exact HX.out.nf.1)
          · exact .inl (by rw [hi];exact HX.out.nl.1)
          · exact .inr (by omega))
       clear hM2 hO2 O2 hm2 hmem B2 N2 M2 c0 n0
       go_wp2_with (go_at_call 169;refine FG.out.mono ?_;rintro e w3 ⟨rfl,hL3,hO3⟩)
       have FF:=FIN.out w3 hL3 hO3
       go_ret
       exact ⟨rfl,F,FF.1,FF.2⟩
 · rw [ho] at BG
   have e:removeS s nm=(goneS s,6):=by unfold removeS;rw [ho];simp
   rw [e]
   clear e h h0 bx
   go_enter Tryz.func145,Tryz.ntmps145
   go_wp2_with (go_at_call 159;refine BG.out.mono ?_;rintro e w1 ⟨rfl,hD,hO⟩)
   go_ret
   exact ⟨rfl,F,hD,TB.out _ hO⟩
end
theorem uniq_name {l:List Fl} (hn:(l.map (·.name)).Nodup) {f g:Fl} (hf:f∈l) (hg:g∈l) (he:g.name=f.name):g=f:=by
 have e1:=getF_of_mem hn hg
 have e2:=getF_of_mem hn hf
 rw [he,e2] at e1
 exact (Option.some.inj e1).symm
theorem looseIn_one {l:List Fl} (hn:(l.map (·.name)).Nodup) {f:Fl} (hf:f∈l) {p:List UInt8×Nat} (hp:p.1=f.name):LooseIn l p↔f.loose p.2=true:=by
 constructor
 · rintro ⟨g,hg,g1,g2⟩
   rwa [uniq_name hn hf hg (g1.trans hp)] at g2
 · intro h
   exact ⟨f,hf,hp.symm,h⟩
theorem looseIn_set2 {l:List Fl} (hn:(l.map (·.name)).Nodup) {f f':Fl} (hf:f∈l) (he:f'.name=f.name) (p:List UInt8×Nat):LooseIn (setF l f') p↔(p.1≠f.name∧LooseIn l p)∨(p.1=f.name∧f'.loose p.2=true):=by
 constructor
 · rintro ⟨g,hg,h1,h2⟩
   rcases mem_setF hg with ⟨rfl,-⟩|⟨hg',hne⟩
   · exact .inr ⟨by rw [←h1,he],h2⟩
   · exact .inl ⟨fun e=>hne (by rw [h1,e,he]),g,hg',h1,h2⟩
 · rintro (⟨h1,g,hg,g1,g2⟩|⟨h1,h2⟩)
   · exact ⟨g,setF_other hg (fun e=>h1 (by rw [←g1,e,he])),g1,g2⟩
   · exact ⟨f',setF_self hf he.symm,by rw [he,h1],h2⟩
theorem filt_keys {l2:List (Pl×Unit)} (q:Pl→Bool) (p:Pl):p∈(l2.filter fun x=>q x.1).map Prod.fst↔p∈l2.map Prod.fst∧q p=true:=by
 constructor
 · intro h
   obtain ⟨x,hx,rfl⟩:=List.mem_map.1 h
   obtain ⟨h1,h2⟩:=List.mem_filter.1 hx
   exact ⟨List.mem_map.2 ⟨x,h1,rfl⟩,h2⟩
 · rintro ⟨h1,h2⟩
   obtain ⟨x,hx,rfl⟩:=List.mem_map.1 h1
   exact List.mem_map.2 ⟨x,List.mem_filter.2 ⟨hx,h2⟩,rfl⟩
section
variable {w w':World} {b:Nat} {F:Nat→Prop} {s:Ds}
theorem DkX.remark {l:List Fl} {f1 f2:Fl} {mf ml:Nat} {fb:List UInt8→Nat} {col:Nat→Option (List UInt8)} (h:DkX w b F (setF l f1) mf ml fb col) (e1:f2.name=f1.name) (e2:f2.now=f1.now) (e3:f2.lasts=f1.lasts)
 (hL:∃ l3,LooseM w' ml l3∧∀ p,p∈l3.map Prod.fst↔LooseIn (setF l f2) p) (hO:Only w w' (fun c=>c=ml∨¬ F c)):DkX w' b F (setF l f2) mf ml fb col:=by
 refine h.relist (fun g hg=>?_) ?_ hL (hO.weak fun i hi=>by
  rcases hi with hi|hi
  · exact .inr (.inl hi)
  · exact .inr (.inr hi))
 · rcases mem_setF hg with ⟨rfl,f,hf,hfn⟩|⟨hg',hne⟩
   · exact ⟨f1,setF_self hf (by rw [hfn,e1]),e1.symm,e2.symm,e3.symm⟩
   · exact ⟨g,setF_other hg' (by rw [←e1];exact hne),rfl,rfl,rfl⟩
 · rw [names_map (setF l f1) (setF l f2) fb (by rw [setF_names,setF_names])]
   exact h.files.same (hO.block mf h.files.lt (fun e=>by
    rcases e with e|e
    · exact h.ne e
    · exact e h.nf.1))
set_option maxHeartbeats 16000000 in
theorem sync_any (h:Dk w b F s) (nm:List UInt8) (hnm:nm.length≤maxLen) :
 Calls Tryz.prog 130 #[dpt b,strV nm] w fun e w'=>e = .returned (.int .i64 ((syncS s nm).2:Int))∧∃ F',Dk w' b F' (syncS s nm).1∧Turns w w' F F':=by
 show Calls _ _ #[.pointer (some ⟨b,0,none⟩), .string (str nm)] w _
 obtain ⟨i0,hi,hz0,hz1,hz2⟩:=info_parts info_byte
 have k0:=zA w (.cells #[.string (str nm)] 9)
 have h0:=h.keep k0
 have hFl:=h.lt
 have bx:=Box.new w 9 #[.string (str nm)]
 have BG:=zH (begin_dk h0)
 have TB:=zH (fun (V:World) (hO:Only (w.alloc (.cells #[.string (str nm)] 9)) V (fun c=>c=b))=>(Turns.of_keeps (S:=F) k0).trans (h0.turnsB hO))
 have GL:=zH (gone_parts h).1
 have hbw:b<w.heap.size:=by
  obtain ⟨mf,ml,fb,col,hb,hx⟩:=h.at_
  exact hb.lt
 have NB:=zH (fun (V:World) (hO:Only (w.alloc (.cells #[.string (str nm)] 9)) V (fun c=>c=b))=>show Box V w.heap.size 9 #[.string (str nm)] from (hO.block _ bx.lt (by omega)).trans bx)
 cases ho:(goneS s).off
 · rw [ho] at BG
   cases hn:nameOk nm
   · have e:syncS s nm=(goneS s,1):=by unfold syncS;rw [ho,hn];simp
     rw [e]
     clear e h h0 bx
     go_enter Tryz.func130,Tryz.ntmps130
     go_wp2_with (first
      | (go_at_call 159;refine BG.out.mono ?_;rintro e w1 ⟨rfl,hD,hO⟩;have n0:=(NB.out _ hO).cell 0 rfl)
      | (go_at_call 160;obtain ⟨mf,ml,fb,col,hb,hx⟩:=hD.at_;refine (find_dk hb hx nm hnm).mono ?_;rw [foundV_bad hn];rintro e w' ⟨rfl,rfl⟩))
     go_ret
     exact ⟨rfl,F,hD,TB.out _ hO⟩
   · cases hg:getF s.l nm with
     | none=>
      have e:syncS s nm=(goneS s,3):=by unfold syncS;rw [ho,hn,hg];simp
      rw [e]
      have hg2:getF (goneS s).l nm=none:=by rw [GL.out];exact hg
      clear e h h0 bx
      go_enter Tryz.func130,Tryz.ntmps130
      go_wp2_with (first
       | (go_at_call 159;refine BG.out.mono ?_;rintro e w1 ⟨rfl,hD,hO⟩;have n0:=(NB.out _ hO).cell 0 rfl)
       | (go_at_call 160;obtain ⟨mf,ml,fb,col,hb,hx⟩:=hD.at_;refine (find_dk hb hx nm hnm).mono ?_;rw [foundV_none hn hg2];rintro e w' ⟨rfl,rfl⟩))
      go_ret
      exact ⟨rfl,F,hD,TB.out _ hO⟩
     | some f=>
      have e:syncS s nm=({goneS s with l:=setF s.l (syncF f)},0):=by unfold syncS;rw [ho,hn,hg];simp
      rw [e]
      have hg2:getF (goneS s).l nm=some f:=by rw [GL.out];exact hg
      rw [←GL.out]
      have HFN:=zH (getF_name hg)
      clear e h h0 bx
      go_enter Tryz.func130,Tryz.ntmps130
      go_wp2_with (first
       | (go_at_call 159;refine BG.out.mono ?_;rintro e w1 ⟨rfl,hD,hO⟩;have n0:=(NB.out _ hO).cell 0 rfl)
       | (go_at_call 160;obtain ⟨mf,ml,fb,col,hb,hx⟩:=hD.at_;refine (find_dk hb hx nm hnm).mono ?_;rw [foundV_some hn hg2];rintro e w' ⟨rfl,rfl⟩))
      have hfm:=getF_mem hg2
      have hfo:=hD.ok.files f hfm
      obtain ⟨v1,v2,hA⟩:=hx.each f hfm
      obtain ⟨A,cap,rfl,hcap,hcm,-⟩:=hA.own1.form
      obtain ⟨A2,cap2,rfl,hcap2,hcm2,-⟩:=hA.own2.form
      have c0:w1.cell? ⟨fb f.name,0,none⟩=some (.slice A f.now.length cap):=hA.box.cell 0 rfl
      have c1:w1.cell? ⟨fb f.name,1,none⟩=some (.slice A2 f.lasts.length cap2):=hA.box.cell 1 rfl
      have f1:=hA.box.frozen 1
      have hkl:=hA.lt
      have CUT:=zH (hA.own2.cut1 (Nat.zero_le f.lasts.length))
      have bxn:(Value.slice A2 0 cap2).ownBlock≠some (fb f.name):=by rw [own_block_len (n:=0) (m:=f.lasts.length)];exact hA.own2.not_box hA.box file_ne
      have HB:=zH hb
      have HX:=zH hx
      have HO:=zH hO
      have HD:=zH hD
      have HA:=zH hA
      have HFO:=zH hfo
      have HSZ:=zH hfo.size
      have HFM:=zH hfm
      have hlb:=hb.lt
      have hls:w.heap.size<w1.heap.size:=(NB.out _ hO).lt
      have hlf:(f.lasts.length:Int)≤(cap2:Int):=by omega
      clear hb hx hD hA hfo hfm hcm hcm2
      go_region_law ((refine step_appD _ rfl (.tmp 27) (.tmp 31) 36 rfl 0 5 i0 (.int .u8 0) 1 1 Tryz.underlying36 hi hz0 hz1 hz2 rfl (by decide) (.slice A2 0 cap2) 0 [] (by simp [Act.eval,Act.put]) ((by simpa using CUT.out:Own w1 0 5 1 (.slice A2 0 cap2) 0 []).keep (zD _)) _ A f.now.length cap (cel f.now) (by simp [Act.eval,Act.put]) (by rw [cel_length,Nat.mul_one]) (HA.out.own1.at_.keep (zD _)) (cel_one _) (by have:=HSZ.out;unfold maxLen;omega) (by have:=HSZ.out;omega) (Nat.zero_le _) ?_);intro v' w3 hown' hgrow hblk;obtain ⟨A',cap',rfl,-⟩:=hown'.form;have hb3:Box w3 (fb f.name) 126 #[.slice A f.now.length cap, .slice A2 f.lasts.length cap2]:=(hgrow.block _ (by simp;omega) (fun e=>bxn e.symm)).trans (HA.out.box.keep (zD _));have z0:=hb3.cell 1 rfl;have z1:=hb3.frozen 1)
      all_goals
       have hown2:Own w3 0 5 1 (.slice A' f.now.length cap') f.now.length (cel f.now):=by simpa using hown'
       have hgr:w1.grownBy w3 (Value.slice A2 f.lasts.length cap2).ownBlock:=by
        rw [own_block_len (n:=f.lasts.length) (m:=0)]
        exact grownBy_step ((zD _).grown_ _) hgrow (.inl rfl)
       rw [Nat.zero_add] at hblk
       have FP:=HA.out.put2 hgr hown2 (by
        rw [own_block_len (n:=f.lasts.length) (m:=0)]
        rcases hblk with e|e
        · exact .inl e
        · exact .inr ⟨_,e,Nat.le_refl _⟩)
       clear hown' hgrow hblk hb3 z0 z1 c0 c1 f1 hown2 hgr
       generalize w3.setCell ⟨fb f.name,1,none⟩ (.slice A' f.now.length cap')=w4 at *
       obtain ⟨F4,O4⟩:=FP
       have X4:=HX.out.turn (f':={f with lasts:=f.now}) HFM.out rfl (fun _=>rfl) O4 F4
       have T4:Turns w1 w4 F (more w1 w4 F):=turns_more O4 (fun i hi=>hi.1)
       have B4:Box w4 b 131 (dkC mf ml (goneS s).q (goneS s).armed (goneS s).off):=HX.out.box HB.out O4
       have nF:¬ F w.heap.size:=fun e=>by have:=hFl _ e;omega
       have N4:Box w4 w.heap.size 9 #[.string (str nm)]:=(O4.block _ hls (fun e=>nF e.1)).trans (NB.out _ HO.out)
       obtain ⟨l4,hm4,hmem⟩:=X4.loose
       have FG:=zH (forgetSync_any B4 hm4 170 rfl w.heap.size nm N4 (by omega))
       have FIN:=zH (show ∀ w5,LooseM w5 ml (l4.filter fun p=>!decide (p.1.1=nm))→Only w4 w5 (fun c=>c=ml∨c=w.heap.size)→Dk w5 b (more w1 w4 F) {goneS s with l:=setF (goneS s).l (syncF f)}∧Turns w w5 F (more w1 w4 F) from fun w5 hL5 hO5=>by
        have nF4:¬ more w1 w4 F w.heap.size:=fun e=>by
         rcases e with e|e
         · exact nF e
         · omega
        have X5:=X4.remark (f2:=syncF f) rfl rfl rfl ⟨_,hL5,fun p=>by
         rw [filt_keys (fun q=>!decide (q.1=nm)),hmem p,looseIn_set (f:=f) (f':={f with lasts:=f.now}) HX.out.nodup HFM.out rfl (fun _=>rfl) p,looseIn_set2 (f:=f) (f':=syncF f) HX.out.nodup HFM.out rfl p]
         simp only [Bool.not_eq_true',decide_eq_false_iff_not]
         rw [HFN.out]
         constructor
         · rintro ⟨h1,h2⟩
           exact .inl ⟨h2,h1⟩
         · rintro (⟨h1,h2⟩|⟨h1,h2⟩)
           · exact ⟨h2,h1⟩
           · cases h2⟩ (hO5.weak fun i hi=>by
         rcases hi with hi|hi
         · exact .inl hi
         · exact .inr (by rw [hi];exact nF4))
        have hne:b≠ml:=hm4.ne B4
        refine ⟨HD.out.make (HD.out.lok.set (f:=f) (f':=syncF f) (by show getF _ f.name=_;rw [HFN.out];exact hg2) HFO.out.sync (by show usedL (goneS s).l+sect f.now.length≤_;have:=HD.out.used;omega)) ⟨mf,ml,fb,_,(hO5.block b B4.lt (fun e=>?_)).trans B4,X5⟩,⟨((TB.out _ HO.out).trans T4).only.trans hO5 (fun i hi=>?_),((TB.out _ HO.out).trans T4).next⟩⟩
        · rcases e with e|e
          · exact hne e
          · omega
        · rcases hi with hi|hi
          · exact .inl (by rw [hi];exact HX.out.nl.1)
          · exact .inr (by omega))
       clear F4 O4 X4 T4 B4 N4 hm4 hmem n0 nF
       go_wp2_with (go_at_call 169;refine FG.out.mono ?_;rintro e w5 ⟨rfl,hL5,hO5⟩)
       have FF:=FIN.out w5 hL5 hO5
       go_ret
       exact ⟨rfl,_,FF.1,FF.2⟩
 · rw [ho] at BG
   have e:syncS s nm=(goneS s,6):=by unfold syncS;rw [ho];simp
   rw [e]
   clear e h h0 bx
   go_enter Tryz.func130,Tryz.ntmps130
   go_wp2_with (go_at_call 159;refine BG.out.mono ?_;rintro e w1 ⟨rfl,hD,hO⟩)
   go_ret
   exact ⟨rfl,F,hD,TB.out _ hO⟩
end
section
variable {w w':World} {b:Nat} {F:Nat→Prop} {s:Ds}
end
end Go.Proofs.YtjmkagakdhhigaaGreatDoor
