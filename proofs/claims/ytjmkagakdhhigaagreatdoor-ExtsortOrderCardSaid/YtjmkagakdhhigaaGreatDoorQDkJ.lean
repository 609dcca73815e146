/- Package disk: the closure that gathers what is moved. -/
import Derived.Test.YtjmkagakdhhigaaGreatDoorQDkG
import Derived.Test.YtjmkagakdhhigaaGreatDoorQDkI
import Derived.Test.YtjmkagakdhhigaaGreatDoorQDkD
import Derived.Test.YtjmkagakdhhigaaGreatDoorQDkB
set_option linter.unusedVariables false
set_option linter.unusedSimpArgs false
set_option maxRecDepth 100000
namespace Go.Proofs.YtjmkagakdhhigaaGreatDoor
open Go.RowKit Go.Shelf
def movL (a c:List UInt8) (pre:List Pl):List Pl:=(pre.filter fun p=>decide (p.1=a)).map fun p=>(c,p.2)
def MoveJ (B bf bm bt:Nat) (a c:List UInt8) (pre:List Pl) (T:Nat→Prop) (W:World):Prop:=
 ∃ v,Box W bf 9 #[.string (str a)]∧Box W bt 9 #[.string (str c)]∧Box W bm 66 #[v]∧Own W B 69 2 v (movL a c pre).length ((movL a c pre).flatMap celP)∧T=fun x=>x=bf∨x=bt∨x=bm∨v.ownBlock=some x
section
variable {w w':World} {b:Nat} {F:Nat→Prop} {s:Ds}
theorem DkX.rename {l:List Fl} {mf ml:Nat} {fb:List UInt8→Nat} {col:Nat→Option (List UInt8)} (h:DkX w b F l mf ml fb col) {a c:List UInt8} {f:Fl} (hg:getF l a=some f) (hM:FilesM w' mf (putM (delM (l.map fun f=>(f.name,fb f.name)) a) c (fb f.name)))
 (hL:∃ l3,LooseM w' ml l3∧∀ p,p∈l3.map Prod.fst↔(p.1≠a∧p.1≠c∧LooseIn l p)∨(p.1=c∧f.loose p.2=true)) (hO:Only w w' (fun i=>i=mf∨i=ml∨¬ F i)) :
 DkX w' b F (putF (delF (delF l a) c) {f with name:=c}) mf ml (fun n=>if n=c then fb a else fb n) (fun i=>if col i=some a then some c else if col i=some c then none else col i):=by
 have hfn:=getF_name hg
 have hfm:=getF_mem hg
 have hmem:∀ {g:Fl},g∈putF (delF (delF l a) c) {f with name:=c}↔g={f with name:=c}∨(g∈l∧g.name≠a∧g.name≠c):=fun {g}=>by
  rw [(putF_perm _ _).mem_iff,List.mem_cons]
  unfold delF
  rw [List.mem_filter,List.mem_filter]
  simp only [decide_eq_true_eq]
  constructor
  · rintro (h|⟨⟨h1,h2⟩,h3⟩)
    · exact .inl h
    · exact .inr ⟨h1,h2,h3⟩
  · rintro (h|⟨h1,h2,h3⟩)
    · exact .inl h
    · exact .inr ⟨⟨h1,h2⟩,h3⟩
 refine ⟨fun i hi=>Nat.lt_of_lt_of_le (h.lt i hi) hO.size,⟨h.nb.1,?_⟩,⟨h.nf.1,?_⟩,⟨h.nl.1,?_⟩,h.ne,?_,?_,fun g hg'=>?_⟩
 · rw [h.nb.2];rfl
 · rw [h.nf.2];rfl
 · rw [h.nl.2];rfl
 · refine hM.perm ?_
   refine List.Perm.trans ?_ ((putF_perm (delF (delF l a) c) {f with name:=c}).map fun g=>(g.name,if g.name=c then fb a else fb g.name)).symm
   rw [List.map_cons]
   unfold putM
   have e1:delM (delM (l.map fun f=>(f.name,fb f.name)) a) c=(delF (delF l a) c).map fun f=>(f.name,fb f.name):=by
    unfold delM delF
    rw [List.filter_map,List.filter_map]
    rfl
   have e2:((delF (delF l a) c).map fun g=>(g.name,if g.name=c then fb a else fb g.name))=(delF (delF l a) c).map fun f=>(f.name,fb f.name):=by
    apply List.map_congr_left
    intro g hg'
    have h1:=of_decide_eq_true (List.mem_filter.1 hg').2
    rw [if_neg h1]
   rw [e1,e2,hfn]
   simp
 · obtain ⟨l3,h1,h2⟩:=hL
   refine ⟨l3,h1,fun p=>(h2 p).trans ?_⟩
   constructor
   · rintro (⟨q1,q2,g,hg',g1,g2⟩|⟨q1,q2⟩)
     · exact ⟨g,hmem.2 (.inr ⟨hg',by rw [g1];exact q1,by rw [g1];exact q2⟩),g1,g2⟩
     · exact ⟨{f with name:=c},hmem.2 (.inl rfl),q1.symm,q2⟩
   · rintro ⟨g,hg',g1,g2⟩
     rcases hmem.1 hg' with rfl|⟨h3,h4,h5⟩
     · exact .inr ⟨g1.symm,g2⟩
     · exact .inl ⟨by rw [←g1];exact h4,by rw [←g1];exact h5,g,h3,g1,g2⟩
 · have hs:∀ {nm:List UInt8} {k:Nat} {v1 v2:Value} {x y:List UInt8},FileAt w (DkX.own F col nm) k v1 v2 x y→FileAt w' (DkX.own F col nm) k v1 v2 x y:=fun {nm k v1 v2 x y} q=>q.same fun i hi=>hO.block i (h.lt i hi.1) (fun e=>by
    rcases e with e|e|e
    · have:=hi.2;rw [e,h.nf.2] at this;cases this
    · have:=hi.2;rw [e,h.nl.2] at this;cases this
    · exact e hi.1)
   rcases hmem.1 hg' with rfl|⟨h3,h4,h5⟩
   · obtain ⟨v1,v2,q⟩:=h.each f hfm
     refine ⟨v1,v2,?_⟩
     simp only [if_true]
     rw [←hfn]
     exact (hs q).wide fun i hi=>⟨hi.1,by rw [hi.2,hfn];simp⟩
   · obtain ⟨v1,v2,q⟩:=h.each g h3
     refine ⟨v1,v2,?_⟩
     rw [if_neg h5]
     refine (hs q).wide fun i hi=>⟨hi.1,?_⟩
     rw [hi.2,if_neg (fun e=>h4 (Option.some.inj e)),if_neg (fun e=>h5 (Option.some.inj e))]
end
def keptP (P:List (List UInt8×Nat)) (keep:List Int) (p:List UInt8×Nat):Bool:=keep.any fun i=>decide (0≤i)&&decide (P[i.toNat]? = some p)
def lastsL (K:List UInt8×Nat→Bool) (l:List Fl):List Fl:=l.map fun f=>{f with lasts:=backB f (fun k=>K (f.name,k))}
def nowL (R:List UInt8→Bool) (l:List Fl):List Fl:=l.map fun f=>if R f.name then f else {f with now:=f.lasts}
section
variable {w w':World} {b:Nat} {F:Nat→Prop} {s:Ds}
end
end Go.Proofs.YtjmkagakdhhigaaGreatDoor
namespace Go.Proofs.YtjmkagakdhhigaaGreatDoor
open Go.RowKit
noncomputable def diskOk:DiskOk where
 Z _:=True
 keep _ _:=trivial
 D:=Dk
 lt h:=h.lt
 same h:=h.same
 ok h:=h.ok
 new q w _ h1 h2:=new_any q w h1 h2
 create nm _ h hn:=create_any h nm hn
 remove nm _ h hn:=remove_any h nm hn
 write nm off A n c l _ h hn h1 h2 hB hF hnl hnc hn7:=write_any h nm off A n c l hn h1 h2 hB hF hnl hnc hn7
 sync nm _ h hn:=sync_any h nm hn
 read nm off n _ h hn h1 h2 h3 h4:=read_any h nm off n hn h1 h2 h3 h4
 size nm _ h hn:=size_any h nm hn
 names _ h hl:=names_any h hl
 used _ h:=used_any h
 quota n _ h h1 h2:=quota_any h n h1 h2
 loose _ h:=loose_any h
 files _ h hl:=files_any h hl
end Go.Proofs.YtjmkagakdhhigaaGreatDoor
