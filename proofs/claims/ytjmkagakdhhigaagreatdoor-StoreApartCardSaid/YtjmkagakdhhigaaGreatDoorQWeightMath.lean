/- Mathematics of no program: weights that do not wrap, and the order of edges. -/
import Derived.Handy
set_option linter.unusedVariables false
set_option linter.unusedSimpArgs false
set_option maxRecDepth 100000
namespace Go.Proofs.YtjmkagakdhhigaaGreatDoor
def far:Nat:=9223372036854775808
def addB (a b:Nat):Bool:=decide (a+b<far)
def addV (a b:Nat):Nat:=bif addB a b then a+b else 0
def fitB (n m:Nat):Bool:=decide (n*m<far)
def mid1 (m:Nat):Nat:=(m+1)%4294967296
structure Ed where
 t:Nat
 h:Nat
 x:Nat
 m:Nat
structure EdOk (e:Ed):Prop where
 t:e.t<4294967296
 h:e.h<4294967296
 x:e.x<18446744073709551616
 m:e.m<4294967296
def betB (x m y k:Nat):Bool:=decide (x<y)||(decide (x=y)&&decide (mid1 m<mid1 k))
theorem mid1_inj {m k:Nat} (hm:m<4294967296) (hk:k<4294967296) (h:mid1 m=mid1 k):m=k:=by
 unfold mid1 at h
 omega
theorem betB_true (x m y k:Nat):betB x m y k=true↔x<y∨(x=y∧mid1 m<mid1 k):=by simp [betB]
theorem betB_irr (x m:Nat):betB x m x m=false:=by simp [betB]
theorem betB_asym {x m y k:Nat} (h:betB x m y k=true):betB y k x m=false:=by
 rw [Bool.eq_false_iff]
 intro h'
 rw [betB_true] at h h'
 omega
theorem betB_tot {x m y k:Nat} (hm:m<4294967296) (hk:k<4294967296) (h:betB x m y k=false) (h':betB y k x m=false):x=y∧m=k:=by
 rw [Bool.eq_false_iff,ne_eq,betB_true] at h h'
 have e:x=y:=by omega
 refine ⟨e,mid1_inj hm hk ?_⟩
 omega
def ahd (a b:Ed):Bool:=decide (a.t<b.t)||(decide (a.t=b.t)&&decide (a.h<b.h))
theorem ahd_true (a b:Ed):ahd a b=true↔a.t<b.t∨(a.t=b.t∧a.h<b.h):=by simp [ahd]
def Pair (a b:Ed):Prop:=a.t=b.t∧a.h=b.h
theorem Ed.ext' {a b:Ed} (h1:a.t=b.t) (h2:a.h=b.h) (h3:a.x=b.x) (h4:a.m=b.m):a=b:=by
 cases a;cases b;simp_all
def Rise (l:List Ed):Prop:=l.Pairwise fun a b=>ahd a b=true
def betE (a b:Ed):Bool:=betB a.x a.m b.x b.m
structure Red (l a:List Ed):Prop where
 rise:Rise a
 mem:∀ e∈a,e∈l
 loop:∀ e∈a,e.t≠e.h
 best:∀ e∈a,∀ f∈l,Pair f e→betE f e=false
 all:∀ f∈l,f.t≠f.h→∃ e∈a,Pair f e
def ahB (hd:Bool) (a b:Ed):Bool:=if hd=true then decide (a.h<b.h)||(decide (a.h=b.h)&&decide (a.t<b.t)) else ahd a b
theorem ahB_true (hd:Bool) (a b:Ed):ahB hd a b=true↔(if hd=true then a.h<b.h∨(a.h=b.h∧a.t<b.t) else a.t<b.t∨(a.t=b.t∧a.h<b.h)):=by
 unfold ahB
 cases hd
 · simp [ahd_true]
 · simp
theorem ahB_irr (hd:Bool) (a:Ed):ahB hd a a=false:=by
 cases h:ahB hd a a with
 | false=>rfl
 | true=>
  rw [ahB_true] at h
  cases hd<;>simp at h
theorem ahB_trans {hd:Bool} {a b c:Ed} (h:ahB hd a b=true) (k:ahB hd b c=true):ahB hd a c=true:=by
 rw [ahB_true] at *
 cases hd
 · simp only [Bool.false_eq_true,if_false] at *
   omega
 · simp only [if_true] at *
   omega
theorem pairB_left {hd:Bool} {a b:Ed} (h:Pair a b) (c:Ed):ahB hd a c=ahB hd b c:=by
 unfold ahB ahd
 rw [h.1,h.2]
theorem pairB_no {hd:Bool} {a b:Ed} (h:Pair a b):ahB hd a b=false:=by rw [pairB_left h,ahB_irr]
theorem Pair.symm {a b:Ed} (h:Pair a b):Pair b a:=⟨h.1.symm,h.2.symm⟩
theorem Pair.trans {a b c:Ed} (h:Pair a b) (k:Pair b c):Pair a c:=⟨h.1.trans k.1,h.2.trans k.2⟩
def RiseB (hd:Bool) (l:List Ed):Prop:=l.Pairwise fun a b=>ahB hd a b=true
structure RedB (hd:Bool) (l a:List Ed):Prop where
 rise:RiseB hd a
 mem:∀ e∈a,e∈l
 loop:∀ e∈a,e.t≠e.h
 best:∀ e∈a,∀ f∈l,Pair f e→betE f e=false
 all:∀ f∈l,f.t≠f.h→∃ e∈a,Pair f e
theorem riseB_eq {hd:Bool} {a b:List Ed} (ha:RiseB hd a) (hb:RiseB hd b) (h:∀ e,e∈a↔e∈b):a=b:=by
 induction a generalizing b with
 | nil=>
  cases b with
  | nil=>rfl
  | cons y b=>exact absurd ((h y).2 (by simp)) (by simp)
 | cons x a ih=>
  cases b with
  | nil=>exact absurd ((h x).1 (by simp)) (by simp)
  | cons y b=>
   unfold RiseB at ha hb
   rw [List.pairwise_cons] at ha hb
   have hxy:x=y:=by
    have h1:=(h x).1 (by simp)
    have h2:=(h y).2 (by simp)
    rcases List.mem_cons.1 h1 with e|e
    · exact e
    · rcases List.mem_cons.1 h2 with e'|e'
      · exact e'.symm
      · have:=ahB_trans (hb.1 x e) (ha.1 y e')
        rw [ahB_irr] at this
        cases this
   subst hxy
   congr 1
   refine ih ha.2 hb.2 fun e=>⟨fun he=>?_,fun he=>?_⟩
   · rcases List.mem_cons.1 ((h e).1 (List.mem_cons_of_mem _ he)) with e'|e'
     · subst e'
       have:=ha.1 _ he
       rw [ahB_irr] at this
       cases this
     · exact e'
   · rcases List.mem_cons.1 ((h e).2 (List.mem_cons_of_mem _ he)) with e'|e'
     · subst e'
       have:=hb.1 _ he
       rw [ahB_irr] at this
       cases this
     · exact e'
section
variable {hd hd':Bool} {l m a b c:List Ed}
theorem RedB.sub (hok:∀ e∈l,EdOk e) (ha:RedB hd l a) (hb:RedB hd' l b):∀ e,e∈a→e∈b:=by
 intro e he
 obtain ⟨f,hf,hp⟩:=hb.all e (ha.mem e he) (ha.loop e he)
 have h1:=ha.best e he f (hb.mem f hf) ⟨hp.1.symm,hp.2.symm⟩
 have h2:=hb.best f hf e (ha.mem e he) hp
 obtain ⟨hx,hm⟩:=betB_tot (hok f (hb.mem f hf)).m (hok e (ha.mem e he)).m h1 h2
 have:e=f:=Ed.ext' hp.1 hp.2 hx.symm hm.symm
 rw [this]
 exact hf
theorem RedB.eq (hok:∀ e∈l,EdOk e) (ha:RedB hd l a) (hb:RedB hd l b):a=b:=
 riseB_eq ha.rise hb.rise fun e=>⟨ha.sub hok hb e,hb.sub hok ha e⟩
theorem RedB.congr (h:∀ e,e∈l↔e∈m) (ha:RedB hd l a):RedB hd m a:=
 ⟨ha.rise,fun e he=>(h e).1 (ha.mem e he),ha.loop,fun e he f hf=>ha.best e he f ((h f).2 hf),fun f hf=>ha.all f ((h f).2 hf)⟩
theorem RedB.again (ha:RedB hd l a):RedB hd a a:=
 ⟨ha.rise,fun e he=>he,ha.loop,fun e he f hf=>ha.best e he f (ha.mem f hf),fun f hf _=>⟨f,hf,rfl,rfl⟩⟩
theorem redB_nil (hd:Bool):RedB hd [] []:=⟨List.Pairwise.nil,fun e he=>by simp at he,fun e he=>by simp at he,fun e he=>by simp at he,fun f hf=>by simp at hf⟩
theorem RedB.len_le (h:RedB hd l a):a.length≤l.length:=by
 have hn:a.Nodup:=h.rise.imp fun {x y} hxy e=>by
  rw [e,ahB_irr] at hxy
  cases hxy
 have:∀ {a l:List Ed},a.Nodup→(∀ e∈a,e∈l)→a.length≤l.length:=by
  intro a
  induction a with
  | nil=>intro l _ _;exact Nat.zero_le _
  | cons x a ih=>
   intro l hn hs
   obtain ⟨h1,h2⟩:=List.nodup_cons.1 hn
   obtain ⟨s,t,rfl⟩:=List.append_of_mem (hs x (List.mem_cons_self))
   have:=ih (l:=s++t) h2 (fun e he=>by
    have:=hs e (List.mem_cons_of_mem _ he)
    rcases List.mem_append.1 this with h3|h3
    · exact List.mem_append_left _ h3
    · rcases List.mem_cons.1 h3 with rfl|h3
      · exact absurd he h1
      · exact List.mem_append_right _ h3)
   simp only [List.length_append,List.length_cons] at this ⊢
   omega
 exact this hn h.mem
end
def putE (hd:Bool) (x:Ed):List Ed→List Ed
 | []=>[x]
 | y::a=>if ahB hd y x=true then y::putE hd x a else x::y::a
def sortE (hd:Bool) (r:List Ed):List Ed:=r.foldl (fun a x=>putE hd x a) []
def mergeE (hd:Bool):List Ed→List Ed→List Ed
 | [],b=>b
 | x::a,[]=>x::a
 | x::a,y::b=>if ahB hd x y=true then x::mergeE hd a (y::b) else if ahB hd y x=true then y::mergeE hd (x::a) b else (bif betE y x then y else x)::mergeE hd a b
 termination_by a b=>a.length+b.length
def LeE (hd:Bool) (a b:Ed):Prop:=ahB hd a b=true∨(Pair a b∧betE b a=false)
theorem leE_nums (hd:Bool) (a b:Ed):LeE hd a b↔if hd=true then a.h<b.h∨(a.h=b.h∧(a.t<b.t∨(a.t=b.t∧(a.x<b.x∨(a.x=b.x∧mid1 a.m≤mid1 b.m)))))
 else a.t<b.t∨(a.t=b.t∧(a.h<b.h∨(a.h=b.h∧(a.x<b.x∨(a.x=b.x∧mid1 a.m≤mid1 b.m))))):=by
 unfold LeE Pair betE
 rw [ahB_true,Bool.eq_false_iff,ne_eq,betB_true]
 cases hd
 · simp only [Bool.false_eq_true,if_false];omega
 · simp only [if_true];omega
theorem LeE.refl (hd:Bool) (a:Ed):LeE hd a a:=by
 rw [leE_nums]; cases hd<;>simp
theorem LeE.trans {hd:Bool} {a b c:Ed} (h:LeE hd a b) (k:LeE hd b c):LeE hd a c:=by
 rw [leE_nums] at *
 cases hd
 · simp only [Bool.false_eq_true,if_false] at *;omega
 · simp only [if_true] at *;omega
theorem LeE.total (hd:Bool) (a b:Ed):LeE hd a b∨LeE hd b a:=by
 rw [leE_nums,leE_nums]
 cases hd
 · simp only [Bool.false_eq_true,if_false];omega
 · simp only [if_true];omega
theorem LeE.strict {hd:Bool} {a b:Ed} (h:LeE hd a b) (n:¬ Pair a b):ahB hd a b=true:=h.elim id fun k=>absurd k.1 n
theorem LeE.best {hd:Bool} {a b:Ed} (h:LeE hd a b) (p:Pair a b):betE b a=false:=by
 rcases h with h|h
 · rw [pairB_no p] at h;cases h
 · exact h.2
def lastP (o:List Ed):Nat×Nat:=match o.getLast? with
 | none=>(0,0)
 | some y=>(y.t,y.h)
def stepU (o:List Ed) (x:Ed):List Ed:=if (x.t,x.h)=lastP o then o else o++[x]
def uniqE (s:List Ed):List Ed:=s.foldl stepU []
theorem uniqE_snoc (s:List Ed) (x:Ed):uniqE (s++[x])=stepU (uniqE s) x:=by
 unfold uniqE
 rw [List.foldl_append]
 rfl
theorem lastP_snoc (o:List Ed) (x:Ed):lastP (o++[x])=(x.t,x.h):=by
 unfold lastP
 rw [List.getLast?_append]
 simp
theorem lastP_step (o:List Ed) (x:Ed):lastP (stepU o x)=(x.t,x.h):=by
 unfold stepU
 split
 · rename_i h;exact h.symm
 · exact lastP_snoc o x
theorem lastP_uniq (s:List Ed) (x:Ed):lastP (uniqE (s++[x]))=(x.t,x.h):=by rw [uniqE_snoc,lastP_step]
theorem stepU_new {o:List Ed} {x:Ed} (h:(x.t,x.h)≠lastP o):stepU o x=o++[x]:=if_neg h
theorem stepU_old {o:List Ed} {x:Ed} (h:(x.t,x.h)=lastP o):stepU o x=o:=if_pos h
theorem stepU_len (o:List Ed) (x:Ed):(stepU o x).length≤o.length+1:=by
 unfold stepU
 split
 · omega
 · simp
theorem stepU_mem {o:List Ed} {x e:Ed} (h:e∈stepU o x):e∈o∨e=x:=by
 unfold stepU at h
 split at h
 · exact .inl h
 · rw [List.mem_append,List.mem_singleton] at h;exact h
theorem snocE_ind {P:List Ed→Prop} (h0:P []) (h1:∀ s x,P s→P (s++[x])):∀ s,P s:=by
 have:∀ n s,s.length=n→P s:=by
  intro n
  induction n with
  | zero=>intro s hs;rw [List.eq_nil_of_length_eq_zero hs];exact h0
  | succ n ih=>
   intro s hs
   have hne:s≠[]:=fun e=>by rw [e] at hs;cases hs
   rw [←List.dropLast_concat_getLast hne]
   exact h1 _ _ (ih _ (by rw [List.length_dropLast];omega))
 exact fun s=>this _ s rfl
theorem uniqE_len (s:List Ed):(uniqE s).length≤s.length:=by
 refine snocE_ind (P:=fun s=>(uniqE s).length≤s.length) (Nat.le_refl _) (fun s x ih=>?_) s
 rw [uniqE_snoc,List.length_append]
 have:=stepU_len (uniqE s) x
 simp only [List.length_singleton]
 omega
theorem uniqE_mem (s:List Ed):∀ e∈uniqE s,e∈s:=by
 refine snocE_ind (P:=fun s=>∀ e∈uniqE s,e∈s) (fun e he=>he) (fun s x ih e he=>?_) s
 rw [uniqE_snoc] at he
 rcases stepU_mem he with h|rfl
 · exact List.mem_append_left _ (ih e h)
 · simp
theorem uniqE_red (hd:Bool) (s:List Ed):s.Pairwise (LeE hd)→(∀ e∈s,e.t≠e.h)→RedB hd s (uniqE s):=by
 refine snocE_ind (P:=fun s=>s.Pairwise (LeE hd)→(∀ e∈s,e.t≠e.h)→RedB hd s (uniqE s)) (fun _ _=>redB_nil hd) (fun s x ih hs hl=>?_) s
 rw [List.pairwise_append] at hs
 obtain ⟨h1,-,h3⟩:=hs
 have ih:=ih h1 fun e he=>hl e (List.mem_append_left _ he)
 have hx:∀ e∈s,LeE hd e x:=fun e he=>h3 e he x (by simp)
 have hxl:=hl x (by simp)
 rw [uniqE_snoc]
 generalize uniqE s=o at *
 have hlast:o=[]∧lastP o=(0,0)∨∃ o' y,o=o'++[y]∧lastP o=(y.t,y.h):=by
  by_cases hne:o=[]
  · exact .inl ⟨hne,by rw [hne];rfl⟩
  · refine .inr ⟨o.dropLast,o.getLast hne,(List.dropLast_concat_getLast hne).symm,?_⟩
    conv=>lhs;rw [←List.dropLast_concat_getLast hne]
    exact lastP_snoc _ _
 by_cases hp:(x.t,x.h)=lastP o
 · rw [stepU_old hp]
   rcases hlast with ⟨-,h0⟩|⟨o',y,ho,hy⟩
   · rw [h0,Prod.mk.injEq] at hp
     omega
   · rw [hy,Prod.mk.injEq] at hp
     have hyo:y∈o:=by rw [ho];simp
     have hxy:Pair x y:=hp
     refine ⟨ih.rise,fun e he=>List.mem_append_left _ (ih.mem e he),ih.loop,fun e he f hf hpf=>?_,fun f hf hfl=>?_⟩
     · rcases List.mem_append.1 hf with hf|hf
       · exact ih.best e he f hf hpf
       · rw [List.mem_singleton] at hf
         subst hf
         exact (hx e (ih.mem e he)).best hpf.symm
     · rcases List.mem_append.1 hf with hf|hf
       · exact ih.all f hf hfl
       · rw [List.mem_singleton] at hf
         subst hf
         exact ⟨y,hyo,hxy⟩
 · rw [stepU_new hp]
   have hnp:∀ e∈o,¬ Pair e x:=by
    intro e he hpe
    rcases hlast with ⟨h0,-⟩|⟨o',y,ho,hy⟩
    · rw [h0] at he;simp at he
    · have hyo:y∈o:=by rw [ho];simp
      have hnp:¬ Pair x y:=fun hh=>hp (by rw [hy,hh.1,hh.2])
      have hye:=(hx y (ih.mem y hyo)).strict fun hh=>hnp hh.symm
      have hr:=ih.rise
      unfold RiseB at hr
      rw [ho,List.pairwise_append] at hr
      rw [ho] at he
      rcases List.mem_append.1 he with he|he
      · have:=ahB_trans (hr.2.2 e he y (by simp)) hye
        rw [pairB_no hpe] at this
        cases this
      · rw [List.mem_singleton] at he
        subst he
        exact hnp hpe.symm
   refine ⟨?_,fun e he=>?_,fun e he=>?_,fun e he f hf hpf=>?_,fun f hf hfl=>?_⟩
   · unfold RiseB
     rw [List.pairwise_append]
     refine ⟨ih.rise,List.pairwise_singleton _ _,fun e he f hf=>?_⟩
     rw [List.mem_singleton] at hf
     subst hf
     exact (hx e (ih.mem e he)).strict (hnp e he)
   · rcases List.mem_append.1 he with he|he
     · exact List.mem_append_left _ (ih.mem e he)
     · exact List.mem_append_right _ he
   · rcases List.mem_append.1 he with he|he
     · exact ih.loop e he
     · rw [List.mem_singleton] at he
       subst he
       exact hxl
   · rcases List.mem_append.1 he with he2|he
     · rcases List.mem_append.1 hf with hf|hf
       · exact ih.best e he2 f hf hpf
       · rw [List.mem_singleton] at hf
         subst hf
         exact absurd hpf.symm (hnp e he2)
     · rw [List.mem_singleton] at he
       subst he
       rcases List.mem_append.1 hf with hf|hf
       · obtain ⟨g,hg,hpg⟩:=ih.all f hf (by rw [hpf.1,hpf.2];exact hxl)
         exact absurd (hpg.symm.trans hpf) (hnp g hg)
       · rw [List.mem_singleton] at hf
         subst hf
         unfold betE
         exact betB_irr _ _
   · rcases List.mem_append.1 hf with hf|hf
     · obtain ⟨g,hg,hpg⟩:=ih.all f hf hfl
       exact ⟨g,List.mem_append_left _ hg,hpg⟩
     · rw [List.mem_singleton] at hf
       subst hf
       exact ⟨_,List.mem_append_right _ (List.mem_singleton_self _),rfl,rfl⟩
structure CvrE (l a:List Ed):Prop where
 mem:∀ e∈a,e∈l
 all:∀ f∈l,f.t≠f.h→∃ e∈a,Pair f e∧betE f e=false
section
variable {hd:Bool} {l m a b c:List Ed}
theorem RedB.cvr (h:RedB hd l a):CvrE l a:=⟨h.mem,fun f hf hl=>by
 obtain ⟨e,he,hp⟩:=h.all f hf hl
 exact ⟨e,he,hp,h.best e he f hf hp⟩⟩
theorem betE_le {a b c:Ed} (h:betE a b=false) (k:betE b c=false):betE a c=false:=by
 unfold betE at *
 rw [Bool.eq_false_iff,ne_eq,betB_true] at *
 omega
theorem CvrE.red (h:CvrE l a) (k:RedB hd a c):RedB hd l c:=by
 refine ⟨k.rise,fun e he=>h.mem e (k.mem e he),k.loop,fun e he f hf hp=>?_,fun f hf hl=>?_⟩
 · obtain ⟨g,hg,hp2,hb⟩:=h.all f hf (by rw [hp.1,hp.2];exact k.loop e he)
   exact betE_le hb (k.best e he g hg (hp2.symm.trans hp))
 · obtain ⟨g,hg,hp,-⟩:=h.all f hf hl
   obtain ⟨e,he,hp2⟩:=k.all g hg (by rw [←hp.1,←hp.2];exact hl)
   exact ⟨e,he,hp.trans hp2⟩
theorem CvrE.join (h:CvrE l a) (k:CvrE m b):CvrE (l++m) (a++b):=by
 refine ⟨fun e he=>?_,fun f hf hl=>?_⟩
 · rcases List.mem_append.1 he with he|he
   · exact List.mem_append_left _ (h.mem e he)
   · exact List.mem_append_right _ (k.mem e he)
 · rcases List.mem_append.1 hf with hf|hf
   · obtain ⟨e,he,hp⟩:=h.all f hf hl
     exact ⟨e,List.mem_append_left _ he,hp⟩
   · obtain ⟨e,he,hp⟩:=k.all f hf hl
     exact ⟨e,List.mem_append_right _ he,hp⟩
theorem CvrE.trans (h:CvrE l a) (k:CvrE a c):CvrE l c:=⟨fun e he=>h.mem e (k.mem e he),fun f hf hl=>by
 obtain ⟨g,hg,hp,hb⟩:=h.all f hf hl
 obtain ⟨e,he,hp2,hb2⟩:=k.all g hg (by rw [←hp.1,←hp.2];exact hl)
 exact ⟨e,he,hp.trans hp2,betE_le hb hb2⟩⟩
theorem CvrE.congr (h:CvrE l a) (k:∀ e,e∈a↔e∈b):CvrE l b:=⟨fun e he=>h.mem e ((k e).2 he),fun f hf hl=>by
 obtain ⟨e,he,hp⟩:=h.all f hf hl
 exact ⟨e,(k e).1 he,hp⟩⟩
theorem CvrE.nil:CvrE [] []:=⟨fun e he=>he,fun f hf=>by simp at hf⟩
theorem CvrE.self (l:List Ed):CvrE l l:=⟨fun e he=>he,fun f hf _=>⟨f,hf,⟨rfl,rfl⟩,by unfold betE;exact betB_irr _ _⟩⟩
theorem CvrE.noloop (l:List Ed):CvrE l (l.filter fun e=>decide (e.t≠e.h)):=⟨fun e he=>(List.mem_filter.1 he).1,fun f hf hl=>⟨f,List.mem_filter.2 ⟨hf,by simpa using hl⟩,⟨rfl,rfl⟩,by unfold betE;exact betB_irr _ _⟩⟩
theorem RedB.le (h:RedB hd l a):a.Pairwise (LeE hd):=h.rise.imp fun {x y} k=>.inl k
end
structure Mrg (hd:Bool) (M:List Ed) (ls:List (List Ed)) (s:List Ed):Prop where
 sorted:s.Pairwise (LeE hd)
 each:∀ r∈ls,r.Pairwise (LeE hd)
 ahead:∀ x∈s,∀ r∈ls,∀ y∈r,LeE hd x y
 mem:∀ x,(x∈s∨∃ r∈ls,x∈r)↔x∈M
section
variable {hd:Bool} {M s:List Ed} {ls ls':List (List Ed)}
theorem Mrg.first (h:∀ r∈ls,r.Pairwise (LeE hd)):Mrg hd ls.flatten ls []:=
 ⟨List.Pairwise.nil,h,fun x hx=>by simp at hx,fun x=>by simp [List.mem_flatten]⟩
theorem Mrg.done (h:Mrg hd M [] s) (hl:∀ e∈M,e.t≠e.h):RedB hd M (uniqE s):=by
 have hm:∀ x,x∈s↔x∈M:=fun x=>by rw [←h.mem x];simp
 exact (uniqE_red hd s h.sorted fun e he=>hl e ((hm e).1 he)).congr hm
theorem Mrg.step {i:Nat} {x:Ed} {r:List Ed} (h:Mrg hd M ls s) (hi:ls[i]? = some (x::r)) (hx:∀ y r',(y::r')∈ls→LeE hd x y) (hls:∀ q,q∈ls'→q∈ls∨q=r) (hls2:∀ q,(∃ j,j≠i∧ls[j]? = some q∧q≠[])→q∈ls') (hr:r≠[]→r∈ls'):Mrg hd M ls' (s++[x]):=by
 have hin:(x::r)∈ls:=List.mem_of_getElem? hi
 have her:=List.pairwise_cons.1 (h.each _ hin)
 have hle:∀ q∈ls',∀ y∈q,LeE hd x y:=by
  intro q hq y hy
  rcases hls q hq with hq|rfl
  · cases q with
    | nil=>simp at hy
    | cons z q=>
     have h1:=hx z q hq
     rcases List.mem_cons.1 hy with rfl|hy
     · exact h1
     · exact h1.trans ((List.pairwise_cons.1 (h.each _ hq)).1 y hy)
  · exact her.1 y hy
 refine ⟨?_,fun q hq=>?_,fun y hy q hq z hz=>?_,fun y=>?_⟩
 · rw [List.pairwise_append]
   refine ⟨h.sorted,List.pairwise_singleton _ _,fun y hy z hz=>?_⟩
   rw [List.mem_singleton] at hz
   subst hz
   exact h.ahead y hy _ hin z (by simp)
 · rcases hls q hq with hq|rfl
   · exact h.each q hq
   · exact her.2
 · rcases List.mem_append.1 hy with hy|hy
   · rcases hls q hq with hq|rfl
     · exact h.ahead y hy q hq z hz
     · exact h.ahead y hy _ hin z (List.mem_cons_of_mem _ hz)
   · rw [List.mem_singleton] at hy
     subst hy
     exact hle q hq z hz
 · rw [←h.mem y,List.mem_append,List.mem_singleton]
   constructor
   · rintro ((h1|rfl)|⟨q,hq,hy⟩)
     · exact .inl h1
     · exact .inr ⟨_,hin,by simp⟩
     · rcases hls q hq with hq|rfl
       · exact .inr ⟨q,hq,hy⟩
       · exact .inr ⟨_,hin,List.mem_cons_of_mem _ hy⟩
   · rintro (h1|⟨q,hq,hy⟩)
     · exact .inl (.inl h1)
     · obtain ⟨j,hj⟩:=List.mem_iff_getElem?.1 hq
       by_cases e:j=i
       · subst e
         rw [hi] at hj
         obtain rfl:=Option.some.inj hj
         rcases List.mem_cons.1 hy with rfl|hy
         · exact .inl (.inr rfl)
         · exact .inr ⟨r,hr (fun e=>by rw [e] at hy;simp at hy),hy⟩
       · exact .inr ⟨q,hls2 q ⟨j,e,hj,fun e=>by rw [e] at hy;simp at hy⟩,hy⟩
end
end Go.Proofs.YtjmkagakdhhigaaGreatDoor
