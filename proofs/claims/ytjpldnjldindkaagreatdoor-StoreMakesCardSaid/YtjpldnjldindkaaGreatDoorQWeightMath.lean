/- Mathematics of no program: weights that do not wrap, and the order of edges. -/
import Derived.Handy
set_option linter.all false
set_option maxRecDepth 100000
namespace Go.Proofs.YtjpldnjldindkaaGreatDoor
def far:Nat:=9223372036854775808
def addB (a b:Nat):Bool:=decide (a+b<far)
def addV (a b:Nat):Nat:=bif addB a b then a+b else 0
def fitB (n m:Nat):Bool:=decide (n*m<far)
def mid1 (m:Nat):Nat:=(m+1)%4294967296
structure Ed where
 t:Nat
 h:Nat
 x:Nat
 m:Nat
structure EdOk (e:Ed):Prop where
 t:e.t<4294967296
 h:e.h<4294967296
 x:e.x<18446744073709551616
 m:e.m<4294967296
def betB (x m y k:Nat):Bool:=decide (x<y)||(decide (x=y)&&decide (mid1 m<mid1 k))
theorem zoM {m k:Nat} (hm:m<4294967296) (hk:k<4294967296) (h:mid1 m=mid1 k):m=k:=by
 unfold mid1 at h;omega
theorem zcd (x m y k:Nat):betB x m y k=true↔x<y∨(x=y∧mid1 m<mid1 k):=by simp [betB]
theorem zdi (x m:Nat):betB x m x m=false:=by simp [betB]
theorem zmE {x m y k:Nat} (h:betB x m y k=true):betB y k x m=false:=by
 rw [Bool.eq_false_iff];intro h';rw [zcd] at h h';omega
theorem zlk {x m y k z j:Nat} (h:betB x m y k=true) (h':betB y k z j=true):betB x m z j=true:=by
 rw [zcd] at *;omega
theorem zoN {x m y k:Nat} (hm:m<4294967296) (hk:k<4294967296) (h:betB x m y k=false) (h':betB y k x m=false):x=y∧m=k:=by
 rw [Bool.eq_false_iff,ne_eq,zcd] at h h';have e:x=y:=by omega
 refine ⟨e,zoM hm hk ?_⟩;omega
def ahd (a b:Ed):Bool:=decide (a.t<b.t)||(decide (a.t=b.t)&&decide (a.h<b.h))
theorem zfV (a b:Ed):ahd a b=true↔a.t<b.t∨(a.t=b.t∧a.h<b.h):=by simp [ahd]
theorem zmF (a b:Ed):ahd a b=false↔b.t<a.t∨(b.t=a.t∧b.h≤a.h):=by
 rw [Bool.eq_false_iff,ne_eq,zfV];omega
theorem zmG {a b c:Ed} (h:ahd a b=true) (k:ahd b c=true):ahd a c=true:=by
 rw [zfV] at *;omega
def Pair (a b:Ed):Prop:=a.t=b.t∧a.h=b.h
theorem zqD {a b:Ed} (h:ahd a b=false) (k:ahd b a=false):Pair a b:=by
 rw [zmF] at h k;unfold Pair;omega
theorem Ed.ext' {a b:Ed} (h1:a.t=b.t) (h2:a.h=b.h) (h3:a.x=b.x) (h4:a.m=b.m):a=b:=by
 cases a;cases b;simp_all
def Rise (l:List Ed):Prop:=l.Pairwise fun a b=>ahd a b=true
def betE (a b:Ed):Bool:=betB a.x a.m b.x b.m
structure Red (l a:List Ed):Prop where
 rise:Rise a
 mem:∀ e∈a,e∈l
 loop:∀ e∈a,e.t≠e.h
 best:∀ e∈a,∀ f∈l,Pair f e→betE f e=false
 all:∀ f∈l,f.t≠f.h→∃ e∈a,Pair f e
theorem zqE:Red [] []:=⟨List.Pairwise.nil,fun e he=>by simp at he,fun e he=>by simp at he,fun e he=>by simp at he,fun f hf=>by simp at hf⟩
theorem Red.loop1 {l a:List Ed} {x:Ed} (h:Red l a) (hx:x.t=x.h):Red (l++[x]) a:=by
 refine ⟨h.rise,fun e he=>List.mem_append_left _ (h.mem e he),h.loop,fun e he f hf hp=>?_,fun f hf hl=>?_⟩
 ·rcases List.mem_append.1 hf with hf|hf
  ·exact h.best e he f hf hp
  ·simp only [List.mem_singleton] at hf;subst hf;have:=h.loop e he;exact absurd (by rw [←hp.1,←hp.2];exact hx) this
 ·rcases List.mem_append.1 hf with hf|hf
  ·exact h.all f hf hl
  ·simp only [List.mem_singleton] at hf;subst hf;exact absurd hx hl
theorem Red.better1 {l p q:List Ed} {x y:Ed} (h:Red l (p++y::q)) (hp:Pair x y):Red (l++[x]) (p++(bif betE x y then x else y)::q):=by
 have hr:=h.rise;unfold Rise at hr;have hxl:x.t≠x.h:=by rw [hp.1,hp.2];exact h.loop y (by simp)
 have hz:Pair (bif betE x y then x else y) y:=by cases betE x y<;>simp [hp,Pair]<;>exact hp
 generalize hzz:(bif betE x y then x else y)=z at *;have az:∀ e,ahd z e=ahd y e:=fun e=>by simp [ahd,hz.1,hz.2]
 have az':∀ e,ahd e z=ahd e y:=fun e=>by simp [ahd,hz.1,hz.2]
 have other:∀ e,e∈p++q→¬ Pair e y:=fun e he hpe=>by
  rw [List.pairwise_append] at hr;rcases List.mem_append.1 he with he|he
  ·have:=hr.2.2 e he y (by simp);simp [ahd,hpe.1,hpe.2] at this
  ·have:=(List.pairwise_cons.1 hr.2.1).1 e he;simp [ahd,hpe.1,hpe.2] at this
 have zm:z=x∨z=y:=by rw [←hzz]; cases betE x y<;>simp
 refine ⟨?_,fun e he=>?_,fun e he=>?_,fun e he f hf hpf=>?_,fun f hf hl=>?_⟩
 ·unfold Rise;rw [List.pairwise_append,List.pairwise_cons] at hr ⊢;refine ⟨hr.1,⟨fun e he=>by rw [az];exact hr.2.1.1 e he,hr.2.1.2⟩,fun a ha b hb=>?_⟩;rcases List.mem_cons.1 hb with rfl|hb
  ·rw [az'];exact hr.2.2 a ha y (by simp)
  ·exact hr.2.2 a ha b (by simp [hb])
 ·rcases List.mem_append.1 he with he|he
  ·exact List.mem_append_left _ (h.mem e (by simp [he]))
  ·rcases List.mem_cons.1 he with rfl|he
   ·rcases zm with e|e
    ·rw [e];simp
    ·rw [e];exact List.mem_append_left _ (h.mem y (by simp))
   ·exact List.mem_append_left _ (h.mem e (by simp [he]))
 ·rcases List.mem_append.1 he with he|he
  ·exact h.loop e (by simp [he])
  ·rcases List.mem_cons.1 he with rfl|he
   ·rw [hz.1,hz.2];exact h.loop y (by simp)
   ·exact h.loop e (by simp [he])
 ·have h0:e∈p++q∨e=z:=by
   rcases List.mem_append.1 he with he|he
   ·exact .inl (List.mem_append_left _ he)
   ·rcases List.mem_cons.1 he with he|he
    ·exact .inr he
    ·exact .inl (List.mem_append_right _ he)
  rcases h0 with he'|he'
  ·have hne:=other e he';rcases List.mem_append.1 hf with hf|hf
   ·exact h.best e (by rcases List.mem_append.1 he' with h|h<;>simp [h]) f hf hpf
   ·simp only [List.mem_singleton] at hf;subst hf;exact absurd ⟨hpf.1.symm.trans hp.1,hpf.2.symm.trans hp.2⟩ hne
  ·subst he';have hfy:∀ f∈l,Pair f e→betE f y=false:=(fun f hf hpf=>h.best y (by simp) f hf ⟨hpf.1.trans hz.1,hpf.2.trans hz.2⟩);cases hb:betE x y with
   | true=>
    rw [hb] at hzz;simp only [cond_true] at hzz;subst hzz;rcases List.mem_append.1 hf with hf|hf
    ·have:=hfy f hf hpf;cases h3:betE f x with
     | false=>rfl
     | true=>unfold betE at *;rw [zlk h3 hb] at this;cases this
    ·simp only [List.mem_singleton] at hf;subst hf;exact zdi _ _
   | false=>
    rw [hb] at hzz;simp only [cond_false] at hzz;subst hzz;rcases List.mem_append.1 hf with hf|hf
    ·exact hfy f hf hpf
    ·simp only [List.mem_singleton] at hf;subst hf;exact hb
 ·rcases List.mem_append.1 hf with hf|hf
  ·obtain ⟨e,he,hq⟩:=h.all f hf hl;rcases List.mem_append.1 he with he|he
   ·exact ⟨e,by simp [he],hq⟩
   ·rcases List.mem_cons.1 he with rfl|he
    ·exact ⟨z,by simp,hq.1.trans hz.1.symm,hq.2.trans hz.2.symm⟩
    ·exact ⟨e,by simp [he],hq⟩
  ·simp only [List.mem_singleton] at hf;subst hf;exact ⟨z,by simp,hp.1.trans hz.1.symm,hp.2.trans hz.2.symm⟩
theorem Red.new1 {l p q:List Ed} {x:Ed} (h:Red l (p++q)) (hx:x.t≠x.h) (hp:∀ e∈p,ahd e x=true) (hq:∀ e∈q,ahd x e=true):Red (l++[x]) (p++x::q):=by
 have hr:=h.rise;unfold Rise at hr;have other:∀ e,e∈p++q→¬ Pair e x:=fun e he hpe=>by
  rcases List.mem_append.1 he with he|he
  ·have:=hp e he;simp [ahd,hpe.1,hpe.2] at this
  ·have:=hq e he;simp [ahd,hpe.1,hpe.2] at this
 have nox:∀ f∈l,¬ Pair f x:=fun f hf hpf=>by
  obtain ⟨e,he,hpe⟩:=h.all f hf (by rw [hpf.1,hpf.2];exact hx);exact other e he ⟨hpe.1.symm.trans hpf.1,hpe.2.symm.trans hpf.2⟩
 have mm:∀ e,e∈p++x::q→e=x∨e∈p++q:=fun e he=>by
  rcases List.mem_append.1 he with he|he
  ·exact .inr (List.mem_append_left _ he)
  ·rcases List.mem_cons.1 he with he|he
   ·exact .inl he
   ·exact .inr (List.mem_append_right _ he)
 refine ⟨?_,fun e he=>?_,fun e he=>?_,fun e he f hf hpf=>?_,fun f hf hl=>?_⟩
 ·unfold Rise;rw [List.pairwise_append] at hr;rw [List.pairwise_append,List.pairwise_cons];refine ⟨hr.1,⟨hq,hr.2.1⟩,fun a ha b hb=>?_⟩;rcases List.mem_cons.1 hb with rfl|hb
  ·exact hp a ha
  ·exact hr.2.2 a ha b hb
 ·rcases mm e he with rfl|he
  ·simp
  ·exact List.mem_append_left _ (h.mem e he)
 ·rcases mm e he with rfl|he
  ·exact hx
  ·exact h.loop e he
 ·rcases mm e he with rfl|he
  ·rcases List.mem_append.1 hf with hf|hf
   ·exact absurd hpf (nox f hf)
   ·simp only [List.mem_singleton] at hf;subst hf;exact zdi _ _
  ·have hoe:=other e he;rcases List.mem_append.1 hf with hf|hf
   ·exact h.best e he f hf hpf
   ·simp only [List.mem_singleton] at hf;subst hf;exact absurd ⟨hpf.1.symm,hpf.2.symm⟩ hoe
 ·rcases List.mem_append.1 hf with hf|hf
  ·obtain ⟨e,he,hpe⟩:=h.all f hf hl;refine ⟨e,?_,hpe⟩;rcases List.mem_append.1 he with he|he<;>simp [he]
  ·simp only [List.mem_singleton] at hf;subst hf;exact ⟨f,by simp,rfl,rfl⟩
def ahB (hd:Bool) (a b:Ed):Bool:=if hd=true then decide (a.h<b.h)||(decide (a.h=b.h)&&decide (a.t<b.t)) else ahd a b
theorem zcz (hd:Bool) (a b:Ed):ahB hd a b=true↔(if hd=true then a.h<b.h∨(a.h=b.h∧a.t<b.t) else a.t<b.t∨(a.t=b.t∧a.h<b.h)):=by
 unfold ahB;cases hd
 ·simp [zfV]
 ·simp
theorem zde (hd:Bool) (a:Ed):ahB hd a a=false:=by
 cases h:ahB hd a a with
 | false=>rfl
 | true=>
  rw [zcz] at h;cases hd<;>simp at h
theorem zeN {hd:Bool} {a b c:Ed} (h:ahB hd a b=true) (k:ahB hd b c=true):ahB hd a c=true:=by
 rw [zcz] at *;cases hd
 ·simp only [Bool.false_eq_true,if_false] at *;omega
 ·simp only [if_true] at *;omega
theorem zoO {hd:Bool} {a b:Ed} (h:ahB hd a b=false) (k:ahB hd b a=false):Pair a b:=by
 rw [Bool.eq_false_iff,ne_eq,zcz] at h k;unfold Pair;cases hd
 ·simp only [Bool.false_eq_true,if_false] at h k;omega
 ·simp only [if_true] at h k;omega
theorem zll {hd:Bool} {a b:Ed} (h:Pair a b) (c:Ed):ahB hd a c=ahB hd b c:=by
 unfold ahB ahd;rw [h.1,h.2]
theorem zef {hd:Bool} {a b:Ed} (h:Pair a b):ahB hd a b=false:=by rw [zll h,zde]
theorem Pair.symm {a b:Ed} (h:Pair a b):Pair b a:=⟨h.1.symm,h.2.symm⟩
theorem Pair.trans {a b c:Ed} (h:Pair a b) (k:Pair b c):Pair a c:=⟨h.1.trans k.1,h.2.trans k.2⟩
def RiseB (hd:Bool) (l:List Ed):Prop:=l.Pairwise fun a b=>ahB hd a b=true
structure RedB (hd:Bool) (l a:List Ed):Prop where
 rise:RiseB hd a
 mem:∀ e∈a,e∈l
 loop:∀ e∈a,e.t≠e.h
 best:∀ e∈a,∀ f∈l,Pair f e→betE f e=false
 all:∀ f∈l,f.t≠f.h→∃ e∈a,Pair f e
theorem Red.toB {l a:List Ed} (h:Red l a):RedB false l a:=⟨h.rise,h.mem,h.loop,h.best,h.all⟩
theorem ziR {hd:Bool} {a b:List Ed} (ha:RiseB hd a) (hb:RiseB hd b) (h:∀ e,e∈a↔e∈b):a=b:=by
 induction a generalizing b with
 | nil=>
  cases b with
  | nil=>rfl
  | cons y b=>exact absurd ((h y).2 (by simp)) (by simp)
 | cons x a ih=>
  cases b with
  | nil=>exact absurd ((h x).1 (by simp)) (by simp)
  | cons y b=>
   unfold RiseB at ha hb;rw [List.pairwise_cons] at ha hb;have hxy:x=y:=by
    have h1:=(h x).1 (by simp);have h2:=(h y).2 (by simp);rcases List.mem_cons.1 h1 with e|e
    ·exact e
    ·rcases List.mem_cons.1 h2 with e'|e'
     ·exact e'.symm
     ·have:=zeN (hb.1 x e) (ha.1 y e');rw [zde] at this;cases this
   subst hxy;congr 1
   refine ih ha.2 hb.2 fun e=>⟨fun he=>?_,fun he=>?_⟩
   ·rcases List.mem_cons.1 ((h e).1 (List.mem_cons_of_mem _ he)) with e'|e'
    ·subst e';have:=ha.1 _ he;rw [zde] at this;cases this
    ·exact e'
   ·rcases List.mem_cons.1 ((h e).2 (List.mem_cons_of_mem _ he)) with e'|e'
    ·subst e';have:=hb.1 _ he;rw [zde] at this;cases this
    ·exact e'
section
variable {hd hd':Bool} {l m a b c:List Ed}
theorem RedB.sub (hok:∀ e∈l,EdOk e) (ha:RedB hd l a) (hb:RedB hd' l b):∀ e,e∈a→e∈b:=by
 intro e he;obtain ⟨f,hf,hp⟩:=hb.all e (ha.mem e he) (ha.loop e he);have h1:=ha.best e he f (hb.mem f hf) ⟨hp.1.symm,hp.2.symm⟩;have h2:=hb.best f hf e (ha.mem e he) hp;obtain ⟨hx,hm⟩:=zoN (hok f (hb.mem f hf)).m (hok e (ha.mem e he)).m h1 h2;have:e=f:=Ed.ext' hp.1 hp.2 hx.symm hm.symm;rw [this];exact hf
theorem RedB.eq (hok:∀ e∈l,EdOk e) (ha:RedB hd l a) (hb:RedB hd l b):a=b:=
 ziR ha.rise hb.rise fun e=>⟨ha.sub hok hb e,hb.sub hok ha e⟩
theorem RedB.congr (h:∀ e,e∈l↔e∈m) (ha:RedB hd l a):RedB hd m a:=
 ⟨ha.rise,fun e he=>(h e).1 (ha.mem e he),ha.loop,fun e he f hf=>ha.best e he f ((h f).2 hf),fun f hf=>ha.all f ((h f).2 hf)⟩
theorem RedB.again (ha:RedB hd l a):RedB hd a a:=
 ⟨ha.rise,fun e he=>he,ha.loop,fun e he f hf=>ha.best e he f (ha.mem f hf),fun f hf _=>⟨f,hf,rfl,rfl⟩⟩
theorem RedB.turn (ha:RedB hd l a) (hr:RiseB hd' b) (h:∀ e,e∈b↔e∈a):RedB hd' l b:=
 ⟨hr,fun e he=>ha.mem e ((h e).1 he),fun e he=>ha.loop e ((h e).1 he),fun e he=>ha.best e ((h e).1 he),fun f hf hl=>by
  obtain ⟨e,he,hp⟩:=ha.all f hf hl;exact ⟨e,(h e).2 he,hp⟩⟩
theorem RedB.trans (ha:RedB hd l a) (hb:RedB hd' a b):RedB hd' l b:=by
 refine ⟨hb.rise,fun e he=>ha.mem e (hb.mem e he),hb.loop,fun e he f hf hp=>?_,fun f hf hl=>?_⟩
 ·exact ha.best e (hb.mem e he) f hf hp
 ·obtain ⟨g,hg,hp⟩:=ha.all f hf hl;obtain ⟨e,he,hq⟩:=hb.all g hg (ha.loop g hg);exact ⟨e,he,hp.trans hq⟩
theorem zoP (hd:Bool):RedB hd [] []:=⟨List.Pairwise.nil,fun e he=>by simp at he,fun e he=>by simp at he,fun e he=>by simp at he,fun f hf=>by simp at hf⟩
theorem RedB.len_le (h:RedB hd l a):a.length≤l.length:=by
 have hn:a.Nodup:=h.rise.imp fun {x y} hxy e=>by
  rw [e,zde] at hxy;cases hxy
 have:∀ {a l:List Ed},a.Nodup→(∀ e∈a,e∈l)→a.length≤l.length:=by
  intro a;induction a with
  | nil=>intro l _ _;exact Nat.zero_le _
  | cons x a ih=>
   intro l hn hs;obtain ⟨h1,h2⟩:=List.nodup_cons.1 hn;obtain ⟨s,t,rfl⟩:=List.append_of_mem (hs x (List.mem_cons_self));have:=ih (l:=s++t) h2 (fun e he=>by
    have:=hs e (List.mem_cons_of_mem _ he);rcases List.mem_append.1 this with h3|h3
    ·exact List.mem_append_left _ h3
    ·rcases List.mem_cons.1 h3 with rfl|h3
     ·exact absurd he h1
     ·exact List.mem_append_right _ h3)
   simp only [List.length_append,List.length_cons] at this ⊢;omega
 exact this hn h.mem
end
def putE (hd:Bool) (x:Ed):List Ed→List Ed
 | []=>[x]
 | y::a=>if ahB hd y x=true then y::putE hd x a else x::y::a
theorem zeg (hd:Bool) (x e:Ed):∀ a,e∈putE hd x a↔e=x∨e∈a
 | []=>by simp [putE]
 | y::a=>by
  unfold putE;split
  ·rw [List.mem_cons,zeg hd x e a,List.mem_cons];constructor
   ·rintro (h|h|h)
    ·exact .inr (.inl h)
    ·exact .inl h
    ·exact .inr (.inr h)
   ·rintro (h|h|h)
    ·exact .inr (.inl h)
    ·exact .inl h
    ·exact .inr (.inr h)
  ·simp only [List.mem_cons]
theorem zeO {hd:Bool} {x:Ed}:∀ {a:List Ed},RiseB hd a→(∀ e∈a,¬ Pair e x)→RiseB hd (putE hd x a)
 | [],_,_=>List.pairwise_singleton _ _
 | y::a,h,hn=>by
  obtain ⟨h1,h2⟩:=List.pairwise_cons.1 h;unfold putE;split
  ·rename_i hy;refine List.pairwise_cons.2 ⟨fun e he=>?_,zeO h2 (fun e he=>hn e (List.mem_cons_of_mem _ he))⟩;rcases (zeg hd x e a).1 he with rfl|he
   ·exact hy
   ·exact h1 e he
  ·rename_i hy;have hxy:ahB hd x y=true:=by
    cases k:ahB hd x y with
    | true=>rfl
    | false=>exact absurd (zoO (Bool.eq_false_iff.2 hy) k) (hn y (List.mem_cons_self))
   refine List.pairwise_cons.2 ⟨fun e he=>?_,h⟩;rcases List.mem_cons.1 he with rfl|he
   ·exact hxy
   ·exact zeN hxy (h1 e he)
theorem zhf {hd:Bool} {x:Ed}:∀ {a:List Ed} {k:Nat},k≤a.length→(∀ i e,i<k→a[i]? = some e→ahB hd e x=true)→(∀ e,a[k]? = some e→ahB hd e x=false)→putE hd x a=a.take k++x::a.drop k
 | [],k,hk,_,_=>by
  obtain rfl:k=0:=by simpa using hk
  rfl
 | y::a,0,_,_,h=>by
  unfold putE;rw [if_neg (by rw [h y rfl];simp)];rfl
 | y::a,k+1,hk,h1,h2=>by
  unfold putE;rw [if_pos (h1 0 y (by omega) rfl),zhf (a:=a) (k:=k) (by simpa using hk) (fun i e hi he=>h1 (i+1) e (by omega) he) (fun e he=>h2 e he)];rfl
def sortE (hd:Bool) (r:List Ed):List Ed:=r.foldl (fun a x=>putE hd x a) []
theorem ziS {hd:Bool}:∀ (r a:List Ed),(∀ e,e∈r.foldl (fun a x=>putE hd x a) a↔e∈a∨e∈r)∧(RiseB hd a→(a++r).Pairwise (fun x y=>¬ Pair x y)→RiseB hd (r.foldl (fun a x=>putE hd x a) a))
 | [],a=>⟨fun e=>by simp,fun h _=>h⟩
 | x::r,a=>by
  obtain ⟨h1,h2⟩:=ziS (hd:=hd) r (putE hd x a);refine ⟨fun e=>?_,fun h hp=>?_⟩
  ·rw [List.foldl_cons,h1,zeg,List.mem_cons];constructor
   ·rintro ((h|h)|h)
    ·exact .inr (.inl h)
    ·exact .inl h
    ·exact .inr (.inr h)
   ·rintro (h|h|h)
    ·exact .inl (.inr h)
    ·exact .inl (.inl h)
    ·exact .inr h
  ·rw [List.foldl_cons];rw [List.pairwise_append] at hp;obtain ⟨p1,p2,p3⟩:=hp;obtain ⟨p4,p5⟩:=List.pairwise_cons.1 p2;refine h2 (zeO h (fun e he=>p3 e he x (List.mem_cons_self))) (List.pairwise_append.2 ⟨?_,p5,fun e he f hf=>?_⟩)
   ·have hx:=zeO h (fun e he=>p3 e he x (List.mem_cons_self));exact hx.imp fun {u v} huv hpp=>by rw [zef hpp] at huv;cases huv
   ·rcases (zeg hd x e a).1 he with rfl|he
    ·exact p4 f hf
    ·exact p3 e he f (List.mem_cons_of_mem _ hf)
theorem zkg {hd:Bool} {a:List Ed} (h:RiseB hd a):a.Pairwise fun x y=>¬ Pair x y:=h.imp fun {u v} huv hpp=>by rw [zef hpp] at huv;cases huv
theorem zmH {hd hd':Bool} {l r:List Ed} (h:RedB hd' l r):RedB hd l (sortE hd r):=by
 obtain ⟨h1,h2⟩:=ziS (hd:=hd) r [];refine h.turn (h2 List.Pairwise.nil (by simpa using zkg h.rise)) fun e=>?_
 unfold sortE;rw [h1];simp
def ziT (hd:Bool):List Ed→List Ed→List Ed
 | [],b=>b
 | x::a,[]=>x::a
 | x::a,y::b=>if ahB hd x y=true then x::ziT hd a (y::b) else if ahB hd y x=true then y::ziT hd (x::a) b else (bif betE y x then y else x)::ziT hd a b
 termination_by a b=>a.length+b.length
def LeE (hd:Bool) (a b:Ed):Prop:=ahB hd a b=true∨(Pair a b∧betE b a=false)
theorem zdj (hd:Bool) (a b:Ed):LeE hd a b↔if hd=true then a.h<b.h∨(a.h=b.h∧(a.t<b.t∨(a.t=b.t∧(a.x<b.x∨(a.x=b.x∧mid1 a.m≤mid1 b.m)))))
 else a.t<b.t∨(a.t=b.t∧(a.h<b.h∨(a.h=b.h∧(a.x<b.x∨(a.x=b.x∧mid1 a.m≤mid1 b.m))))):=by
 unfold LeE Pair betE;rw [zcz,Bool.eq_false_iff,ne_eq,zcd];cases hd
 ·simp only [Bool.false_eq_true,if_false];omega
 ·simp only [if_true];omega
theorem LeE.refl (hd:Bool) (a:Ed):LeE hd a a:=by
 rw [zdj]; cases hd<;>simp
theorem LeE.trans {hd:Bool} {a b c:Ed} (h:LeE hd a b) (k:LeE hd b c):LeE hd a c:=by
 rw [zdj] at *;cases hd
 ·simp only [Bool.false_eq_true,if_false] at *;omega
 ·simp only [if_true] at *;omega
theorem LeE.total (hd:Bool) (a b:Ed):LeE hd a b∨LeE hd b a:=by
 rw [zdj,zdj];cases hd
 ·simp only [Bool.false_eq_true,if_false];omega
 ·simp only [if_true];omega
theorem LeE.strict {hd:Bool} {a b:Ed} (h:LeE hd a b) (n:¬ Pair a b):ahB hd a b=true:=h.elim id fun k=>absurd k.1 n
theorem LeE.best {hd:Bool} {a b:Ed} (h:LeE hd a b) (p:Pair a b):betE b a=false:=by
 rcases h with h|h
 ·rw [zef p] at h;cases h
 ·exact h.2
def lastP (o:List Ed):Nat×Nat:=match o.getLast? with
 | none=>(0,0)
 | some y=>(y.t,y.h)
def stepU (o:List Ed) (x:Ed):List Ed:=if (x.t,x.h)=lastP o then o else o++[x]
def uniqE (s:List Ed):List Ed:=s.foldl stepU []
theorem zbj (s:List Ed) (x:Ed):uniqE (s++[x])=stepU (uniqE s) x:=by
 unfold uniqE;rw [List.foldl_append];rfl
theorem zgg (o:List Ed) (x:Ed):lastP (o++[x])=(x.t,x.h):=by
 unfold lastP;rw [List.getLast?_append];simp
theorem zgh (o:List Ed) (x:Ed):lastP (stepU o x)=(x.t,x.h):=by
 unfold stepU;split
 ·rename_i h;exact h.symm
 ·exact zgg o x
theorem zlm (s:List Ed) (x:Ed):lastP (uniqE (s++[x]))=(x.t,x.h):=by rw [zbj,zgh]
theorem zeP {o:List Ed} {x:Ed} (h:(x.t,x.h)≠lastP o):stepU o x=o++[x]:=if_neg h
theorem zhJ {o:List Ed} {x:Ed} (h:(x.t,x.h)=lastP o):stepU o x=o:=if_pos h
theorem zhK (o:List Ed) (x:Ed):(stepU o x).length≤o.length+1:=by
 unfold stepU;split
 ·omega
 ·simp
theorem zmI {o:List Ed} {x e:Ed} (h:e∈stepU o x):e∈o∨e=x:=by
 unfold stepU at h;split at h
 ·exact .inl h
 ·rw [List.mem_append,List.mem_singleton] at h;exact h
theorem zeQ {P:List Ed→Prop} (h0:P []) (h1:∀ s x,P s→P (s++[x])):∀ s,P s:=by
 have:∀ n s,s.length=n→P s:=by
  intro n;induction n with
  | zero=>intro s hs;rw [List.eq_nil_of_length_eq_zero hs];exact h0
  | succ n ih=>
   intro s hs;have hne:s≠[]:=fun e=>by rw [e] at hs;cases hs
   rw [←List.dropLast_concat_getLast hne];exact h1 _ _ (ih _ (by rw [List.length_dropLast];omega))
 exact fun s=>this _ s rfl
theorem zmJ (s:List Ed):(uniqE s).length≤s.length:=by
 refine zeQ (P:=fun s=>(uniqE s).length≤s.length) (Nat.le_refl _) (fun s x ih=>?_) s;rw [zbj,List.length_append];have:=zhK (uniqE s) x;simp only [List.length_singleton];omega
theorem zeR (s:List Ed):∀ e∈uniqE s,e∈s:=by
 refine zeQ (P:=fun s=>∀ e∈uniqE s,e∈s) (fun e he=>he) (fun s x ih e he=>?_) s;rw [zbj] at he;rcases zmI he with h|rfl
 ·exact List.mem_append_left _ (ih e h)
 ·simp
theorem zeS (hd:Bool) (s:List Ed):s.Pairwise (LeE hd)→(∀ e∈s,e.t≠e.h)→RedB hd s (uniqE s):=by
 refine zeQ (P:=fun s=>s.Pairwise (LeE hd)→(∀ e∈s,e.t≠e.h)→RedB hd s (uniqE s)) (fun _ _=>zoP hd) (fun s x ih hs hl=>?_) s;rw [List.pairwise_append] at hs;obtain ⟨h1,-,h3⟩:=hs;have ih:=ih h1 fun e he=>hl e (List.mem_append_left _ he)
 have hx:∀ e∈s,LeE hd e x:=fun e he=>h3 e he x (by simp)
 have hxl:=hl x (by simp);rw [zbj];generalize uniqE s=o at *;have hlast:o=[]∧lastP o=(0,0)∨∃ o' y,o=o'++[y]∧lastP o=(y.t,y.h):=by
  by_cases hne:o=[]
  ·exact .inl ⟨hne,by rw [hne];rfl⟩
  ·refine .inr ⟨o.dropLast,o.getLast hne,(List.dropLast_concat_getLast hne).symm,?_⟩
   conv=>lhs;rw [←List.dropLast_concat_getLast hne]
   exact zgg _ _
 by_cases hp:(x.t,x.h)=lastP o
 ·rw [zhJ hp];rcases hlast with ⟨-,h0⟩|⟨o',y,ho,hy⟩
  ·rw [h0,Prod.mk.injEq] at hp;omega
  ·rw [hy,Prod.mk.injEq] at hp;have hyo:y∈o:=by rw [ho];simp
   have hxy:Pair x y:=hp;refine ⟨ih.rise,fun e he=>List.mem_append_left _ (ih.mem e he),ih.loop,fun e he f hf hpf=>?_,fun f hf hfl=>?_⟩
   ·rcases List.mem_append.1 hf with hf|hf
    ·exact ih.best e he f hf hpf
    ·rw [List.mem_singleton] at hf;subst hf;exact (hx e (ih.mem e he)).best hpf.symm
   ·rcases List.mem_append.1 hf with hf|hf
    ·exact ih.all f hf hfl
    ·rw [List.mem_singleton] at hf;subst hf;exact ⟨y,hyo,hxy⟩
 ·rw [zeP hp];have hnp:∀ e∈o,¬ Pair e x:=by
   intro e he hpe;rcases hlast with ⟨h0,-⟩|⟨o',y,ho,hy⟩
   ·rw [h0] at he;simp at he
   ·have hyo:y∈o:=by rw [ho];simp
    have hnp:¬ Pair x y:=(fun hh=>hp (by rw [hy,hh.1,hh.2]));have hye:=(hx y (ih.mem y hyo)).strict fun hh=>hnp hh.symm
    have hr:=ih.rise;unfold RiseB at hr;rw [ho,List.pairwise_append] at hr;rw [ho] at he;rcases List.mem_append.1 he with he|he
    ·have:=zeN (hr.2.2 e he y (by simp)) hye;rw [zef hpe] at this;cases this
    ·rw [List.mem_singleton] at he;subst he;exact hnp hpe.symm
  refine ⟨?_,fun e he=>?_,fun e he=>?_,fun e he f hf hpf=>?_,fun f hf hfl=>?_⟩
  ·unfold RiseB;rw [List.pairwise_append];refine ⟨ih.rise,List.pairwise_singleton _ _,fun e he f hf=>?_⟩;rw [List.mem_singleton] at hf;subst hf;exact (hx e (ih.mem e he)).strict (hnp e he)
  ·rcases List.mem_append.1 he with he|he
   ·exact List.mem_append_left _ (ih.mem e he)
   ·exact List.mem_append_right _ he
  ·rcases List.mem_append.1 he with he|he
   ·exact ih.loop e he
   ·rw [List.mem_singleton] at he;subst he;exact hxl
  ·rcases List.mem_append.1 he with he2|he
   ·rcases List.mem_append.1 hf with hf|hf
    ·exact ih.best e he2 f hf hpf
    ·rw [List.mem_singleton] at hf;subst hf;exact absurd hpf.symm (hnp e he2)
   ·rw [List.mem_singleton] at he;subst he;rcases List.mem_append.1 hf with hf|hf
    ·obtain ⟨g,hg,hpg⟩:=ih.all f hf (by rw [hpf.1,hpf.2];exact hxl);exact absurd (hpg.symm.trans hpf) (hnp g hg)
    ·rw [List.mem_singleton] at hf;subst hf;unfold betE;exact zdi _ _
  ·rcases List.mem_append.1 hf with hf|hf
   ·obtain ⟨g,hg,hpg⟩:=ih.all f hf hfl;exact ⟨g,List.mem_append_left _ hg,hpg⟩
   ·rw [List.mem_singleton] at hf;subst hf;exact ⟨_,List.mem_append_right _ (List.mem_singleton_self _),rfl,rfl⟩
structure CvrE (l a:List Ed):Prop where
 mem:∀ e∈a,e∈l
 all:∀ f∈l,f.t≠f.h→∃ e∈a,Pair f e∧betE f e=false
section
variable {hd:Bool} {l m a b c:List Ed}
theorem RedB.cvr (h:RedB hd l a):CvrE l a:=⟨h.mem,fun f hf hl=>by
 obtain ⟨e,he,hp⟩:=h.all f hf hl;exact ⟨e,he,hp,h.best e he f hf hp⟩⟩
theorem zkT {a b c:Ed} (h:betE a b=false) (k:betE b c=false):betE a c=false:=by
 unfold betE at *;rw [Bool.eq_false_iff,ne_eq,zcd] at *;omega
theorem CvrE.red (h:CvrE l a) (k:RedB hd a c):RedB hd l c:=by
 refine ⟨k.rise,fun e he=>h.mem e (k.mem e he),k.loop,fun e he f hf hp=>?_,fun f hf hl=>?_⟩
 ·obtain ⟨g,hg,hp2,hb⟩:=h.all f hf (by rw [hp.1,hp.2];exact k.loop e he);exact zkT hb (k.best e he g hg (hp2.symm.trans hp))
 ·obtain ⟨g,hg,hp,-⟩:=h.all f hf hl;obtain ⟨e,he,hp2⟩:=k.all g hg (by rw [←hp.1,←hp.2];exact hl);exact ⟨e,he,hp.trans hp2⟩
theorem CvrE.join (h:CvrE l a) (k:CvrE m b):CvrE (l++m) (a++b):=by
 refine ⟨fun e he=>?_,fun f hf hl=>?_⟩
 ·rcases List.mem_append.1 he with he|he
  ·exact List.mem_append_left _ (h.mem e he)
  ·exact List.mem_append_right _ (k.mem e he)
 ·rcases List.mem_append.1 hf with hf|hf
  ·obtain ⟨e,he,hp⟩:=h.all f hf hl;exact ⟨e,List.mem_append_left _ he,hp⟩
  ·obtain ⟨e,he,hp⟩:=k.all f hf hl;exact ⟨e,List.mem_append_right _ he,hp⟩
theorem CvrE.trans (h:CvrE l a) (k:CvrE a c):CvrE l c:=⟨fun e he=>h.mem e (k.mem e he),fun f hf hl=>by
 obtain ⟨g,hg,hp,hb⟩:=h.all f hf hl;obtain ⟨e,he,hp2,hb2⟩:=k.all g hg (by rw [←hp.1,←hp.2];exact hl);exact ⟨e,he,hp.trans hp2,zkT hb hb2⟩⟩
theorem CvrE.congr (h:CvrE l a) (k:∀ e,e∈a↔e∈b):CvrE l b:=⟨fun e he=>h.mem e ((k e).2 he),fun f hf hl=>by
 obtain ⟨e,he,hp⟩:=h.all f hf hl;exact ⟨e,(k e).1 he,hp⟩⟩
theorem CvrE.nil:CvrE [] []:=⟨fun e he=>he,fun f hf=>by simp at hf⟩
theorem CvrE.self (l:List Ed):CvrE l l:=⟨fun e he=>he,fun f hf _=>⟨f,hf,⟨rfl,rfl⟩,by unfold betE;exact zdi _ _⟩⟩
theorem CvrE.noloop (l:List Ed):CvrE l (l.filter fun e=>decide (e.t≠e.h)):=⟨fun e he=>(List.mem_filter.1 he).1,fun f hf hl=>⟨f,List.mem_filter.2 ⟨hf,by simpa using hl⟩,⟨rfl,rfl⟩,by unfold betE;exact zdi _ _⟩⟩
theorem RedB.le (h:RedB hd l a):a.Pairwise (LeE hd):=h.rise.imp fun {x y} k=>.inl k
end
structure Mrg (hd:Bool) (M:List Ed) (ls:List (List Ed)) (s:List Ed):Prop where
 sorted:s.Pairwise (LeE hd)
 each:∀ r∈ls,r.Pairwise (LeE hd)
 ahead:∀ x∈s,∀ r∈ls,∀ y∈r,LeE hd x y
 mem:∀ x,(x∈s∨∃ r∈ls,x∈r)↔x∈M
section
variable {hd:Bool} {M s:List Ed} {ls ls':List (List Ed)}
theorem Mrg.first (h:∀ r∈ls,r.Pairwise (LeE hd)):Mrg hd ls.flatten ls []:=
 ⟨List.Pairwise.nil,h,fun x hx=>by simp at hx,fun x=>by simp [List.mem_flatten]⟩
theorem Mrg.done (h:Mrg hd M [] s) (hl:∀ e∈M,e.t≠e.h):RedB hd M (uniqE s):=by
 have hm:∀ x,x∈s↔x∈M:=fun x=>by rw [←h.mem x];simp
 exact (zeS hd s h.sorted fun e he=>hl e ((hm e).1 he)).congr hm
theorem Mrg.step {i:Nat} {x:Ed} {r:List Ed} (h:Mrg hd M ls s) (hi:ls[i]? = some (x::r)) (hx:∀ y r',(y::r')∈ls→LeE hd x y) (hls:∀ q,q∈ls'→q∈ls∨q=r) (hls2:∀ q,(∃ j,j≠i∧ls[j]? = some q∧q≠[])→q∈ls') (hr:r≠[]→r∈ls'):Mrg hd M ls' (s++[x]):=by
 have hin:(x::r)∈ls:=List.mem_of_getElem? hi;have her:=List.pairwise_cons.1 (h.each _ hin);have hle:∀ q∈ls',∀ y∈q,LeE hd x y:=by
  intro q hq y hy;rcases hls q hq with hq|rfl
  ·cases q with
   | nil=>simp at hy
   | cons z q=>
    have h1:=hx z q hq;rcases List.mem_cons.1 hy with rfl|hy
    ·exact h1
    ·exact h1.trans ((List.pairwise_cons.1 (h.each _ hq)).1 y hy)
  ·exact her.1 y hy
 refine ⟨?_,fun q hq=>?_,fun y hy q hq z hz=>?_,fun y=>?_⟩
 ·rw [List.pairwise_append];refine ⟨h.sorted,List.pairwise_singleton _ _,fun y hy z hz=>?_⟩;rw [List.mem_singleton] at hz;subst hz;exact h.ahead y hy _ hin z (by simp)
 ·rcases hls q hq with hq|rfl
  ·exact h.each q hq
  ·exact her.2
 ·rcases List.mem_append.1 hy with hy|hy
  ·rcases hls q hq with hq|rfl
   ·exact h.ahead y hy q hq z hz
   ·exact h.ahead y hy _ hin z (List.mem_cons_of_mem _ hz)
  ·rw [List.mem_singleton] at hy;subst hy;exact hle q hq z hz
 ·rw [←h.mem y,List.mem_append,List.mem_singleton];constructor
  ·rintro ((h1|rfl)|⟨q,hq,hy⟩)
   ·exact .inl h1
   ·exact .inr ⟨_,hin,by simp⟩
   ·rcases hls q hq with hq|rfl
    ·exact .inr ⟨q,hq,hy⟩
    ·exact .inr ⟨_,hin,List.mem_cons_of_mem _ hy⟩
  ·rintro (h1|⟨q,hq,hy⟩)
   ·exact .inl (.inl h1)
   ·obtain ⟨j,hj⟩:=List.mem_iff_getElem?.1 hq;by_cases e:j=i
    ·subst e;rw [hi] at hj;obtain rfl:=Option.some.inj hj;rcases List.mem_cons.1 hy with rfl|hy
     ·exact .inl (.inr rfl)
     ·exact .inr ⟨r,hr (fun e=>by rw [e] at hy;simp at hy),hy⟩
    ·exact .inr ⟨q,hls2 q ⟨j,e,hj,fun e=>by rw [e] at hy;simp at hy⟩,hy⟩
end
end Go.Proofs.YtjpldnjldindkaaGreatDoor
