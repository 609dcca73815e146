/- A pool as a view of files over a disk that may be full: what is answered as ever, or ErrFull, and the view stays. -/
import Derived.Test.YtjpldnjldindkaaGreatDoorQStrE
set_option linter.all false
set_option maxRecDepth 100000
namespace Go.Proofs.YtjpldnjldindkaaGreatDoor
open Go.RowKit
def Still (p q:Pst) (nm:Option (List UInt8)):Prop:=∀ x,nm≠some x→zaa p.dl x=[]→zaa q.dl x=[]∧getF q.d.l x=getF p.d.l x
theorem Still.refl (p:Pst) (nm:Option (List UInt8)):Still p p nm:=fun x _ h=>⟨h,rfl⟩
theorem Still.trans {p q r:Pst} {nm:Option (List UInt8)} (h:Still p q nm) (k:Still q r nm):Still p r nm:=fun x hn hx=>by
 obtain ⟨h1,h2⟩:=h x hn hx;obtain ⟨k1,k2⟩:=k x hn h1;exact ⟨k1,k2.trans h2⟩
theorem Still.weak {p q:Pst} (h:Still p q none) (nm:Option (List UInt8)):Still p q nm:=fun x _ hx=>h x (by simp) hx
theorem Still.same {p q:Pst} (h1:q.dl=p.dl) (h2:q.d=p.d) (nm:Option (List UInt8)):Still p q nm:=fun x _ h=>⟨by rw [h1];exact h,by rw [h2]⟩
section
variable {s:Ds} {nm:List UInt8} {f:Fl}
theorem znK (h:s.off=false) (ha:s.armed=0) (hn:zaf nm=true) (hg:getF s.l nm=some f) {m k:Nat} (hm:f.now.length=256*m) (hk:k≤m) (hm2:m≤1000) {x:List UInt8} (hx:x.length≤240) :
 zaG s nm (k:Int) x=({s with l:=setF s.l (zaU f (256*k) (pageB (tagN nm) k x))},0)∨zaG s nm (k:Int) x=(s,5):=by
 have h0:¬ ((k:Int)<0):=by omega
 have e1:((k:Int)*256).toNat=256*k:=by omega
 have hl:=zaF (tagN nm) k hx;unfold zaG;rw [if_neg h0,if_neg (by omega),zd9 h hn hg,if_neg (by simp),if_neg (by simp only;omega)];unfold zaN;rw [zcJ ha,h,hn,hg,if_neg (by simp),if_neg (by rintro (h5|h5);cases h5;omega)];simp only [Int.toNat_natCast];rw [e1,hl,if_neg (by omega),if_neg (by omega)];split
 ·exact .inr rfl
 ·left;simp [h]
end
section
variable {Q:Nat} {PN:List UInt8→Nat→Nat} {p:Pst} {V:Vw} {a b:Nat}
theorem zrk (h:Heal Q PN p V a b) (hb:b≤1000) {i:Nat} {f:Frm} (hf:p.fr[i]? = some (some f)) (hk:f.k≤(zas p.d f.name).1) :
 ((zaG p.d f.name (f.k:Int) f.b).2=0∧Heal Q PN {p with d:=(zaG p.d f.name (f.k:Int) f.b).1,dl:=zaQ p.dl f.name f.k} V a b∧
 (zas (zaG p.d f.name (f.k:Int) f.b).1 f.name).1=max (zas p.d f.name).1 (f.k+1)∧
 ∀ nm',nm'≠f.name→getF (zaG p.d f.name (f.k:Int) f.b).1.l nm'=getF p.d.l nm')∨zaG p.d f.name (f.k:Int) f.b=(p.d,5):=by
 obtain ⟨ps,hV,hp⟩:=h.frm i f hf;obtain ⟨g,hg,hR⟩:=h.has _ _ hV;obtain ⟨hm,hms,hpg⟩:=zcX hR;have hn:=h.name _ _ hV;have hsh:=h.short _ _ hV;have hkl:f.k<ps.length:=(zI9.1 hp).1;have hx:f.b.length≤240:=hsh.2 _ (List.mem_of_getElem? hp);rw [zby h.off hn hg] at hk ⊢;simp only at hk ⊢;rcases znK h.off h.armed hn hg hm hk (by omega) hx with hw|hw
 rotate_left
 ·exact .inr hw
 left;rw [hw];have hl:=zaF (tagN f.name) f.k hx;have hgn:=zbq hg;generalize hf':zaU g (256*f.k) (pageB (tagN f.name) f.k f.b)=g' at *;have hlen:g'.now.length=max g.now.length (256*f.k+256):=by rw [←hf'];exact zgv (by omega) hl
 have hpage:∀ i,za1 g' i=if i=f.k then pageB (tagN f.name) f.k f.b else za1 g i:=by rw [←hf'];exact zfC (by omega) hl
 have hgn':g'.name=f.name:=by rw [←hf'];exact hgn
 have hdiv:g'.now.length/256=max (g.now.length/256) (f.k+1):=by omega
 refine ⟨rfl,⟨h.off,h.armed,h.q,by rw [show (setF p.d.l g').length=_ from zdb _ _];exact h.num,fun x hx=>?_,h.name,h.short,fun nm hnm=>?_,fun nm qs hq=>?_,h.pins,h.frm,?_⟩,?_,fun nm' hne=>za6 _ _ _ (by rw [hgn'];exact fun e=>hne e.symm)⟩
 ·rcases zda hx with rfl|hx
  ·have:=h.big _ (zaR hg);omega
  ·exact h.big x hx
 ·show getF (setF p.d.l g') nm=none;rw [za6 _ _ _ (by rw [hgn'];intro e;rw [←e,hV] at hnm;cases hnm)];exact h.gone nm hnm
 ·by_cases e:nm=f.name
  ·subst e;obtain rfl:=Option.some.inj (hV.symm.trans hq);refine ⟨g',zba hg hgn',g'.now.length/256,by omega,by omega,fun k x hx hd=>?_⟩;rw [zaT h.ok.dl] at hd;rw [hpage,hdiv];by_cases ek:k=f.k
   ·subst ek;obtain rfl:=Option.some.inj (hp.symm.trans hx);exact ⟨by omega,by rw [if_pos rfl]⟩
   ·obtain ⟨h1,h2⟩:=hpg k x hx (fun h3=>hd ⟨h3,fun e=>ek e.2⟩);exact ⟨by omega,by rw [if_neg ek];exact h2⟩
  ·obtain ⟨f2,h1,m,h2,h3,h4⟩:=h.has nm qs hq;refine ⟨f2,?_,m,h2,h3,fun k x hx hd=>h4 k x hx (fun h5=>hd ((zaT h.ok.dl _ _ _ _).2 ⟨h5,fun e2=>e e2.1⟩))⟩;rw [←h1];exact za6 _ _ _ (by rw [hgn'];exact fun e2=>e e2.symm)
 ·exact h.ok.dls (h.ok.dl.clean _ _) (fun nm x hx=>((zaT h.ok.dl _ _ _ _).1 hx).1)
 ·rw [zby (s:={p.d with l:=setF p.d.l g'}) h.off hn (zba hg hgn')];exact hdiv
end
def WbF (Q:Nat) (PN:List UInt8→Nat→Nat) (V:Vw) (a b:Nat) (nm:List UInt8) (ks:List Nat) (p:Pst) (r:Pst×Nat):Prop:=
 Heal Q PN r.1 V a b∧(∀ nm' x,x∈zaa r.1.dl nm'→x∈zaa p.dl nm')∧(∀ nm',nm'≠nm→getF r.1.d.l nm'=getF p.d.l nm')∧r.1.fr=p.fr∧
  ((r.2=0∧∀ x∈ks,x∉zaa r.1.dl nm)∨r.2=5)
theorem zht {Q:Nat} {PN:List UInt8→Nat→Nat} {V:Vw} {a b:Nat} (hb:b≤1000) {nm:List UInt8}:∀ (ks:List Nat) {p:Pst},Heal Q PN p V a b→ks.Pairwise (· < ·)→(∀ k∈ks,k∈zaa p.dl nm)→
 (∀ k∈ks,∀ j,j<k→j∈zaa p.dl nm→(zas p.d nm).1≤j→j∈ks)→WbF Q PN V a b nm ks p (wbS p (ks.filterMap (frmOf p.fr nm)))
 | [],p,h,_,_,_=>⟨h,fun _ _ h=>h,fun _ _=>rfl,rfl, .inl ⟨rfl,fun x hx=>by simp at hx⟩⟩
 | k::ks,p,h,hr,hd,hc=>by
  have hkd:=hd k (List.mem_cons_self);obtain ⟨f,hf⟩:=zeZ (h.ok.held nm k hkd);obtain ⟨i,-,hi,hn,hk⟩:=zek hf;subst hn;subst hk;obtain ⟨hr1,hr2⟩:=List.pairwise_cons.1 hr;obtain ⟨ps,hV,hp⟩:=h.frm i f hi;obtain ⟨g,hg,hR⟩:=h.has _ _ hV;obtain ⟨hm,hms,hpg⟩:=zcX hR;have hn:=h.name _ _ hV;have hpp:(zas p.d f.name).1=g.now.length/256:=by rw [zby h.off hn hg]
  have hkl:f.k<ps.length:=(zI9.1 hp).1;have hle:f.k≤(zas p.d f.name).1:=by
   rw [hpp];by_cases h1:f.k≤g.now.length/256
   ·exact h1
   ·exfalso;have hlt:g.now.length/256<ps.length:=(by omega);have h2:g.now.length/256∈zaa p.dl f.name:=by
     refine (Classical.byContradiction fun h3=>?_);have:=(hpg _ _ (zG9 hlt) h3).1;omega
    have h3:=hc f.k (List.mem_cons_self) _ (by omega) h2 (by omega);rcases List.mem_cons.1 h3 with h4|h4
    ·omega
    ·have:=hr1 _ h4;omega
  have hfm:(f.k::ks).filterMap (frmOf p.fr f.name)=f::ks.filterMap (frmOf p.fr f.name):=List.filterMap_cons_some hf;rw [hfm,wbS];rcases zrk h hb hi hle with ⟨w1,w2,w3,w4⟩|hw
  ·rw [if_pos w1];obtain ⟨q1,q2,q3,q4,q5⟩:=zht hb ks w2 hr2 (fun j hj=>(zaT h.ok.dl _ _ _ _).2 ⟨hd j (List.mem_cons_of_mem _ hj),fun e=>by have:=hr1 j hj;omega⟩) (fun j hj x hx hxd hxm=>by
    rw [w3] at hxm;obtain ⟨h5,h6⟩:=(zaT h.ok.dl _ _ _ _).1 hxd;rcases List.mem_cons.1 (hc j (List.mem_cons_of_mem _ hj) x hx h5 (by omega)) with h7|h7
    ·exact absurd ⟨rfl,h7⟩ h6
    ·exact h7)
   refine ⟨q1,fun nm' x hx=>((zaT h.ok.dl _ _ _ _).1 (q2 nm' x hx)).1,fun nm' hne=>(q3 nm' hne).trans (w4 nm' hne),q4,?_⟩;rcases q5 with ⟨q5,q6⟩|q5
   ·refine .inl ⟨q5,fun x hx hxd=>?_⟩;rcases List.mem_cons.1 hx with rfl|hx
    ·exact ((zaT h.ok.dl _ _ _ _).1 (q2 _ _ hxd)).2 ⟨rfl,rfl⟩
    ·exact q6 x hx hxd
   ·exact .inr q5
  ·rw [hw,if_neg (by simp)];exact ⟨h,fun _ _ h=>h,fun _ _=>rfl,rfl, .inr rfl⟩
section
variable {Q:Nat} {PN:List UInt8→Nat→Nat} {p:Pst} {V:Vw} {a b:Nat}
theorem zie (h:Heal Q PN p V a b) (hb:b≤1000) (hfree:Free p.fr):((takeS p).2.2=0∨(takeS p).2.2=5)∧Heal Q PN (takeS p).1 V a b∧Still p (takeS p).1 none:=by
 have T:=zbM h.ok
 revert T
 unfold takeS;split
 ·intro _;exact ⟨.inl rfl,h,Still.refl _ _⟩
 ·rename_i hfull;obtain ⟨h1,h2,h3⟩:=zca (2*p.fr.length) p.fr p.hand;have hS:=h.ok.seek (2*p.fr.length);have hl:=zem (2*p.fr.length) p.fr p.hand;have hn:=h.ok.n;have hfd:(seekS (2*p.fr.length) p.fr p.hand).2.2=true:=by
   rcases hfree with h5|⟨t,f,ht,hp⟩
   ·exact absurd h5 hfull
   ·have:=zk6 (zI9.1 ht).1 h.ok.hand;exact zgL _ _ _ t f h.ok.hand (fun i hi=>zhs hfull hi) ht hp (by omega)
  generalize seekS (2*p.fr.length) p.fr p.hand=r at *;rw [if_neg (by rw [hfd];simp)];obtain ⟨f,e,hp,hu⟩:=h3 hfd;rw [e];simp only;have H1:Heal Q PN {p with fr:=r.1,hand:=r.2.1} V a b:=h.frames hS rfl rfl (fun i f hi=>by
   obtain ⟨u,hu⟩:=zgB h1 hi;exact ⟨i,_,hu,rfl,rfl,rfl,rfl⟩)
  have key:((saveS {p with fr:=r.1,hand:=r.2.1} f).2=0∨(saveS {p with fr:=r.1,hand:=r.2.1} f).2=5)∧Heal Q PN (saveS {p with fr:=r.1,hand:=r.2.1} f).1 V a b∧Still p (saveS {p with fr:=r.1,hand:=r.2.1} f).1 none:=by
   unfold saveS;split
   ·rename_i hd;obtain ⟨ps,hV,hpp⟩:=H1.frm _ f e;obtain ⟨g,hg,hR⟩:=H1.has _ _ hV;have hpg:=zby H1.off (H1.name _ _ hV) hg;rw [if_neg (by rw [hpg];simp)];have hri:=H1.ok.dl.rise_of f.name;have hw:=zht hb (nm:=f.name) (saved (zaa p.dl f.name) (zas p.d f.name).1 f.k) H1 ?_ ?_ ?_
    ·obtain ⟨w1,w2,w3,-,w4⟩:=hw;refine ⟨w4.imp (fun h=>h.1) id,w1,fun x _ hx=>⟨?_,?_⟩⟩
     ·rw [List.eq_nil_iff_forall_not_mem];intro y hy;have:=w2 x y hy;rw [show zaa ({p with fr:=r.1,hand:=r.2.1}:Pst).dl x=zaa p.dl x from rfl,hx] at this;simp at this
     ·exact w3 x (fun e2=>by
       rw [←e2] at hd;have hd2:f.k∈zaa p.dl x:=hd;rw [hx] at hd2;simp at hd2)
    ·unfold saved;rw [List.pairwise_append];refine ⟨(hri.sublist (List.take_sublist _ _)).sublist (List.drop_sublist _ _),List.pairwise_singleton _ _,fun x hx y hy=>?_⟩;rw [List.mem_singleton] at hy;subst hy;exact zbT hri (List.mem_of_mem_drop hx)
    ·intro k hk;unfold saved at hk;rcases List.mem_append.1 hk with hk|hk
     ·exact List.mem_of_mem_take (List.mem_of_mem_drop hk)
     ·rw [List.mem_singleton] at hk;subst hk;exact hd
    ·intro k hk j hj hjd hjm;have hkf:k≤f.k:=by
      unfold saved at hk;rcases List.mem_append.1 hk with hk|hk
      ·exact Nat.le_of_lt (zbT hri (List.mem_of_mem_drop hk))
      ·rw [List.mem_singleton] at hk;omega
     unfold saved;refine List.mem_append.2 (.inl ?_);have ht:(zaa p.dl f.name |>.take (below (zaa p.dl f.name) f.k)).Pairwise (· < ·):=hri.sublist (List.take_sublist _ _);have hjt:j∈(zaa p.dl f.name).take (below (zaa p.dl f.name) f.k):=by
      obtain ⟨x,hx⟩:=List.mem_iff_getElem?.1 (show j∈zaa p.dl f.name from hjd);have:=(za9 hri f.k hx).2 (by omega);exact List.mem_iff_getElem?.2 ⟨x,by rw [List.getElem?_take,if_pos this];exact hx⟩
     obtain ⟨x,hx⟩:=List.mem_iff_getElem?.1 hjt;have hb2:¬ x<below ((zaa p.dl f.name).take (below (zaa p.dl f.name) f.k)) (zas p.d f.name).1:=by
      rw [za9 ht _ hx];have:(zas p.d f.name).1≤j:=hjm;omega
     exact List.mem_iff_getElem?.2 ⟨x-below ((zaa p.dl f.name).take (below (zaa p.dl f.name) f.k)) (zas p.d f.name).1,by rw [List.getElem?_drop,show below ((zaa p.dl f.name).take (below (zaa p.dl f.name) f.k)) (zas p.d f.name).1+(x-below ((zaa p.dl f.name).take (below (zaa p.dl f.name) f.k)) (zas p.d f.name).1)=x by omega];exact hx⟩
   ·exact ⟨.inl rfl,H1,Still.same rfl rfl none⟩
  obtain ⟨e1,-,-,-⟩:=zcf {p with fr:=r.1,hand:=r.2.1} f;generalize saveS {p with fr:=r.1,hand:=r.2.1} f=q at *;obtain ⟨k1,k2,k3⟩:=key;split
  ·rename_i h5;intro _;exact ⟨.inr (by exact k1.resolve_left h5),k2,k3⟩
  ·rename_i h5;intro T;refine ⟨.inl rfl,k2.frames T.ok rfl rfl (fun i f hi=>?_),fun x hn hx=>k3 x hn hx⟩;have hi:(q.1.fr.set r.2.1 none)[i]? = some (some f):=hi;rw [List.getElem?_set] at hi;split at hi
   ·split at hi<;>cases hi
   ·exact ⟨i,f,hi,rfl,rfl,rfl,rfl⟩
theorem znL (h:Heal Q PN p V a b) (hb:b≤1000) (hfree:Free p.fr) {nm:List UInt8} {k:Nat} (hk:some (nm,k)∉zac p.fr) (hPN:PN nm k=0) {ps:List (List UInt8)} (hV:V nm=some ps) {t:List UInt8} (ht:ps[k]? = some t) :
 ((holdS p nm k t).2.2=0∨(holdS p nm k t).2.2=5)∧Heal Q PN (holdS p nm k t).1 V a b∧Still p (holdS p nm k t).1 none:=by
 obtain ⟨S,-⟩:=za2 h.ok hk (h.name24 hV) t;obtain ⟨t1,t2,t3⟩:=zie h hb hfree
 revert S
 unfold holdS;generalize takeS p=q at *;simp only;split
 ·rename_i h5;intro _;exact ⟨.inr (t1.resolve_left h5),t2,t3⟩
 ·rename_i h5;intro S;refine ⟨.inl rfl,⟨t2.off,t2.armed,t2.q,t2.num,t2.big,t2.name,t2.short,t2.gone,t2.has,fun i f hi=>?_,fun i f hi=>?_,S.ok⟩,fun x hn hx=>t3 x hn hx⟩
  ·have hi:(q.1.fr.set q.2.1 (some ⟨nm,k,t,0,false⟩))[i]? = some (some f):=hi;rw [List.getElem?_set] at hi;split at hi
   ·split at hi
    ·cases hi;exact hPN.symm
    ·cases hi
   ·exact t2.pins i f hi
  ·have hi:(q.1.fr.set q.2.1 (some ⟨nm,k,t,0,false⟩))[i]? = some (some f):=hi;rw [List.getElem?_set] at hi;split at hi
   ·split at hi
    ·cases hi;exact ⟨ps,hV,ht⟩
    ·cases hi
   ·exact t2.frm i f hi
theorem zmg (h:Heal Q PN p V a b) (hb:b≤1000) {nm:List UInt8} {k:Nat} (hnk:some (nm,k)∉zac p.fr→PN nm k=0∧Free p.fr) {ps:List (List UInt8)} (hV:V nm=some ps) {t:List UInt8} (ht:ps[k]? = some t) :
 (((zav p nm k).2.2=0∧textF (zav p nm k).1.fr (zav p nm k).2.1=t)∨(zav p nm k).2.2=5)∧Heal Q PN (zav p nm k).1 V a b∧Still p (zav p nm k).1 none:=by
 unfold zav;cases e:p.fr.findIdx? (isAt nm k) with
 | some i=>
  obtain ⟨f,hf,h1,h2⟩:=zaX e;obtain ⟨qs,hq,hx⟩:=h.frm i f hf;rw [h1] at hq;obtain rfl:=Option.some.inj (hV.symm.trans hq);rw [h2] at hx;obtain rfl:=Option.some.inj (ht.symm.trans hx);exact ⟨.inl ⟨rfl,zev hf useF⟩,h.use i,Still.same rfl rfl none⟩
 | none=>
  have hk:=idx_none.1 e;simp only;rw [zgM h hk hV ht,if_neg (by simp)];obtain ⟨-,hT⟩:=za2 h.ok hk (h.name24 hV) t;obtain ⟨q1,q2,q3⟩:=znL h hb (hnk hk).2 hk (hnk hk).1 hV ht;simp only;generalize holdS p nm k t=q at *;split
  ·rename_i h5;exact ⟨.inr (q1.resolve_left h5),q2,q3⟩
  ·rename_i h5;exact ⟨.inl ⟨rfl,zev (hT (by omega)) useF⟩,q2.use _,fun x hn hx=>q3 x hn hx⟩
theorem zpY (h:Heal Q PN p V a b) (hb:b≤1000) (nm:List UInt8) (k:Int) (hnk:some (nm,k.toNat)∉zac p.fr→PN nm k.toNat=0∧Free p.fr) :
 (((getP p nm k).2.2=(readV V nm k).2∧((getP p nm k).2.2=0→textF (getP p nm k).1.fr (getP p nm k).2.1=(readV V nm k).1))∨(getP p nm k).2.2=5)∧Heal Q PN (getP p nm k).1 V a b∧Still p (getP p nm k).1 none:=by
 unfold getP readV;cases e:V nm with
 | none=>
  rw [zbW h e];simp only;rw [if_pos (zbF nm)];exact ⟨.inl ⟨rfl,fun h0=>absurd h0 (zbF nm)⟩,h,Still.refl _ _⟩
 | some ps=>
  rw [zbt h e];simp only;rw [if_neg (by simp)];by_cases h0:k<0
  ·rw [if_pos h0,if_pos h0];exact ⟨.inl ⟨rfl,fun h0=>by cases h0⟩,h,Still.refl _ _⟩
  ·rw [if_neg h0,if_neg h0];cases e2:ps[k.toNat]? with
   | none=>
    rw [List.getElem?_eq_none_iff] at e2;rw [if_pos e2];exact ⟨.inl ⟨rfl,fun h0=>by cases h0⟩,h,Still.refl _ _⟩
   | some t=>
    have:=(zI9.1 e2).1;rw [if_neg (by omega)];obtain ⟨b1,b2,b3⟩:=zmg h hb hnk e e2;exact ⟨b1.imp (fun h=>⟨h.1,fun _=>h.2⟩) id,b2,b3⟩
theorem znM (h:Heal Q PN p V a b) (hb:b≤1000) (nm:List UInt8) (k:Int) (hnk:some (nm,k.toNat)∉zac p.fr→PN nm k.toNat=0∧Free p.fr) :
 ((zai p nm k).2=readV V nm k∨(zai p nm k).2=([],5))∧Heal Q PN (zai p nm k).1 V a b∧Still p (zai p nm k).1 none:=by
 obtain ⟨g1,g2,g3⟩:=zpY h hb nm k hnk;unfold zai;generalize getP p nm k=q at *;simp only;split
 ·rename_i h0;refine ⟨?_,g2,g3⟩;rcases g1 with ⟨g1,-⟩|g1
  ·left;have:=zia (V:=V) (nm:=nm) (k:=k) (by rw [←g1];exact h0);exact Prod.ext this.symm g1
  ·right;simp only [g1]
 ·rename_i h0;have h0:q.2.2=0:=(by omega);rcases g1 with ⟨g1,g4⟩|g1
  ·exact ⟨.inl (Prod.ext (g4 h0) (by rw [←g1,h0])),g2,g3⟩
  ·omega
theorem zpZ (h:Heal Q PN p V a b) (hb:b≤1000) (nm:List UInt8) (k:Int) (t:List UInt8) (hnk:some (nm,k.toNat)∉zac p.fr→PN nm k.toNat=0∧Free p.fr) :
 (((zah p nm k t).2=(zb2 V nm k t).2∧Heal Q PN (zah p nm k t).1 (zb2 V nm k t).1 a (b+1))∨((zah p nm k t).2=5∧Heal Q PN (zah p nm k t).1 V a (b+1)))∧Still p (zah p nm k t).1 (some nm):=by
 have hm:=h.more (Nat.le_refl a) (Nat.le_succ b);unfold zah zb2;split
 ·exact ⟨.inl ⟨rfl,hm⟩,Still.refl _ _⟩
 ·rename_i ht;cases e:V nm with
  | none=>
   rw [zbW h e];simp only;rw [if_pos (zbF nm)];exact ⟨.inl ⟨rfl,hm⟩,Still.refl _ _⟩
  | some ps=>
   rw [zbt h e];simp only;rw [if_neg (by simp)];split
   ·exact ⟨.inl ⟨rfl,hm⟩,Still.refl _ _⟩
   ·rename_i hk;have hk:k.toNat≤ps.length:=(by omega);have hso:∀ (dl:List (List UInt8×List Nat)) (x:List UInt8),(some nm:Option (List UInt8))≠some x→zaa dl x=[]→zaa (soilD dl nm k.toNat) x=[]:=by
     intro dl x hn hx;rw [List.eq_nil_iff_forall_not_mem];intro y hy;rcases (zcm dl nm k.toNat x y).1 hy with ⟨rfl,-⟩|hy
     ·exact hn rfl
     ·rw [hx] at hy;simp at hy
    cases e2:p.fr.findIdx? (isAt nm k.toNat) with
    | some i=>
     obtain ⟨f,hf,h1,h2⟩:=zaX e2;obtain ⟨h3,-⟩:=zcH h.ok hf t;rw [h1,h2] at h3;refine ⟨.inl ⟨rfl,h.put e hk (by omega) h3 rfl rfl (fun j g hj=>?_)⟩,fun x hn hx=>⟨hso _ x hn hx,rfl⟩⟩;have:=zfu h.ok.one' hf t hj;rw [h.pins i f hf,h1,h2] at this;exact this
    | none=>
     have hkn:=idx_none.1 e2;obtain ⟨T,hT⟩:=za2 h.ok hkn (h.name24 e) [];obtain ⟨t1,t2,t3⟩:=zie h hb (hnk hkn).2;have TK:=zbM h.ok
     revert T hT
     unfold holdS;generalize takeS p=q at *;simp only;by_cases h5:q.2.2=0
     rotate_left
     ·rw [if_pos h5];intro _ _;simp only;rw [if_pos h5];exact ⟨.inr ⟨t1.resolve_left h5,t2.more (Nat.le_refl a) (Nat.le_succ b)⟩,t3.weak _⟩
     rw [if_neg (by omega)];intro T hT;simp only;rw [if_neg (by simp)];have hf:=hT rfl;generalize hq:({q.1 with fr:=q.1.fr.set q.2.1 (some ⟨nm,k.toNat,[],0,false⟩),mostR:=max q.1.mostR (resN (q.1.fr.set q.2.1 (some ⟨nm,k.toNat,[],0,false⟩)))}:Pst)=r at *;have hrd:r.d=q.1.d:=by rw [←hq]
     have hrl:r.dl=q.1.dl:=(by rw [←hq]);have hrf:r.fr=q.1.fr.set q.2.1 (some ⟨nm,k.toNat,[],0,false⟩):=by rw [←hq]
     obtain ⟨h3,-⟩:=zcH T.ok hf t;refine ⟨.inl ⟨rfl,t2.put e hk (by omega) (by have h4:=h3;simp only [hrl] at h4;exact h4) hrd rfl (fun j g hj=>?_)⟩,fun x hn hx=>?_⟩
     ·rcases zfu T.ok.one' hf t hj with ⟨h5,h6,h7,h8⟩|⟨j',h5,h6⟩
      ·exact .inl ⟨h5,h6,h7,h8.trans (hnk hkn).1.symm⟩
      ·rw [hrf,List.getElem?_set] at h5;split at h5
       ·split at h5
        ·cases h5
         exact absurd ⟨rfl,rfl⟩ h6
        ·cases h5
       ·exact .inr ⟨j',h5,h6⟩
     ·obtain ⟨u1,u2⟩:=t3 x (by simp) hx;exact ⟨hso _ x hn u1,by show getF r.d.l x=_;rw [hrd];exact u2⟩
theorem zmh (h:Heal Q PN p V a b) (hb:b≤1000) (nm:List UInt8) :
 (((zao p nm).2=zcY V nm∧(V nm≠none→Tidy (zao p nm).1 nm))∨(zao p nm).2=5)∧Heal Q PN (zao p nm).1 V a b∧Still p (zao p nm).1 (some nm):=by
 unfold zao zcY;cases e:V nm with
 | none=>
  rw [zbW h e];simp only;rw [if_pos (zbF nm)];exact ⟨.inl ⟨rfl,fun h=>absurd rfl h⟩,h,Still.refl _ _⟩
 | some ps=>
  rw [zbt h e];simp only;rw [if_neg (by simp)];obtain ⟨w2,w3,w4,w5,w1⟩:=zht hb (nm:=nm) (zaa p.dl nm) h (h.ok.dl.rise_of nm) (fun _ h=>h) (fun _ _ j _ h _=>h);generalize wbS p ((zaa p.dl nm).filterMap (frmOf p.fr nm))=q at *;have hst:Still p q.1 (some nm):=fun x hn hx=>⟨by
   rw [List.eq_nil_iff_forall_not_mem];intro y hy;have:=w3 x y hy;rw [hx] at this;simp at this,w4 x (fun e=>hn (by rw [e]))⟩
  by_cases h5:q.2=0
  rotate_left
  ·rw [if_pos h5];exact ⟨.inr (w1.resolve_left (fun h=>h5 h.1)),w2,hst⟩
  rw [if_neg (by omega)];have w1:∀ x∈zaa p.dl nm,x∉zaa q.1.dl nm:=by
   rcases w1 with ⟨-,w1⟩|w1
   ·exact w1
   ·omega
  obtain ⟨g,hg,hR⟩:=w2.has _ _ e;have hn:=h.name _ _ e;have hgn:=zbq hg;have hs:syncS q.1.d nm=({q.1.d with l:=setF q.1.d.l (syncF g)},0):=by
   unfold syncS;rw [zcJ w2.armed,w2.off,hn,hg];simp [w2.off]
  rw [hs];simp only;have hgs:(syncF g).name=nm:=hgn;refine ⟨.inl ⟨trivial,fun _=>⟨?_,fun f hf=>?_⟩⟩,⟨w2.off,w2.armed,w2.q,by rw [show (setF q.1.d.l (syncF g)).length=_ from zdb _ _];exact w2.num,fun x hx=>?_,w2.name,w2.short,fun x hx=>?_,fun x qs hx=>?_,w2.pins,w2.frm,w2.ok.disk _⟩,fun x hne hx=>⟨(hst x hne hx).1,?_⟩⟩
  ·show zaa q.1.dl nm=[];rw [List.eq_nil_iff_forall_not_mem];intro x hx;exact w1 x (w3 nm x hx) hx
  ·have hf:getF (setF q.1.d.l (syncF g)) nm=some f:=hf;rw [zba hg hgs] at hf;cases hf
   exact ⟨rfl,fun _=>rfl⟩
  ·rcases zda hx with rfl|hx
   ·exact w2.big g (zaR hg)
   ·exact w2.big x hx
  ·show getF (setF q.1.d.l (syncF g)) x=none;rw [za6 _ _ _ (by rw [hgs];rintro rfl;rw [e] at hx;cases hx)];exact w2.gone x hx
  ·by_cases e2:x=nm
   ·subst e2;obtain rfl:=Option.some.inj (e.symm.trans hx);exact ⟨syncF g,zba hg hgs,hR⟩
   ·obtain ⟨f,h1,h2⟩:=w2.has _ _ hx;refine ⟨f,?_,h2⟩;show getF (setF q.1.d.l (syncF g)) x=_;rw [za6 _ _ _ (by rw [hgs];exact fun e3=>e2 e3.symm)];exact h1
  ·show getF (setF q.1.d.l (syncF g)) x=_;rw [za6 _ _ _ (by rw [hgs];exact fun e3=>hne (by rw [e3]))];exact (hst x hne hx).2
end
def fileB (nm:List UInt8):Nat→List (List UInt8)→List UInt8
 | _,[]=>[]
 | k,x::ps=>pageB (tagN nm) k x++fileB nm (k+1) ps
theorem zfa (nm:List UInt8):∀ (k:Nat) (ps qs:List (List UInt8)),fileB nm k (ps++qs)=fileB nm k ps++fileB nm (k+ps.length) qs
 | k,[],qs=>rfl
 | k,x::ps,qs=>by
  rw [List.cons_append,fileB,fileB,zfa nm (k+1) ps qs,List.append_assoc,List.length_cons];congr 3
  omega
theorem zif (nm:List UInt8) (ps:List (List UInt8)) (x:List UInt8):fileB nm 0 (ps++[x])=fileB nm 0 ps++pageB (tagN nm) ps.length x:=by
 rw [zfa,Nat.zero_add];simp [fileB]
theorem zcr (nm:List UInt8):∀ (k:Nat) (ps:List (List UInt8)),(∀ x∈ps,x.length≤240)→(fileB nm k ps).length=256*ps.length
 | k,[],_=>rfl
 | k,x::ps,h=>by
  rw [fileB,List.length_append,zaF _ _ (h x (List.mem_cons_self)),zcr nm (k+1) ps (fun y hy=>h y (List.mem_cons_of_mem _ hy)),List.length_cons];omega
theorem zgP (nm:List UInt8):∀ (k:Nat) (ps:List (List UInt8)),(∀ x∈ps,x.length≤240)→∀ (i:Nat) (x:List UInt8),ps[i]? = some x→((fileB nm k ps).drop (256*i)).take 256=pageB (tagN nm) (k+i) x
 | k,[],_,i,x,h=>by simp at h
 | k,y::ps,hs,0,x,h=>by
  simp only [List.getElem?_cons_zero,Option.some.injEq] at h;subst h;have h1:=zaF (tagN nm) k (hs y (List.mem_cons_self));rw [Nat.mul_zero,List.drop_zero,fileB,←h1,List.take_left,Nat.add_zero]
 | k,y::ps,hs,i+1,x,h=>by
  simp only [List.getElem?_cons_succ] at h;have h1:=zaF (tagN nm) k (hs y (List.mem_cons_self));have ih:=zgP nm (k+1) ps (fun z hz=>hs z (List.mem_cons_of_mem _ hz)) i x h;rw [fileB,show 256*(i+1)=(pageB (tagN nm) k y).length+256*i by rw [h1];omega,List.drop_length_add_append,ih];congr 1
  omega
theorem zp0 {nm:List UInt8} {ps:List (List UInt8)} {t:List UInt8} (hs:∀ x∈ps,x.length≤240) (hl:t.length=256*ps.length) (h:∀ (k:Nat) (x:List UInt8),ps[k]? = some x→(t.drop (256*k)).take 256=pageB (tagN nm) k x):t=fileB nm 0 ps:=by
 have hl2:=zcr nm 0 ps hs;apply List.ext_getElem?;intro i;by_cases hi:i<256*ps.length
 ·have hk:i/256<ps.length:=(by omega);have e1:=h _ _ (zG9 hk);have e2:=zgP nm 0 ps hs _ _ (zG9 hk);rw [Nat.zero_add] at e2;have e3:=congrArg (fun l:List UInt8=>l[i%256]?) (e1.trans e2.symm);simp only [List.getElem?_take,List.getElem?_drop] at e3;rw [if_pos (by omega),if_pos (by omega),show 256*(i/256)+i%256=i by omega] at e3;exact e3
 ·rw [List.getElem?_eq_none (by omega),List.getElem?_eq_none (by omega)]
section
variable {Q:Nat} {PN:List UInt8→Nat→Nat} {p:Pst} {V:Vw} {a b:Nat}
theorem znN (h:Heal Q PN p V a b) {nm:List UInt8} {ps:List (List UInt8)} (hV:V nm=some ps) (ht:zaa p.dl nm=[]):∃ f,getF p.d.l nm=some f∧f.now=fileB nm 0 ps:=by
 obtain ⟨f,hf,m,h1,h2,h3⟩:=h.has nm ps hV;refine ⟨f,hf,?_⟩;have hs:=(h.short nm ps hV).2;have hd:∀ k,k∉zaa p.dl nm:=fun k hk=>by rw [ht] at hk;simp at hk
 have hm:m=ps.length:=by
  by_cases e:ps.length=0
  ·omega
  ·have hl:ps.length-1<ps.length:=(by omega);have:=(h3 _ _ (zG9 hl) (hd _)).1;omega
 rw [hm] at h1;refine zp0 hs h1 fun k x hx=>?_
 have:=(h3 k x hx (hd k)).2;unfold za1 at this;exact this
theorem Heal.tight (h:Heal Q PN p V a b) (hr:p.d.l.Pairwise fun f g=>f.name<g.name) {a' b':Nat} (ha:p.d.l.length≤a') (hb:∀ nm ps,V nm=some ps→ps.length≤b'):Heal Q PN p V a' b':=by
 refine ⟨h.off,h.armed,h.q,ha,fun f hf=>?_,h.name,fun nm ps hV=>⟨hb nm ps hV,(h.short nm ps hV).2⟩,h.gone,h.has,h.pins,h.frm,h.ok⟩;have hg:=zdc hr hf;obtain ⟨ps,hV⟩:=h.known hg;obtain ⟨f2,hf2,m,h1,h2,-⟩:=h.has _ ps hV;obtain rfl:=Option.some.inj (hg.symm.trans hf2);have:=hb _ ps hV;omega
theorem Heal.count (h:Heal Q PN p V a b) (hr:p.d.l.Pairwise fun f g=>f.name<g.name) {ns:List (List UInt8)} (hn:ns.Nodup) (hm:∀ nm,V nm≠none↔nm∈ns):p.d.l.length=ns.length:=by
 have h1:(p.d.l.map (·.name)).Perm ns:=by
  refine (List.perm_ext_iff_of_nodup ?_ hn).2 fun nm=>?_
  ·rw [List.nodup_iff_pairwise_ne,List.pairwise_map];exact hr.imp fun {x y} hxy e=>by rw [e] at hxy;exact List.lt_irrefl _ hxy
  ·rw [←hm];constructor
   ·intro hx;obtain ⟨f,hf,rfl⟩:=List.mem_map.1 hx;obtain ⟨ps,hV⟩:=h.known (zdc hr hf);rw [hV];simp
   ·intro hV;cases e:V nm with
    | none=>exact absurd e hV
    | some ps=>
     obtain ⟨f,hf,-⟩:=h.has nm ps e;exact List.mem_map.2 ⟨f,zaR hf,zbq hf⟩
 have:=h1.length_eq;simpa using this
end
def RiseL (l:List Fl):Prop:=l.Pairwise fun f g=>f.name<g.name
theorem znO {l:List Fl} (h:RiseL l) (f:Fl):RiseL (setF l f):=by
 unfold RiseL setF;rw [List.pairwise_map];refine h.imp fun {x y} hxy=>?_
 have e:∀ g:Fl,(if g.name=f.name then f else g).name=g.name:=fun g=>by
  by_cases e:g.name=f.name
  ·rw [if_pos e,e]
  ·rw [if_neg e]
 rw [e,e];exact hxy
theorem zsl {l:List Fl} {f:Fl} (h:RiseL l) (hn:getF l f.name=none):RiseL (putF l f):=by
 have hn:∀ g∈l,g.name≠f.name:=fun g hg e=>by
  have:=List.find?_eq_none.1 hn g hg;simp [e] at this
 induction l with
 | nil=>simp [putF,RiseL]
 | cons g l ih=>
  have h2:=List.pairwise_cons.1 h;unfold putF RiseL;by_cases e:g.name<f.name
  ·rw [if_pos e,List.pairwise_cons];refine ⟨fun x hx=>?_,ih h2.2 (List.find?_eq_none.2 fun x hx=>by simpa using hn x (List.mem_cons_of_mem _ hx)) (fun y hy=>hn y (List.mem_cons_of_mem _ hy))⟩;rcases zgN hx with rfl|hx'
   ·exact e
   ·exact h2.1 x hx'
  ·rw [if_neg e,List.pairwise_cons];have hlt:f.name<g.name:=by
    have h1:=hn g List.mem_cons_self;have h2:f.name≤g.name:=List.not_lt.1 e;by_cases h3:f.name<g.name
    ·exact h3
    ·exact absurd (List.le_antisymm (List.not_lt.1 h3) h2) h1
   refine ⟨fun x hx=>?_,h⟩;rcases List.mem_cons.1 hx with rfl|hx'
   ·exact hlt
   ·exact List.lt_trans hlt (h2.1 x hx')
theorem zfv (s:Ds):(goneS s).l=s.l:=by unfold goneS; split<;>rfl
theorem zp1 {s:Ds} (h:RiseL s.l) (nm:List UInt8) (off:Int) (b:List UInt8):RiseL (zaN s nm off b).1.l:=by
 unfold zaN
 repeat' split
 all_goals first
  | (simp only;rw [zfv];exact h)
  | exact znO h _
theorem zrl {s:Ds} (h:RiseL s.l) (nm:List UInt8):RiseL (syncS s nm).1.l:=by
 unfold syncS
 repeat' split
 all_goals first
  | (simp only;rw [zfv];exact h)
  | exact znO h _
theorem zig {s:Ds} (h:RiseL s.l) (nm:List UInt8) (k:Int) (b:List UInt8):RiseL (zaG s nm k b).1.l:=by
 unfold zaG
 repeat' split
 all_goals first
  | exact h
  | exact zp1 h _ _ _
theorem rs_wb:∀ (fs:List Frm) {p:Pst},RiseL p.d.l→RiseL (wbS p fs).1.d.l
 | [],p,h=>h
 | f::fs,p,h=>by
  unfold wbS;split
  ·exact rs_wb fs (zig h _ _ _)
  ·exact zig h _ _ _
theorem zrm {p:Pst} (h:RiseL p.d.l) (f:Frm):RiseL (saveS p f).1.d.l:=by
 unfold saveS
 repeat' split
 all_goals first
  | exact h
  | exact rs_wb _ h
theorem zjH {p q:Pst} (h:RiseL p.d.l) (e:q.d=p.d) (f:Frm):RiseL (saveS q f).1.d.l:=zrm (p:=q) (by rw [e];exact h) f
theorem zrn {p:Pst} (h:RiseL p.d.l):RiseL (takeS p).1.d.l:=by
 unfold takeS;simp only
 repeat' split
 all_goals first
  | exact h
  | (simp only;exact zjH h (by rfl) _)
  | exact zjH h (by rfl) _
theorem zk7 {p:Pst} (h:RiseL p.d.l) (nm:List UInt8) (k:Nat) (t:List UInt8):RiseL (holdS p nm k t).1.d.l:=by
 unfold holdS;simp only;split<;>exact zrn h
theorem zp2 {p:Pst} (h:RiseL p.d.l) (nm:List UInt8) (k:Nat):RiseL (zav p nm k).1.d.l:=by
 unfold zav;simp only
 repeat' split
 all_goals first
  | exact h
  | exact zk7 h _ _ _
theorem zsm {p:Pst} (h:RiseL p.d.l) (nm:List UInt8) (k:Int):RiseL (getP p nm k).1.d.l:=by
 unfold getP
 repeat' split
 all_goals first
  | exact h
  | exact zp2 h _ _
theorem zro {p:Pst} (h:RiseL p.d.l) (nm:List UInt8) (k:Int):RiseL (zai p nm k).1.d.l:=by
 unfold zai;simp only;split<;>exact zsm h _ _
theorem zmi {p:Pst} (h:RiseL p.d.l) (nm:List UInt8) (k:Int) (b:List UInt8):RiseL (zah p nm k b).1.d.l:=by
 unfold zah;simp only
 repeat' split
 all_goals first
  | exact h
  | exact zk7 h _ _ _
theorem zp3 {p:Pst} (h:RiseL p.d.l) (nm:List UInt8):RiseL (zao p nm).1.d.l:=by
 unfold zao;simp only
 repeat' split
 all_goals first
  | exact h
  | exact rs_wb _ h
  | exact zrl (rs_wb _ h) _
theorem znP {p:Pst} (h:RiseL p.d.l) (nm:List UInt8):RiseL (zaA p nm).1.d.l:=by
 unfold zaA zaw
 repeat' split
 all_goals first
  | (simp only;rw [zfv];exact h)
  | skip
 rename_i h1;exact zsl h (by simpa using h1)
theorem zrp {p:Pst} (h:RiseL p.d.l) (nm:List UInt8):RiseL (zat p nm).1.d.l:=by
 unfold zat zaE
 repeat' split
 all_goals first
  | exact h
  | (simp only;rw [zfv];exact h)
  | exact List.Pairwise.sublist List.filter_sublist h
theorem mp_wb:∀ (fs:List Frm) (p:Pst),(wbS p fs).1.mostP=p.mostP
 | [],p=>rfl
 | f::fs,p=>by
  unfold wbS;split
  ·rw [mp_wb fs]
  ·rfl
theorem zk8 (p:Pst) (f:Frm):(saveS p f).1.mostP=p.mostP:=by
 unfold saveS
 repeat' split
 all_goals first
  | rfl
  | exact mp_wb _ _
theorem zrq (p:Pst):(takeS p).1.mostP=p.mostP:=by
 unfold takeS;simp only
 repeat' split
 all_goals first
  | rfl
  | (simp only;exact zk8 _ _)
  | exact zk8 _ _
theorem zk9 (p:Pst) (nm:List UInt8) (k:Nat) (t:List UInt8):(holdS p nm k t).1.mostP=p.mostP:=by
 unfold holdS;simp only;split<;>exact zrq p
theorem zp4 (p:Pst) (nm:List UInt8) (k:Nat):(zav p nm k).1.mostP=p.mostP:=by
 unfold zav;simp only
 repeat' split
 all_goals first
  | rfl
  | exact zk9 _ _ _ _
theorem zsn (p:Pst) (nm:List UInt8) (k:Int):(getP p nm k).1.mostP=p.mostP:=by
 unfold getP
 repeat' split
 all_goals first
  | rfl
  | exact zp4 _ _ _
theorem zla (p:Pst) (nm:List UInt8) (k:Int):(zai p nm k).1.mostP=p.mostP:=by
 unfold zai;simp only;split<;>exact zsn _ _ _
theorem zp5 (p:Pst) (nm:List UInt8) (k:Int) (b:List UInt8):(zah p nm k b).1.mostP=p.mostP:=by
 unfold zah;simp only
 repeat' split
 all_goals first
  | rfl
  | exact zk9 _ _ _ _
theorem zjI (p:Pst) (nm:List UInt8):(zao p nm).1.mostP=p.mostP:=by
 unfold zao;simp only
 repeat' split
 all_goals first
  | rfl
  | exact mp_wb _ _
theorem znQ (p:Pst) (nm:List UInt8):(zaA p nm).1.mostP=p.mostP:=rfl
theorem zrr (p:Pst) (nm:List UInt8):(zat p nm).1.mostP=p.mostP:=by
 unfold zat;split<;>rfl
theorem zhu (p:Pst) (nm:List UInt8):(lastT p nm).1.mostP=p.mostP:=by
 unfold lastT
 repeat' split
 all_goals first
  | rfl
  | exact zla _ _ _
theorem zrs (p:Pst) (nm:List UInt8) (size:Nat) (i:Int):(seatT p nm size i).1.mostP=p.mostP:=by
 unfold seatT;simp only
 repeat' split
 all_goals first
  | rfl
  | exact zla _ _ _
theorem znR (p:Pst) (nm:List UInt8) (size:Nat):(lenT p nm size).1.mostP=p.mostP:=by
 unfold lenT;simp only
 repeat' split
 all_goals exact zhu _ _
theorem zhv (p:Pst) (nm:List UInt8) (size:Nat) (i:Int):(getT p nm size i).1.mostP=p.mostP:=by
 unfold getT;simp only;split<;>exact zrs _ _ _ _
theorem znS (p:Pst) (nm:List UInt8) (size:Nat) (r:List UInt8):(addT p nm size r).1.mostP=p.mostP:=by
 unfold addT;simp only
 repeat' split
 all_goals first
  | rfl
  | exact zhu _ _
  | exact (zp5 _ _ _ _).trans (zhu _ _)
structure Tid (Q A B:Nat) (p:Pst) (V:Vw) (ns:List (List UInt8)):Prop where
 heal:Heal Q (fun _ _=>0) p V A B
 rise:RiseL p.d.l
 nd:ns.Nodup
 mem:∀ nm,V nm≠none↔nm∈ns
 most:ns.length≤A
 big:B≤1000
section
variable {Q A B:Nat} {p q:Pst} {V:Vw} {ns:List (List UInt8)} {nm:List UInt8}
theorem Tid.len (h:Tid Q A B p V ns) {nm:List UInt8} {ps:List (List UInt8)} (hV:V nm=some ps):ps.length≤B:=(h.heal.short nm ps hV).1
theorem Tid.get (h:Tid Q A B p V ns) (hm:nm∈ns):∃ ps,V nm=some ps:=by
 cases e:V nm with
 | none=>exact absurd e ((h.mem nm).2 hm)
 | some ps=>exact ⟨ps,rfl⟩
theorem Tid.no (h:Tid Q A B p V ns) (hm:nm∉ns):V nm=none:=by
 cases e:V nm with
 | none=>rfl
 | some ps=>exact absurd ((h.mem nm).1 (by rw [e];simp)) hm
theorem zgQ {a b:Nat} (h:Heal Q (fun _ _=>0) p V a b) (hr:RiseL p.d.l) (hn:ns.Nodup) (hm:∀ nm,V nm≠none↔nm∈ns) (hl:ns.length≤A) (hb:∀ nm ps,V nm=some ps→ps.length≤B) (hB:B≤1000):Tid Q A B p V ns:=
 ⟨h.tight hr (by rw [h.count hr hn hm];exact hl) hb,hr,hn,hm,hl,hB⟩
theorem Tidy.still {x:List UInt8} {o:Option (List UInt8)} (h:Tidy p x) (s:Still p q o) (ho:o≠some x):Tidy q x:=by
 obtain ⟨h1,h2⟩:=s x ho h.dl;exact ⟨h1,fun f hf=>h.file f (h2▸hf)⟩
theorem Tid.find (h:Tid Q A B p V ns) {ps:List (List UInt8)} (hV:V nm=some ps):findP p nm=(ps.length,0):=zbt h.heal hV
theorem Tid.read (h:Tid Q A B p V ns) {ps:List (List UInt8)} (hV:V nm=some ps) {k:Nat} {t:List UInt8} (ht:ps[k]? = some t) :
 ((zai p nm (k:Int)).2=(t,0)∨((zai p nm (k:Int)).2=([],5)∧Q<4*(A*B)+4))∧Tid Q A B (zai p nm (k:Int)).1 V ns∧Still p (zai p nm (k:Int)).1 none:=by
 have e:readV V nm (k:Int)=(t,0):=by
  unfold readV;rw [hV];simp only;rw [if_neg (by omega),Int.toNat_natCast,ht]
 obtain ⟨h1,h2,h3⟩:=znM h.heal h.big nm (k:Int) (fun _=>⟨rfl,h.heal.free (fun _ _=>rfl)⟩);refine ⟨?_,⟨h2,zro h.rise _ _,h.nd,h.mem,h.most,h.big⟩,h3⟩;by_cases hab:4*(A*B)+4≤Q
 ·left;rw [←e];exact (znC h.heal hab h.big nm (k:Int) (fun _=>⟨rfl,h.heal.free (fun _ _=>rfl)⟩)).1
 ·rw [e] at h1;exact h1.imp id (fun h5=>⟨h5,by omega⟩)
theorem Tid.write (h:Tid Q A B p V ns) {ps:List (List UInt8)} (hV:V nm=some ps) {k:Nat} (hk:k≤ps.length) (hB:k<B) {t:List UInt8} (ht:t.length≤240) :
 (((zah p nm (k:Int) t).2=0∧Tid Q A B (zah p nm (k:Int) t).1 (upV V nm (some (setP ps k t))) ns)∨((zah p nm (k:Int) t).2=5∧Q<4*(A*B)+4∧Tid Q A B (zah p nm (k:Int) t).1 V ns))∧Still p (zah p nm (k:Int) t).1 (some nm):=by
 have e:zb2 V nm (k:Int) t=(upV V nm (some (setP ps k t)),0):=by
  unfold zb2;rw [if_neg (by omega),hV];simp only;rw [if_neg (by omega),Int.toNat_natCast]
 obtain ⟨h1,h2⟩:=zpZ h.heal h.big nm (k:Int) t (fun _=>⟨rfl,h.heal.free (fun _ _=>rfl)⟩);refine ⟨?_,h2⟩;have hr:=zmi h.rise nm (k:Int) t;have good:∀ {b:Nat},Heal Q (fun _ _=>0) (zah p nm (k:Int) t).1 (upV V nm (some (setP ps k t))) A b→Tid Q A B (zah p nm (k:Int) t).1 (upV V nm (some (setP ps k t))) ns:=fun hh=>by
  refine zgQ hh hr h.nd (fun x=>?_) h.most (fun x qs hx=>?_) h.big
  ·by_cases ex:x=nm
   ·subst ex;rw [zap,←h.mem x,hV];simp
   ·rw [zag _ _ ex];exact h.mem x
  ·by_cases ex:x=nm
   ·subst ex;rw [zap] at hx;obtain rfl:=Option.some.inj hx;rw [zdQ hk];have:=h.len hV;omega
   ·rw [zag _ _ ex] at hx;exact h.len hx
 by_cases hab:4*(A*B)+4≤Q
 ·obtain ⟨w1,w2⟩:=zl9 h.heal hab h.big nm (k:Int) t (fun _=>⟨rfl,h.heal.free (fun _ _=>rfl)⟩);rw [e] at w1 w2;exact .inl ⟨w1,good w2⟩
 ·rw [e] at h1;rcases h1 with ⟨w1,w2⟩|⟨w1,w2⟩
  ·exact .inl ⟨w1,good w2⟩
  ·exact .inr ⟨w1,by omega,zgQ w2 hr h.nd h.mem h.most (fun x qs hx=>h.len hx) h.big⟩
theorem Tid.create (h:Tid Q A B p V ns) (hn:zaf nm=true) (hm:nm∉ns) (hA:ns.length<A) :
 (zaA p nm).2=0∧Tid Q A B (zaA p nm).1 (upV V nm (some [])) (nm::ns)∧Still p (zaA p nm).1 (some nm)∧Tidy (zaA p nm).1 nm:=by
 have hV:=h.no hm;have e:zcK V nm=(upV V nm (some []),0):=by
  unfold zcK;rw [if_neg (by rw [hn];simp),hV]
 obtain ⟨h1,h2⟩:=zkC h.heal nm;rw [e] at h1 h2;have hg:=h.heal.gone nm hV;have ec:zaA p nm=({p with d:={p.d with l:=putF p.d.l ⟨nm,[],[],fun _=>false⟩} },0):=by
  unfold zaA zaw;rw [zcJ h.heal.armed,h.heal.off,if_neg (by simp),if_neg (by rw [hn];simp),hg,if_neg (by simp)]
 refine ⟨h1,zgQ h2 (znP h.rise nm) (List.nodup_cons.2 ⟨hm,h.nd⟩) (fun x=>?_) (by simp only [List.length_cons];omega) (fun x qs hx=>?_) h.big,?_,?_⟩
 ·rw [List.mem_cons];by_cases ex:x=nm
  ·subst ex;rw [zap];simp
  ·rw [zag _ _ ex,h.mem x];simp [ex]
 ·by_cases ex:x=nm
  ·subst ex;rw [zap] at hx;obtain rfl:=Option.some.inj hx;simp
  ·rw [zag _ _ ex] at hx;exact h.len hx
 ·rw [ec];exact fun x hx hd=>⟨hd,zfY _ _ _ (fun e3=>hx (by rw [←e3]))⟩
 ·rw [ec];refine ⟨?_,fun f hf=>?_⟩
  ·show zaa p.dl nm=[];rw [List.eq_nil_iff_forall_not_mem];intro y hy;obtain ⟨i,f,hf,h1,h2⟩:=mem_keys.1 (h.heal.ok.held nm y hy);obtain ⟨qs,hq,-⟩:=h.heal.frm i f hf;rw [h1,hV] at hq;cases hq
  ·have hf:getF (putF p.d.l ⟨nm,[],[],fun _=>false⟩) nm=some f:=hf;rw [zfM (f:=⟨nm,[],[],fun _=>false⟩) hg] at hf;cases hf
   exact ⟨rfl,fun _=>rfl⟩
theorem Tid.drop (h:Tid Q A B p V ns) (hm:nm∈ns) :
 (zat p nm).2=0∧Tid Q A B (zat p nm).1 (upV V nm none) (ns.erase nm)∧Still p (zat p nm).1 (some nm):=by
 obtain ⟨h1,h2,h3⟩:=znD h.heal (fun _ _=>rfl) nm;obtain ⟨ps,hV⟩:=h.get hm;refine ⟨?_,zgQ h2 (zrp h.rise nm) (h.nd.erase nm) (fun x=>?_) (Nat.le_trans (List.length_erase_le) h.most) (fun x qs hx=>?_) h.big,fun x hx hd=>⟨?_,?_⟩⟩
 ·rw [h1];unfold dropE;rw [hV]
 ·rw [h.nd.mem_erase_iff];by_cases ex:x=nm
  ·subst ex;rw [zap];simp
  ·rw [zag _ _ ex,h.mem x];simp [ex]
 ·by_cases ex:x=nm
  ·subst ex;rw [zap] at hx;cases hx
  ·rw [zag _ _ ex] at hx;exact h.len hx
 ·have hne:x≠nm:=(fun e=>hx (by rw [e]));unfold zat;split
  ·exact hd
  ·show zaa (delM p.dl nm) x=[];rw [zbC,if_neg hne];exact hd
 ·rw [h3];exact zfX _ _ _ (fun e3=>hx (by rw [e3]))
theorem Tid.flush (h:Tid Q A B p V ns) (hm:nm∈ns) :
 (((zao p nm).2=0∧Tidy (zao p nm).1 nm)∨((zao p nm).2=5∧Q<4*(A*B)+4))∧Tid Q A B (zao p nm).1 V ns∧Still p (zao p nm).1 (some nm):=by
 obtain ⟨ps,hV⟩:=h.get hm;obtain ⟨h1,h2,h3⟩:=zmh h.heal h.big nm;have e:zcY V nm=0:=by unfold zcY;rw [hV]
 refine ⟨?_,⟨h2,zp3 h.rise _,h.nd,h.mem,h.most,h.big⟩,h3⟩;by_cases hab:4*(A*B)+4≤Q
 ·obtain ⟨w1,-,w3,-⟩:=zmb h.heal hab h.big nm;exact .inl ⟨w1.trans e,w3 (by rw [hV];simp)⟩
 ·rcases h1 with ⟨w1,w2⟩|w1
  ·exact .inl ⟨w1.trans e,w2 (by rw [hV];simp)⟩
  ·exact .inr ⟨w1,by omega⟩
end
section
variable {Q A B:Nat} {p q:Pst} {V:Vw} {ns:List (List UInt8)} {nm:List UInt8} {size:Nat} {rs:List (List UInt8)}
theorem Tid.name (h:Tid Q A B p V ns) (s:IsS V nm size rs):nm∈ns:=(h.mem nm).1 (by rw [s.file];simp)
theorem Tid.page (h:Tid Q A B p V ns) (s:IsS V nm size rs) {k:Nat} (hk:k<zak (240/size) rs.length) :
 ((zai p nm (k:Int)).2=((zay (240/size) rs k).flatten,0)∨((zai p nm (k:Int)).2=([],5)∧Q<4*(A*B)+4))∧Tid Q A B (zai p nm (k:Int)).1 V ns∧Still p (zai p nm (k:Int)).1 none:=
 h.read s.file (zbk hk)
theorem Tid.last0 (h:Tid Q A B p V ns) (s:IsS V nm size rs) (h0:rs.length=0):lastT p nm=(p,-1,[],0):=s.last0 h.heal h0
theorem Tid.last (h:Tid Q A B p V ns) (s:IsS V nm size rs) (h0:rs.length≠0) :
 ((lastT p nm).2=(((zak (240/size) rs.length-1:Nat):Int),(zay (240/size) rs (zak (240/size) rs.length-1)).flatten,0)∨
  ((lastT p nm).2=(((zak (240/size) rs.length-1:Nat):Int),[],5)∧Q<4*(A*B)+4))∧
 Tid Q A B (lastT p nm).1 V ns∧Still p (lastT p nm).1 none∧0<zak (240/size) rs.length:=by
 have hp:=zbG s.siz;have hN:0<zak (240/size) rs.length:=(zaB (k:=0) hp).2 (by omega);unfold lastT;rw [s.find h.heal,if_neg (by simp),if_neg (by simp only;omega)];obtain ⟨r1,r2,r3⟩:=h.page s (k:=zak (240/size) rs.length-1) (by omega);refine ⟨?_,r2,r3,hN⟩;rcases r1 with r1|⟨r1,hQ⟩
 ·exact .inl (by simp only;rw [r1])
 ·exact .inr ⟨by simp only;rw [r1],hQ⟩
theorem Tid.lenS (h:Tid Q A B p V ns) (s:IsS V nm size rs) :
 ((lenT p nm size).2=(rs.length,0)∨((lenT p nm size).2=(0,5)∧Q<4*(A*B)+4))∧Tid Q A B (lenT p nm size).1 V ns∧Still p (lenT p nm size).1 none:=by
 have hp:=zbG s.siz;unfold lenT;by_cases h0:rs.length=0
 ·rw [h.last0 s h0,h0];exact ⟨.inl rfl,h,Still.refl _ _⟩
 ·obtain ⟨r1,r2,r3,hN⟩:=h.last s h0;have hk:zak (240/size) rs.length-1<zak (240/size) rs.length:=(by omega);obtain ⟨w1,w0,w2⟩:=s.whole hk;generalize lastT p nm=q at *;obtain ⟨q1,q2,q3,q4⟩:=q;simp only at r1 r2 r3 ⊢;rcases r1 with r1|⟨r1,hQ⟩
  rotate_left
  ·injection r1 with e1 e2;injection e2 with e2 e3;subst e1;subst e2;subst e3;rw [if_pos (by decide)];exact ⟨.inr ⟨rfl,hQ⟩,r2,r3⟩
  injection r1 with e1 e2;injection e2 with e2 e3;subst e1;subst e2;subst e3;rw [if_neg (by simp),if_neg (by omega),if_neg (by omega),w2];refine ⟨.inl ?_,r2,r3⟩;simp only;congr 1
  rw [Int.toNat_natCast];have h1:=(zaB hp).1 hk;have h2:¬ zak (240/size) rs.length*(240/size)<rs.length:=fun e=>by
   have:=(zaB (k:=zak (240/size) rs.length) hp).2 e;omega
  have h3:(zak (240/size) rs.length-1)*(240/size)+240/size=zak (240/size) rs.length*(240/size):=by
   rw [←Nat.succ_mul];congr 1;omega
  omega
theorem Tid.seat (h:Tid Q A B p V ns) (s:IsS V nm size rs) {i:Nat} (hi:i<rs.length) :
 ((seatT p nm size (i:Int)).2=((zay (240/size) rs (i/(240/size))).flatten,i%(240/size)*size,0)∨((seatT p nm size (i:Int)).2=([],0,5)∧Q<4*(A*B)+4))∧
 Tid Q A B (seatT p nm size (i:Int)).1 V ns∧Still p (seatT p nm size (i:Int)).1 none:=by
 have hp:=zbG s.siz;have hm:=Nat.div_add_mod i (240/size);have hl:=Nat.mod_lt i hp;have hc:i/(240/size)*(240/size)=(240/size)*(i/(240/size)):=Nat.mul_comm _ _;have g1:i/(240/size)<zak (240/size) rs.length:=(zaB hp).2 (by omega);unfold seatT;rw [if_neg (by omega)];simp only [Int.toNat_natCast];obtain ⟨r1,r2,r3⟩:=h.page s g1;obtain ⟨w1,w0,w2⟩:=s.whole g1;have hle:¬ (zay (240/size) rs (i/(240/size))).flatten.length≤i%(240/size)*size:=by
  rw [zcc (per:=240/size) s.recs];intro h5;have h6:(i%(240/size)+1)*size≤min (240/size) (rs.length-i/(240/size)*(240/size))*size:=Nat.mul_le_mul_right _ (by omega);rw [Nat.succ_mul] at h6;have:=s.siz;omega
 generalize zai p nm ((i/(240/size):Nat):Int)=q at *;obtain ⟨q1,q2,q3⟩:=q;simp only at r1 r2 r3 ⊢;rcases r1 with r1|⟨r1,hQ⟩
 ·injection r1 with e1 e2;subst e1;subst e2;rw [if_neg (by simp),if_neg (by omega),if_neg hle];exact ⟨.inl rfl,r2,r3⟩
 ·injection r1 with e1 e2;subst e1;subst e2;rw [if_pos (by decide)];exact ⟨.inr ⟨rfl,hQ⟩,r2,r3⟩
theorem Tid.getS (h:Tid Q A B p V ns) (s:IsS V nm size rs) {i:Nat} {r:List UInt8} (hr:rs[i]? = some r) :
 ((getT p nm size (i:Int)).2=(r,0)∨((getT p nm size (i:Int)).2=([],5)∧Q<4*(A*B)+4))∧Tid Q A B (getT p nm size (i:Int)).1 V ns∧Still p (getT p nm size (i:Int)).1 none:=by
 obtain ⟨g1,g2⟩:=zpQ (zbG s.siz) s.recs hr;have hi:=(zI9.1 hr).1;obtain ⟨r1,r2,r3⟩:=h.seat s hi;unfold getT;generalize seatT p nm size (i:Int)=q at *;obtain ⟨q1,q2,q3,q4⟩:=q;simp only at r1 r2 r3 ⊢;rcases r1 with r1|⟨r1,hQ⟩
 ·injection r1 with e1 e2;injection e2 with e2 e3;subst e1;subst e2;subst e3;rw [if_neg (by simp),g2];exact ⟨.inl rfl,r2,r3⟩
 ·injection r1 with e1 e2;injection e2 with e2 e3;subst e1;subst e2;subst e3;rw [if_pos (by decide)];exact ⟨.inr ⟨rfl,hQ⟩,r2,r3⟩
theorem Still.after {p q r:Pst} {o:Option (List UInt8)} (h:Still p q none) (k:Still q r o):Still p r o:=Still.trans (fun x _ hx=>h x (by simp) hx) k
theorem Tid.put (h:Tid Q A B p V ns) (s:IsS V nm size rs) {k:Nat} (hk:k≤zak (240/size) rs.length) (hB:k<B) {t:List UInt8} (ht:t.length≤240) :
 (((zah p nm (k:Int) t).2=0∧Tid Q A B (zah p nm (k:Int) t).1 (upV V nm (some (setP (zae (240/size) rs) k t))) ns)∨((zah p nm (k:Int) t).2=5∧Q<4*(A*B)+4∧Tid Q A B (zah p nm (k:Int) t).1 V ns))∧Still p (zah p nm (k:Int) t).1 (some nm):=
 h.write s.file (by rw [zaC];exact hk) hB ht
theorem Tid.addS (h:Tid Q A B p V ns) (s:IsS V nm size rs) {r:List UInt8} (hr:r.length=size) (hB:rs.length<B*(240/size)) :
 (((addT p nm size r).2=0∧Tid Q A B (addT p nm size r).1 (upV V nm (some (zae (240/size) (rs++[r])))) ns∧IsS (upV V nm (some (zae (240/size) (rs++[r])))) nm size (rs++[r]))∨
  ((addT p nm size r).2=5∧Q<4*(A*B)+4∧Tid Q A B (addT p nm size r).1 V ns))∧Still p (addT p nm size r).1 (some nm):=by
 have hp:=zbG s.siz;have hsz:=s.siz;have hS:IsS (upV V nm (some (zae (240/size) (rs++[r])))) nm size (rs++[r]):=⟨s.siz,fun x hx=>by
  rcases List.mem_append.1 hx with hx|hx
  ·exact s.recs x hx
  ·rw [List.mem_singleton] at hx;rw [hx];exact hr,zap _ _ _⟩
 suffices hh:(((addT p nm size r).2=0∧Tid Q A B (addT p nm size r).1 (upV V nm (some (zae (240/size) (rs++[r])))) ns)∨((addT p nm size r).2=5∧Q<4*(A*B)+4∧Tid Q A B (addT p nm size r).1 V ns))∧Still p (addT p nm size r).1 (some nm) from
  ⟨hh.1.imp (fun h=>⟨h.1,h.2,hS⟩) id,hh.2⟩
 unfold addT;rw [if_neg (by omega)];have hm:=Nat.div_add_mod rs.length (240/size);have hlm:=Nat.mod_lt rs.length hp;have hc:rs.length/(240/size)*(240/size)=(240/size)*(rs.length/(240/size)):=Nat.mul_comm _ _;have hdB:rs.length/(240/size)<B:=(Nat.div_lt_iff_lt_mul hp).2 hB;by_cases hmod:rs.length%(240/size)=0
 ·obtain ⟨n1,n2⟩:=zri hp r hmod;have n3:zae (240/size) (rs++[r])=setP (zae (240/size) rs) (zak (240/size) rs.length) r:=by
   have:=zo0 (zae (240/size) rs) r;rw [zaC] at this;rw [n2,this]
  rw [n3];by_cases h0:rs.length=0
  ·rw [h.last0 s h0];simp only;rw [if_neg (by simp),if_pos (.inl (by decide))];have e0:zak (240/size) rs.length=0:=(by rw [n1,h0,Nat.zero_div]);rw [e0];exact h.put s (k:=0) (Nat.zero_le _) (by omega) (by omega)
  ·obtain ⟨r1,r2,r3,hN⟩:=h.last s h0;have hlen:=znH (per:=240/size) s.recs (k:=zak (240/size) rs.length-1) (by rw [n1,show rs.length/(240/size)-1+1=rs.length/(240/size) by omega];omega);generalize lastT p nm=q at *;obtain ⟨q1,q2,q3,q4⟩:=q;simp only at r1 r2 r3 ⊢;rcases r1 with r1|⟨r1,hQ⟩
   rotate_left
   ·injection r1 with e1 e2;injection e2 with e2 e3;subst e1;subst e2;subst e3;rw [if_pos (by decide)];exact ⟨.inr ⟨rfl,hQ,r2⟩,r3.weak _⟩
   injection r1 with e1 e2;injection e2 with e2 e3;subst e1;subst e2;subst e3;have hroom:=zjB (m:=240/size) s.siz;rw [if_neg (by simp),hlen,if_pos (.inr (by omega)),show ((zak (240/size) rs.length-1:Nat):Int)+1=(zak (240/size) rs.length:Int) by omega];obtain ⟨z1,z2⟩:=r2.put s (k:=zak (240/size) rs.length) (Nat.le_refl _) (by omega) (t:=r) (by omega);exact ⟨z1,r3.after z2⟩
 ·obtain ⟨n1,n2⟩:=zpR hp r hmod;obtain ⟨r1,r2,r3,hN⟩:=h.last s (fun e=>hmod (by rw [e,Nat.zero_mod]));have hk:rs.length/(240/size)<zak (240/size) rs.length:=(by omega);have hlen:=zcc (per:=240/size) s.recs (rs.length/(240/size));have e8:min (240/size) (rs.length-rs.length/(240/size)*(240/size))=rs.length%(240/size):=by omega
  rw [e8] at hlen;have hroom:=(zjB (m:=rs.length%(240/size)) s.siz).2 hlm;rw [n2];have n4:zak (240/size) rs.length-1=rs.length/(240/size):=by omega
  rw [n4] at r1;generalize lastT p nm=q at *;obtain ⟨q1,q2,q3,q4⟩:=q;simp only at r1 r2 r3 ⊢;rcases r1 with r1|⟨r1,hQ⟩
  rotate_left
  ·injection r1 with e1 e2;injection e2 with e2 e3;subst e1;subst e2;subst e3;rw [if_pos (by decide)];exact ⟨.inr ⟨rfl,hQ,r2⟩,r3.weak _⟩
  injection r1 with e1 e2;injection e2 with e2 e3;subst e1;subst e2;subst e3;rw [if_neg (by simp),hlen,if_neg (by omega)];obtain ⟨z1,z2⟩:=r2.put s (Nat.le_of_lt hk) hdB (t:=(zay (240/size) rs (rs.length/(240/size))).flatten++r) (by rw [List.length_append,hlen,hr];exact hroom);exact ⟨z1,r3.after z2⟩
theorem Tid.bytes (h:Tid Q A B p V ns) (s:IsS V nm size rs) (t:Tidy p nm):∃ f,getF p.d.l nm=some f∧f.now=fileB nm 0 (zae (240/size) rs):=znN h.heal s.file t.dl
theorem Tid.names (h:Tid Q A B p V ns):(p.d.l.map (·.name)).Perm ns:=by
 refine (List.perm_ext_iff_of_nodup ?_ h.nd).2 fun nm=>?_
 ·rw [List.nodup_iff_pairwise_ne,List.pairwise_map];exact h.rise.imp fun {x y} hxy e=>by rw [e] at hxy;exact List.lt_irrefl _ hxy
 ·rw [←h.mem];constructor
  ·intro hx;obtain ⟨f,hf,rfl⟩:=List.mem_map.1 hx;obtain ⟨ps,hV⟩:=h.heal.known (zdc h.rise hf);rw [hV];simp
  ·intro hV;cases e:V nm with
   | none=>exact absurd e hV
   | some ps=>
    obtain ⟨f,hf,-⟩:=h.heal.has nm ps e;exact List.mem_map.2 ⟨f,zaR hf,zbq hf⟩
end
structure ExS (K:DiskOk) (w0:World) (B:PB) (N Q A C:Nat) (p:Pst) (V:Vw) (ns:List (List UInt8)) (S:Nat→Prop) (w:World):Prop where
 pj:PJ K w0 B p S w
 runs:Runs p N 0
 tid:Tid Q A C p V ns
 pk:p.mostP=0
section
variable {K:DiskOk} {w0 w w':World} {B:PB} {S S' S2:Nat→Prop} {p q:Pst} {N Q A C j:Nat} {V:Vw} {ns:List (List UInt8)} {nm:List UInt8} {size sb:Nat} {rs:List (List UInt8)}
theorem Runs.flat (R:Runs p N j) (t:Tid Q A C p V ns):Runs p N 0:=by
 refine ⟨R.ok,R.len,fun i f hf=>⟨?_,by have:=t.heal.pins i f hf;omega⟩,R.t,R.R,R.P,?_⟩
 ·obtain ⟨ps,h1,h2⟩:=t.heal.frm i f hf;have h3:=(zI9.1 h2).1;have h4:=t.len h1;have h5:=t.big;omega
 ·have e:∀ o∈p.fr,za8 o=0:=fun o ho=>by
   obtain ⟨i,hi⟩:=List.mem_iff_getElem?.1 ho;cases o with
   | none=>rfl
   | some f=>exact t.heal.pins i f hi
  unfold sumP;rw [List.map_congr_left (g:=fun _=>0) e];generalize p.fr=l;induction l with
  | nil=>exact Nat.le_refl _
  | cons a l ih=>simpa using ih
theorem ExS.keep (h:ExS K w0 B N Q A C p V ns S w) (k:Keeps w w'):ExS K w0 B N Q A C p V ns S w':=⟨h.pj.keep k,h.runs,h.tid,h.pk⟩
theorem ExS.far (h:ExS K w0 B N Q A C p V ns S w) (t:Turns w w' S2 S') (hl:∀ i,S2 i→w0.heap.size≤i) (dj:∀ i,S i→¬ S2 i):ExS K w0 B N Q A C p V ns S w'∧∀ i,S i→¬ S' i:=by
 obtain ⟨h1,h2⟩:=h.pj.far t hl dj;exact ⟨⟨h1,h.runs,h.tid,h.pk⟩,h2⟩
theorem ExS.len24 (h:ExS K w0 B N Q A C p V ns S w) (s:IsS V nm size rs):nm.length≤maxLen:=by
 have:=h.tid.heal.name24 s.file;have:(24:Nat)≤maxLen:=by decide
 omega
theorem ExS.few (h:ExS K w0 B N Q A C p V ns S w) (s:IsS V nm size rs):(findP p nm).1≤1000000:=by
 rw [h.tid.find s.file];have:=h.tid.len s.file;have:=h.tid.big;simp only;omega
theorem x_add (PK:PageOk) (h:ExS K w0 B N Q A C p V ns S w) (hZ:K.Z w0) (hS:Sizes w0) (hN:N≤4096) (b:StrAt w sb B.pb nm size) (hb:¬ S sb) (s:IsS V nm size rs) {Ar:Option Addr} {nr cr:Nat} {r:List UInt8} (hr:Bs w Ar r) (hF:∀ ad,Ar=some ad→¬ S ad.block) (hnr:nr=r.length) (hrl:r.length=size) (hC:rs.length<C*(240/size)) :
 Calls Tryz.prog 49 #[.pointer (some ⟨sb,0,none⟩), .slice Ar nr cr] w fun e w'=>∃ E q V' S',e = .returned (.int .i64 ((E:Nat):Int))∧ExS K w0 B N Q A C q V' ns S' w'∧Turns w w' S S'∧Still p q (some nm)∧
  ((E=0∧V'=upV V nm (some (zae (240/size) (rs++[r])))∧IsS V' nm size (rs++[r]))∨(E=5∧Q<4*(A*C)+4∧V'=V)):=by
 refine (zpX PK h.pj hZ hS h.runs hN (by omega) b hb (h.len24 s) s.siz (h.few s) hr hF hnr (by have:=s.siz;omega)).mono ?_;rintro e w' ⟨he,⟨S',h1,h2⟩,h3⟩;obtain ⟨h4,h5⟩:=h.tid.addS s hrl hC;rcases h4 with ⟨e1,t1,s1⟩|⟨e1,hQ,t1⟩
 ·exact ⟨0,_,_,S',by rw [he,e1],⟨h1,h3.flat t1,t1,(znS _ _ _ _).trans h.pk⟩,h2,h5, .inl ⟨rfl,rfl,s1⟩⟩
 ·exact ⟨5,_,_,S',by rw [he,e1],⟨h1,h3.flat t1,t1,(znS _ _ _ _).trans h.pk⟩,h2,h5, .inr ⟨rfl,hQ,rfl⟩⟩
theorem x_get (PK:PageOk) (h:ExS K w0 B N Q A C p V ns S w) (hZ:K.Z w0) (hS:Sizes w0) (hN:N≤4096) (b:StrAt w sb B.pb nm size) (hb:¬ S sb) (s:IsS V nm size rs) (i:Nat) (hi:IsI (i:Int)) {r:List UInt8} (hr:rs[i]? = some r) :
 Calls Tryz.prog 41 #[.pointer (some ⟨sb,0,none⟩), .int .i64 (i:Int)] w fun e w'=>∃ E t q v S',e = .returned (.tuple #[v, .int .i64 ((E:Nat):Int)])∧Own w' w.heap.size 5 1 v t.length (cel t)∧(∀ g,v.ownBlock=some g→¬ S' g)∧ExS K w0 B N Q A C q V ns S' w'∧Turns w w' S S'∧Still p q none∧
  ((E=0∧t=r)∨(E=5∧t=[]∧Q<4*(A*C)+4)):=by
 have R:=h.runs.getS h.pj.dok nm size (i:Int);refine (zjG PK h.pj hZ hS h.runs hN (by omega) b hb (h.len24 s) s.siz (i:Int) hi).mono ?_;rintro e w' ⟨v,he,ho,S',h1,h2,h3⟩;obtain ⟨h4,t1,h5⟩:=h.tid.getS s hr;rcases h4 with h4|⟨h4,hQ⟩
 ·rw [h4] at he ho;exact ⟨0,r,_,v,S',he,ho,h3,⟨h1,R.flat t1,t1,(zhv _ _ _ _).trans h.pk⟩,h2,h5, .inl ⟨rfl,rfl⟩⟩
 ·rw [h4] at he ho;exact ⟨5,[],_,v,S',he,ho,h3,⟨h1,R.flat t1,t1,(zhv _ _ _ _).trans h.pk⟩,h2,h5, .inr ⟨rfl,rfl,hQ⟩⟩
theorem x_len (PK:PageOk) (h:ExS K w0 B N Q A C p V ns S w) (hZ:K.Z w0) (hS:Sizes w0) (hN:N≤4096) (b:StrAt w sb B.pb nm size) (hb:¬ S sb) (s:IsS V nm size rs) :
 Calls Tryz.prog 43 #[.pointer (some ⟨sb,0,none⟩)] w fun e w'=>∃ E n q S',e = .returned (.tuple #[.int .i64 ((n:Nat):Int), .int .i64 ((E:Nat):Int)])∧ExS K w0 B N Q A C q V ns S' w'∧Turns w w' S S'∧Still p q none∧
  ((E=0∧n=rs.length)∨(E=5∧n=0∧Q<4*(A*C)+4)):=by
 have R:=h.runs.lenS h.pj.dok nm size;refine (zpT PK h.pj hZ hS h.runs hN (by omega) b hb (h.len24 s) s.siz (h.few s)).mono ?_;rintro e w' ⟨he,S',h1,h2⟩;obtain ⟨h4,t1,h5⟩:=h.tid.lenS s;rcases h4 with h4|⟨h4,hQ⟩
 ·rw [h4] at he;exact ⟨0,_,_,S',he,⟨h1,R.flat t1,t1,(znR _ _ _).trans h.pk⟩,h2,h5, .inl ⟨rfl,rfl⟩⟩
 ·rw [h4] at he;exact ⟨5,_,_,S',he,⟨h1,R.flat t1,t1,(znR _ _ _).trans h.pk⟩,h2,h5, .inr ⟨rfl,rfl,hQ⟩⟩
theorem zew (h:ExS K w0 B N Q A C p V ns S w) (hZ:K.Z w0) (hn:zaf nm=true) (hm:nm∉ns) (hA:ns.length<A) :
 Calls Tryz.prog 47 #[.pointer (some ⟨B.pb,0,none⟩), .string (str nm)] w fun e w'=>∃ q S',e = .returned (.int .i64 0)∧ExS K w0 B N Q A C q (upV V nm (some [])) (nm::ns) S' w'∧Turns w w' S S'∧Still p q (some nm)∧Tidy q nm:=by
 have h24:nm.length≤maxLen:=by
  have:(24:Nat)≤maxLen:=by decide
  have hn2:=hn;unfold zaf at hn2;simp only [Bool.and_eq_true,decide_eq_true_eq] at hn2;omega
 have R:=h.runs.create h.pj.dok nm;refine (znG h.pj hZ nm h24).mono ?_;rintro e w' ⟨he,S',h1,h2⟩;obtain ⟨e1,t1,s1,d1⟩:=h.tid.create hn hm hA;exact ⟨_,S',by rw [he,e1];rfl,⟨h1,R.flat t1,t1,(znQ _ _).trans h.pk⟩,h2,s1,d1⟩
theorem znT (h:ExS K w0 B N Q A C p V ns S w) (hZ:K.Z w0) (hN:N≤4096) (hm:nm∈ns) :
 Calls Tryz.prog 93 #[.pointer (some ⟨B.pb,0,none⟩), .string (str nm)] w fun e w'=>∃ q S',e = .returned (.int .i64 0)∧ExS K w0 B N Q A C q (upV V nm none) (ns.erase nm) S' w'∧Turns w w' S S'∧Still p q (some nm):=by
 obtain ⟨ps,hV⟩:=h.tid.get hm;have h24:nm.length≤maxLen:=by
  have:=h.tid.heal.name24 hV;have:(24:Nat)≤maxLen:=by decide
  omega
 have R:=h.runs.drop h.pj.dok nm;refine (zrg h.pj hZ h.runs hN (by omega) nm h24).mono ?_;rintro e w' ⟨he,S',h1,h2⟩;obtain ⟨e1,t1,s1⟩:=h.tid.drop hm;exact ⟨_,S',by rw [he,e1];rfl,⟨h1,R.flat t1,t1,(zrr _ _).trans h.pk⟩,h2,s1⟩
theorem zlb (PK:PageOk) (h:ExS K w0 B N Q A C p V ns S w) (hZ:K.Z w0) (hS:Sizes w0) (hm:nm∈ns) :
 Calls Tryz.prog 121 #[.pointer (some ⟨B.pb,0,none⟩), .string (str nm)] w fun e w'=>∃ E q S',e = .returned (.int .i64 ((E:Nat):Int))∧ExS K w0 B N Q A C q V ns S' w'∧Turns w w' S S'∧Still p q (some nm)∧
  ((E=0∧Tidy q nm)∨(E=5∧Q<4*(A*C)+4)):=by
 obtain ⟨ps,hV⟩:=h.tid.get hm;have h24:nm.length≤maxLen:=by
  have:=h.tid.heal.name24 hV;have:(24:Nat)≤maxLen:=by decide
  omega
 have R:=h.runs.flush h.pj.dok nm;refine (zpL PK h.pj hZ hS h.runs (by omega) nm h24).mono ?_;rintro e w' ⟨he,S',h1,h2⟩;obtain ⟨h4,t1,h5⟩:=h.tid.flush hm;rcases h4 with ⟨e1,d1⟩|⟨e1,hQ⟩
 ·exact ⟨0,_,S',by rw [he,e1],⟨h1,R.flat t1,t1,(zjI _ _).trans h.pk⟩,h2,h5, .inl ⟨rfl,d1⟩⟩
 ·exact ⟨5,_,S',by rw [he,e1],⟨h1,R.flat t1,t1,(zjI _ _).trans h.pk⟩,h2,h5, .inr ⟨rfl,hQ⟩⟩
end
end Go.Proofs.YtjpldnjldindkaaGreatDoor
