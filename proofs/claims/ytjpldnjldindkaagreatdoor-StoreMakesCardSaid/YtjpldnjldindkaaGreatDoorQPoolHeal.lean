/- A pool over a disk with room, none of whose frames is pinned, is a view of files as lists of pages: what is written back, and a frame that is taken, turn nothing of it. -/
import Derived.Test.YtjpldnjldindkaaGreatDoorQPoolCa
set_option linter.all false
set_option maxRecDepth 100000
namespace Go.Proofs.YtjpldnjldindkaaGreatDoor
open Go.RowKit
abbrev Vw:=List UInt8→Option (List (List UInt8))
def upV (V:Vw) (nm:List UInt8) (o:Option (List (List UInt8))):Vw:=fun x=>if x=nm then o else V x
def nmE (nm:List UInt8):Nat:=if zaf nm=false then 1 else 3
theorem zbF (nm:List UInt8):nmE nm≠0:=by unfold nmE; split<;>decide
def FileR (dl:List (List UInt8×List Nat)) (nm:List UInt8) (f:Fl) (ps:List (List UInt8)):Prop:=
 ∃ m,f.now.length=256*m∧m≤ps.length∧∀ (k:Nat) (x:List UInt8),ps[k]? = some x→k∉zaa dl nm→k<m∧za1 f k=pageB (tagN nm) k x
structure Heal (Q:Nat) (PN:List UInt8→Nat→Nat) (p:Pst) (V:Vw) (a b:Nat):Prop where
 off:p.d.off=false
 armed:p.d.armed=0
 q:Q≤p.d.q
 num:p.d.l.length≤a
 big:∀ f∈p.d.l,f.now.length≤256*b
 name:∀ nm ps,V nm=some ps→zaf nm=true
 short:∀ nm ps,V nm=some ps→ps.length≤b∧∀ x∈ps,x.length≤240
 gone:∀ nm,V nm=none→getF p.d.l nm=none
 has:∀ nm ps,V nm=some ps→∃ f,getF p.d.l nm=some f∧FileR p.dl nm f ps
 pins:∀ (i:Nat) (f:Frm),p.fr[i]? = some (some f)→f.pins=PN f.name f.k
 frm:∀ (i:Nat) (f:Frm),p.fr[i]? = some (some f)→∃ ps,V f.name=some ps∧ps[f.k]? = some f.b
 ok:PstOk p
section
variable {s:Ds} {nm:List UInt8} {f:Fl}
theorem zcJ (h:s.armed=0):goneS s=s:=by unfold goneS;rw [if_neg (by omega)]
theorem zba {l:List Fl} {f f':Fl} (h:getF l nm=some f) (hn:f'.name=nm):getF (setF l f') nm=some f':=by
 induction l with
 | nil=>simp [getF] at h
 | cons g l ih=>
  rw [zaI] at h;show getF ((if g.name=f'.name then f' else g)::setF l f') nm=_;rw [zaI];by_cases e:g.name=nm
  ·rw [if_pos (e.trans hn.symm),if_pos hn]
  ·rw [if_neg e] at h;have e3:¬ g.name=f'.name:=(fun e2=>e (e2.trans hn));simp only [if_neg e3,if_neg e];exact ih h
theorem zda {l:List Fl} {f' g:Fl} (h:g∈setF l f'):g=f'∨g∈l:=by
 obtain ⟨x,hx,rfl⟩:=List.mem_map.1 h;split
 ·exact .inl rfl
 ·exact .inr hx
theorem zdb (l:List Fl) (f:Fl):(setF l f).length=l.length:=by simp [setF]
theorem zrc {l:List Fl} {b:Nat} (h:∀ f∈l,f.now.length≤256*b):usedL l≤l.length*(4*b):=by
 induction l with
 | nil=>simp [usedL]
 | cons g l ih=>
  have h1:=ih (fun f hf=>h f (List.mem_cons_of_mem _ hf));have h2:=h g (List.mem_cons_self);have h3:sect g.now.length≤4*b:=by unfold sect;omega
  rw [zaM,List.length_cons,Nat.add_mul];omega
theorem zd9 (h:s.off=false) (hn:zaf nm=true) (hg:getF s.l nm=some f):sizeS s nm=(f.now.length,0):=by
 unfold sizeS;rw [h,hn,hg];simp
theorem zpG (h:s.off=false) (hg:getF s.l nm=none):sizeS s nm=(0,nmE nm):=by
 unfold sizeS nmE;rw [h,hg];cases zaf nm<;>simp
theorem zby (h:s.off=false) (hn:zaf nm=true) (hg:getF s.l nm=some f):zas s nm=(f.now.length/256,0):=by unfold zas;rw [zd9 h hn hg]
theorem zrd (h:s.off=false) (hn:zaf nm=true) (hg:getF s.l nm=some f) {m:Nat} (hm:f.now.length=256*m):openE s nm=0:=by
 unfold openE;rw [zd9 h hn hg,hm];simp
theorem zpH (h:s.off=false) (hg:getF s.l nm=none):openE s nm=nmE nm:=by
 unfold openE;rw [zpG h hg,if_pos (zbF nm)]
theorem zre (h:s.off=false) (hn:zaf nm=true) (hg:getF s.l nm=some f) {m k:Nat} (hm:f.now.length=256*m) (hk:k<m) {x:List UInt8} (hx:x.length≤240) (hp:za1 f k=pageB (tagN nm) k x):readP s nm (k:Int)=(x,0):=by
 have h0:¬ ((k:Int)<0):=by omega
 have e1:((k:Int)*256).toNat=256*k:=by omega
 have hr:readS s nm ((k:Int)*256) 256=(za1 f k,0):=by
  unfold readS;rw [h,hn,hg,if_neg (by simp),if_neg (by rintro (h5|h5|h5);cases h5;omega;omega)];simp only;rw [e1];rfl
 unfold readP;rw [if_neg h0,zd9 h hn hg,if_neg (by simp),if_neg (by simp only;omega),hr,hp];simp only [Int.toNat_natCast];rw [if_pos (zi6 _ _ _ hx),zdP _ _ _ hx]
theorem zpI (h:s.off=false) (ha:s.armed=0) (hn:zaf nm=true) (hg:getF s.l nm=some f) {m k:Nat} (hm:f.now.length=256*m) (hk:k≤m) (hm2:m≤1000) {x:List UInt8} (hx:x.length≤240) (hu:usedL s.l+4≤s.q) :
 zaG s nm (k:Int) x=({s with l:=setF s.l (zaU f (256*k) (pageB (tagN nm) k x))},0):=by
 have h0:¬ ((k:Int)<0):=by omega
 have e1:((k:Int)*256).toNat=256*k:=by omega
 have hl:=zaF (tagN nm) k hx;unfold zaG;rw [if_neg h0,if_neg (by omega),zd9 h hn hg,if_neg (by simp),if_neg (by simp only;omega)];unfold zaN;rw [zcJ ha,h,hn,hg,if_neg (by simp),if_neg (by rintro (h5|h5);cases h5;omega)];simp only [Int.toNat_natCast];rw [e1,hl,if_neg (by omega),if_neg (by omega),if_neg (by unfold sect;omega)];simp [h]
end
theorem zcX {dl:List (List UInt8×List Nat)} {nm:List UInt8} {f:Fl} {ps:List (List UInt8)} (h:FileR dl nm f ps):f.now.length=256*(f.now.length/256)∧f.now.length/256≤ps.length∧∀ (k:Nat) (x:List UInt8),ps[k]? = some x→k∉zaa dl nm→k<f.now.length/256∧za1 f k=pageB (tagN nm) k x:=by
 obtain ⟨m,h1,h2,h3⟩:=h;have e:f.now.length/256=m:=by omega
 rw [e];exact ⟨h1,h2,h3⟩
theorem PstOk.dls {p:Pst} (h:PstOk p) {d:Ds} {dl:List (List UInt8×List Nat)} (hd:DlOk dl) (hs:∀ nm x,x∈zaa dl nm→x∈zaa p.dl nm):PstOk {p with d:=d,dl:=dl}:=
 ⟨h.n,h.hand,h.one,hd,fun nm k hk=>h.held nm k (hs nm k hk),h.names,h.mostR,h.mostP⟩
theorem zaT {dl:List (List UInt8×List Nat)} (h:DlOk dl) (nm:List UInt8) (k:Nat) (nm':List UInt8) (x:Nat):x∈zaa (zaQ dl nm k) nm'↔x∈zaa dl nm'∧¬ (nm'=nm∧x=k):=by
 rw [zb4];by_cases e:nm'=nm
 ·subst e;rw [if_pos rfl,zcF (h.rise_of _)];constructor
  ·rintro ⟨h1,h2⟩;exact ⟨h2,fun e=>h1 e.2⟩
  ·rintro ⟨h1,h2⟩;exact ⟨fun e=>h2 ⟨rfl,e⟩,h1⟩
 ·rw [if_neg e];exact ⟨fun h=>⟨h,fun e2=>e e2.1⟩,fun h=>h.1⟩
section
variable {Q:Nat} {PN:List UInt8→Nat→Nat} {p:Pst} {V:Vw} {a b:Nat}
theorem Heal.used (h:Heal Q PN p V a b) (hab:4*(a*b)+4≤Q):usedL p.d.l+4≤p.d.q:=by
 have h1:=zrc h.big;have h2:p.d.l.length*(4*b)≤a*(4*b):=Nat.mul_le_mul_right _ h.num;have h3:a*(4*b)=4*(a*b):=Nat.mul_left_comm a 4 b;have:=h.q;omega
theorem zrf (h:Heal Q PN p V a b) (hab:4*(a*b)+4≤Q) (hb:b≤1000) {i:Nat} {f:Frm} (hf:p.fr[i]? = some (some f)) (hk:f.k≤(zas p.d f.name).1) :
 (zaG p.d f.name (f.k:Int) f.b).2=0∧Heal Q PN {p with d:=(zaG p.d f.name (f.k:Int) f.b).1,dl:=zaQ p.dl f.name f.k} V a b∧
 (zas (zaG p.d f.name (f.k:Int) f.b).1 f.name).1=max (zas p.d f.name).1 (f.k+1)∧
 ∀ nm',nm'≠f.name→getF (zaG p.d f.name (f.k:Int) f.b).1.l nm'=getF p.d.l nm':=by
 obtain ⟨ps,hV,hp⟩:=h.frm i f hf;obtain ⟨g,hg,hR⟩:=h.has _ _ hV;obtain ⟨hm,hms,hpg⟩:=zcX hR;have hn:=h.name _ _ hV;have hsh:=h.short _ _ hV;have hkl:f.k<ps.length:=(zI9.1 hp).1;have hx:f.b.length≤240:=hsh.2 _ (List.mem_of_getElem? hp);rw [zby h.off hn hg] at hk ⊢;simp only at hk ⊢;have hw:=zpI h.off h.armed hn hg hm hk (by omega) hx (h.used hab);rw [hw];have hl:=zaF (tagN f.name) f.k hx;have hgn:=zbq hg;generalize hf':zaU g (256*f.k) (pageB (tagN f.name) f.k f.b)=g' at *;have hlen:g'.now.length=max g.now.length (256*f.k+256):=by rw [←hf'];exact zgv (by omega) hl
 have hpage:∀ i,za1 g' i=if i=f.k then pageB (tagN f.name) f.k f.b else za1 g i:=by rw [←hf'];exact zfC (by omega) hl
 have hgn':g'.name=f.name:=by rw [←hf'];exact hgn
 have hdiv:g'.now.length/256=max (g.now.length/256) (f.k+1):=by omega
 refine ⟨rfl,⟨h.off,h.armed,h.q,by rw [show (setF p.d.l g').length=_ from zdb _ _];exact h.num,fun x hx=>?_,h.name,h.short,fun nm hnm=>?_,fun nm qs hq=>?_,h.pins,h.frm,?_⟩,?_,fun nm' hne=>za6 _ _ _ (by rw [hgn'];exact fun e=>hne e.symm)⟩
 ·rcases zda hx with rfl|hx
  ·have:=h.big _ (zaR hg);omega
  ·exact h.big x hx
 ·show getF (setF p.d.l g') nm=none;rw [za6 _ _ _ (by rw [hgn'];intro e;rw [←e,hV] at hnm;cases hnm)];exact h.gone nm hnm
 ·by_cases e:nm=f.name
  ·subst e;obtain rfl:=Option.some.inj (hV.symm.trans hq);refine ⟨g',zba hg hgn',g'.now.length/256,by omega,by omega,fun k x hx hd=>?_⟩;rw [zaT h.ok.dl] at hd;rw [hpage,hdiv];by_cases ek:k=f.k
   ·subst ek;obtain rfl:=Option.some.inj (hp.symm.trans hx);exact ⟨by omega,by rw [if_pos rfl]⟩
   ·obtain ⟨h1,h2⟩:=hpg k x hx (fun h3=>hd ⟨h3,fun e=>ek e.2⟩);exact ⟨by omega,by rw [if_neg ek];exact h2⟩
  ·obtain ⟨f2,h1,m,h2,h3,h4⟩:=h.has nm qs hq;refine ⟨f2,?_,m,h2,h3,fun k x hx hd=>h4 k x hx (fun h5=>hd ((zaT h.ok.dl _ _ _ _).2 ⟨h5,fun e2=>e e2.1⟩))⟩;rw [←h1];exact za6 _ _ _ (by rw [hgn'];exact fun e2=>e e2.symm)
 ·exact h.ok.dls (h.ok.dl.clean _ _) (fun nm x hx=>((zaT h.ok.dl _ _ _ _).1 hx).1)
 ·rw [zby (s:={p.d with l:=setF p.d.l g'}) h.off hn (zba hg hgn')];exact hdiv
end
theorem zhr {Q:Nat} {PN:List UInt8→Nat→Nat} {V:Vw} {a b:Nat} (hab:4*(a*b)+4≤Q) (hb:b≤1000) {nm:List UInt8}:∀ (ks:List Nat) {p:Pst},Heal Q PN p V a b→ks.Pairwise (· < ·)→(∀ k∈ks,k∈zaa p.dl nm)→
 (∀ k∈ks,∀ j,j<k→j∈zaa p.dl nm→(zas p.d nm).1≤j→j∈ks)→
 (wbS p (ks.filterMap (frmOf p.fr nm))).2=0∧Heal Q PN (wbS p (ks.filterMap (frmOf p.fr nm))).1 V a b∧
 (∀ nm' x,x∈zaa (wbS p (ks.filterMap (frmOf p.fr nm))).1.dl nm'↔x∈zaa p.dl nm'∧¬ (nm'=nm∧x∈ks))∧
 (∀ nm',nm'≠nm→getF (wbS p (ks.filterMap (frmOf p.fr nm))).1.d.l nm'=getF p.d.l nm')
 | [],p,h,_,_,_=>⟨rfl,h,fun nm' x=>by simp [wbS],fun _ _=>rfl⟩
 | k::ks,p,h,hr,hd,hc=>by
  have hkd:=hd k (List.mem_cons_self);obtain ⟨f,hf⟩:=zeZ (h.ok.held nm k hkd);obtain ⟨i,-,hi,hn,hk⟩:=zek hf;subst hn;subst hk;obtain ⟨hr1,hr2⟩:=List.pairwise_cons.1 hr;obtain ⟨ps,hV,hp⟩:=h.frm i f hi;obtain ⟨g,hg,hR⟩:=h.has _ _ hV;obtain ⟨hm,hms,hpg⟩:=zcX hR;have hn:=h.name _ _ hV;have hpp:(zas p.d f.name).1=g.now.length/256:=by rw [zby h.off hn hg]
  have hkl:f.k<ps.length:=(zI9.1 hp).1;have hle:f.k≤(zas p.d f.name).1:=by
   rw [hpp];by_cases h1:f.k≤g.now.length/256
   ·exact h1
   ·exfalso;have hlt:g.now.length/256<ps.length:=(by omega);have h2:g.now.length/256∈zaa p.dl f.name:=by
     refine (Classical.byContradiction fun h3=>?_);have:=(hpg _ _ (zG9 hlt) h3).1;omega
    have h3:=hc f.k (List.mem_cons_self) _ (by omega) h2 (by omega);rcases List.mem_cons.1 h3 with h4|h4
    ·omega
    ·have:=hr1 _ h4;omega
  obtain ⟨w1,w2,w3,w4⟩:=zrf h hab hb hi hle;have hfm:(f.k::ks).filterMap (frmOf p.fr f.name)=f::ks.filterMap (frmOf p.fr f.name):=List.filterMap_cons_some hf;rw [hfm,wbS,if_pos w1];obtain ⟨q1,q2,q3,q4⟩:=zhr hab hb ks w2 hr2 (fun j hj=>(zaT h.ok.dl _ _ _ _).2 ⟨hd j (List.mem_cons_of_mem _ hj),fun e=>by have:=hr1 j hj;omega⟩) (fun j hj x hx hxd hxm=>by
   rw [w3] at hxm;obtain ⟨h5,h6⟩:=(zaT h.ok.dl _ _ _ _).1 hxd;rcases List.mem_cons.1 (hc j (List.mem_cons_of_mem _ hj) x hx h5 (by omega)) with h7|h7
   ·exact absurd ⟨rfl,h7⟩ h6
   ·exact h7)
  refine ⟨q1,q2,fun nm' x=>?_,fun nm' hne=>(q4 nm' hne).trans (w4 nm' hne)⟩;rw [q3,show ({p with d:=(zaG p.d f.name (f.k:Int) f.b).1,dl:=zaQ p.dl f.name f.k}:Pst).dl=zaQ p.dl f.name f.k from rfl,zaT h.ok.dl,List.mem_cons];constructor
  ·rintro ⟨⟨h1,h2⟩,h3⟩;exact ⟨h1,fun ⟨e,h4⟩=>h4.elim (fun h5=>h2 ⟨e,h5⟩) (fun h5=>h3 ⟨e,h5⟩)⟩
  ·rintro ⟨h1,h2⟩;exact ⟨⟨h1,fun ⟨e,h3⟩=>h2 ⟨e, .inl h3⟩⟩,fun ⟨e,h3⟩=>h2 ⟨e, .inr h3⟩⟩
def hops (n t h:Nat):Nat:=if h≤t then t-h else t+n-h
theorem zh8 {n t h:Nat} (ht:t<n) (hh:h<n) (hne:h≠t):hops n t ((h+1)%n)+1=hops n t h:=by
 by_cases e:h+1=n
 ·rw [e,Nat.mod_self];unfold hops;rw [if_pos (Nat.zero_le _),if_neg (by omega)];omega
 ·rw [Nat.mod_eq_of_lt (by omega)];unfold hops;by_cases e2:h<t
  ·rw [if_pos (by omega),if_pos (by omega)];omega
  ·rw [if_neg (by omega),if_neg (by omega)];omega
theorem znA {n t:Nat} (ht:t<n):hops n t ((t+1)%n)+1≤n:=by
 by_cases e:t+1=n
 ·rw [e,Nat.mod_self];unfold hops;rw [if_pos (Nat.zero_le _)];omega
 ·rw [Nat.mod_eq_of_lt (by omega)];unfold hops;rw [if_neg (by omega)];omega
def Brim (fr:List (Option Frm)):Prop:=∀ i,i<fr.length→∃ f,fr[i]? = some (some f)
theorem Brim.set {fr:List (Option Frm)} (h:Brim fr) (j:Nat) (g:Frm):Brim (fr.set j (some g)):=fun i hi=>by
 rw [List.length_set] at hi;obtain ⟨f,hf⟩:=h i hi;rw [List.getElem?_set];split
 ·exact ⟨g,by rw [if_pos (by omega)]⟩
 ·exact ⟨f,hf⟩
theorem zl7 (m:Nat):∀ (fr:List (Option Frm)) (h t:Nat) (f:Frm),h<fr.length→Brim fr→fr[t]? = some (some f)→f.pins=0→f.used=false→hops fr.length t h<m→(seekS m fr h).2.2=true:=by
 induction m with
 | zero=>intro fr h t f _ _ _ _ _ h6;omega
 | succ m ih=>
  intro fr h t f h1 h2 h3 h4 h5 h6;have ht:=(zI9.1 h3).1;obtain ⟨g,hg⟩:=h2 h h1;rw [zel m fr h hg];have hm:(h+1)%fr.length<fr.length:=Nat.mod_lt _ (by omega);by_cases e:h=t
  ·subst e;obtain rfl:=Option.some.inj (Option.some.inj (hg.symm.trans h3));rw [if_neg (by omega),if_neg (by rw [h5];simp)]
  ·have hn:=zh8 ht h1 e;split
   ·exact ih fr _ t f hm h2 h3 h4 h5 (by omega)
   ·split
    ·refine ih _ _ t f (by rw [List.length_set];exact hm) (h2.set h _) ?_ h4 h5 (by rw [List.length_set];omega);rw [List.getElem?_set,if_neg e];exact h3
    ·rfl
theorem zgL (m:Nat):∀ (fr:List (Option Frm)) (h t:Nat) (f:Frm),h<fr.length→Brim fr→fr[t]? = some (some f)→f.pins=0→hops fr.length t h+fr.length<m→(seekS m fr h).2.2=true:=by
 induction m with
 | zero=>intro fr h t f _ _ _ _ h6;omega
 | succ m ih=>
  intro fr h t f h1 h2 h3 h4 h6;have ht:=(zI9.1 h3).1;obtain ⟨g,hg⟩:=h2 h h1;rw [zel m fr h hg];have hm:(h+1)%fr.length<fr.length:=Nat.mod_lt _ (by omega);by_cases e:h=t
  ·subst e;obtain rfl:=Option.some.inj (Option.some.inj (hg.symm.trans h3));rw [if_neg (by omega)];split
   ·have hb:=znA ht;refine zl7 m _ _ h {g with used:=false} (by rw [List.length_set];exact hm) (h2.set h _) ?_ h4 rfl (by rw [List.length_set];omega);rw [List.getElem?_set,if_pos rfl,if_pos h1]
   ·rfl
  ·have hn:=zh8 ht h1 e;split
   ·exact ih fr _ t f hm h2 h3 h4 (by omega)
   ·split
    ·refine ih _ _ t f (by rw [List.length_set];exact hm) (h2.set h _) ?_ h4 (by rw [List.length_set];omega);rw [List.getElem?_set,if_neg e];exact h3
    ·rfl
theorem zk6 {n t h:Nat} (ht:t<n) (hh:h<n):hops n t h<n:=by unfold hops; split<;>omega
def Free (fr:List (Option Frm)):Prop:=resN fr<fr.length∨∃ (i:Nat) (f:Frm),fr[i]? = some (some f)∧f.pins=0
theorem zhs {fr:List (Option Frm)} (h:¬ resN fr<fr.length) {i:Nat} (hi:i<fr.length):∃ f,fr[i]? = some (some f):=by
 have h1:resN fr=fr.length:=Nat.le_antisymm (zgD fr) (by omega);unfold resN at h1;rw [List.countP_eq_length] at h1;have:=h1 fr[i] (List.getElem_mem hi);obtain ⟨f,hf⟩:=Option.isSome_iff_exists.1 this;exact ⟨f,by rw [zG9 hi,hf]⟩
section
variable {Q:Nat} {PN:List UInt8→Nat→Nat} {p:Pst} {V:Vw} {a b:Nat}
theorem Heal.frames (h:Heal Q PN p V a b) {q:Pst} (ok:PstOk q) (hd:q.d=p.d) (hdl:q.dl=p.dl) (hf:∀ (i:Nat) (f:Frm),q.fr[i]? = some (some f)→∃ (j:Nat) (g:Frm),p.fr[j]? = some (some g)∧f.name=g.name∧f.k=g.k∧f.b=g.b∧f.pins=g.pins):Heal Q PN q V a b:=by
 refine ⟨by rw [hd];exact h.off,by rw [hd];exact h.armed,by rw [hd];exact h.q,by rw [hd];exact h.num,by rw [hd];exact h.big,h.name,h.short,by rw [hd];exact h.gone,by rw [hd,hdl];exact h.has,fun i f hi=>?_,fun i f hi=>?_,ok⟩
 ·obtain ⟨j,g,hg,e1,e2,-,e⟩:=hf i f hi;rw [e,e1,e2];exact h.pins j g hg
 ·obtain ⟨j,g,hg,e1,e2,e3,-⟩:=hf i f hi;rw [e1,e2,e3];exact h.frm j g hg
theorem zh9 (h:Heal Q PN p V a b) (hab:4*(a*b)+4≤Q) (hb:b≤1000) (hfree:Free p.fr):(takeS p).2.2=0∧Heal Q PN (takeS p).1 V a b:=by
 have T:=zbM h.ok
 revert T
 unfold takeS;split
 ·intro _;exact ⟨rfl,h⟩
 ·rename_i hfull;obtain ⟨h1,h2,h3⟩:=zca (2*p.fr.length) p.fr p.hand;have hS:=h.ok.seek (2*p.fr.length);have hl:=zem (2*p.fr.length) p.fr p.hand;have hn:=h.ok.n;have hfd:(seekS (2*p.fr.length) p.fr p.hand).2.2=true:=by
   rcases hfree with h5|⟨t,f,ht,hp⟩
   ·exact absurd h5 hfull
   ·have:=zk6 (zI9.1 ht).1 h.ok.hand;exact zgL _ _ _ t f h.ok.hand (fun i hi=>zhs hfull hi) ht hp (by omega)
  generalize seekS (2*p.fr.length) p.fr p.hand=r at *;rw [if_neg (by rw [hfd];simp)];obtain ⟨f,e,hp,hu⟩:=h3 hfd;rw [e];simp only;have H1:Heal Q PN {p with fr:=r.1,hand:=r.2.1} V a b:=h.frames hS rfl rfl (fun i f hi=>by
   obtain ⟨u,hu⟩:=zgB h1 hi;exact ⟨i,_,hu,rfl,rfl,rfl,rfl⟩)
  have key:(saveS {p with fr:=r.1,hand:=r.2.1} f).2=0∧Heal Q PN (saveS {p with fr:=r.1,hand:=r.2.1} f).1 V a b:=by
   unfold saveS;split
   ·rename_i hd;obtain ⟨ps,hV,hpp⟩:=H1.frm _ f e;obtain ⟨g,hg,hR⟩:=H1.has _ _ hV;have hpg:=zby H1.off (H1.name _ _ hV) hg;rw [if_neg (by rw [hpg];simp)];have hri:=H1.ok.dl.rise_of f.name;have hw:=zhr hab hb (nm:=f.name) (saved (zaa p.dl f.name) (zas p.d f.name).1 f.k) H1 ?_ ?_ ?_
    ·exact ⟨hw.1,hw.2.1⟩
    ·unfold saved;rw [List.pairwise_append];refine ⟨(hri.sublist (List.take_sublist _ _)).sublist (List.drop_sublist _ _),List.pairwise_singleton _ _,fun x hx y hy=>?_⟩;rw [List.mem_singleton] at hy;subst hy;exact zbT hri (List.mem_of_mem_drop hx)
    ·intro k hk;unfold saved at hk;rcases List.mem_append.1 hk with hk|hk
     ·exact List.mem_of_mem_take (List.mem_of_mem_drop hk)
     ·rw [List.mem_singleton] at hk;subst hk;exact hd
    ·intro k hk j hj hjd hjm;have hkf:k≤f.k:=by
      unfold saved at hk;rcases List.mem_append.1 hk with hk|hk
      ·exact Nat.le_of_lt (zbT hri (List.mem_of_mem_drop hk))
      ·rw [List.mem_singleton] at hk;omega
     unfold saved;refine List.mem_append.2 (.inl ?_);have ht:(zaa p.dl f.name |>.take (below (zaa p.dl f.name) f.k)).Pairwise (· < ·):=hri.sublist (List.take_sublist _ _);have hjt:j∈(zaa p.dl f.name).take (below (zaa p.dl f.name) f.k):=by
      obtain ⟨x,hx⟩:=List.mem_iff_getElem?.1 (show j∈zaa p.dl f.name from hjd);have:=(za9 hri f.k hx).2 (by omega);exact List.mem_iff_getElem?.2 ⟨x,by rw [List.getElem?_take,if_pos this];exact hx⟩
     obtain ⟨x,hx⟩:=List.mem_iff_getElem?.1 hjt;have hb2:¬ x<below ((zaa p.dl f.name).take (below (zaa p.dl f.name) f.k)) (zas p.d f.name).1:=by
      rw [za9 ht _ hx];have:(zas p.d f.name).1≤j:=hjm;omega
     exact List.mem_iff_getElem?.2 ⟨x-below ((zaa p.dl f.name).take (below (zaa p.dl f.name) f.k)) (zas p.d f.name).1,by rw [List.getElem?_drop,show below ((zaa p.dl f.name).take (below (zaa p.dl f.name) f.k)) (zas p.d f.name).1+(x-below ((zaa p.dl f.name).take (below (zaa p.dl f.name) f.k)) (zas p.d f.name).1)=x by omega];exact hx⟩
   ·exact ⟨rfl,H1⟩
  obtain ⟨e1,-,-,-⟩:=zcf {p with fr:=r.1,hand:=r.2.1} f;generalize saveS {p with fr:=r.1,hand:=r.2.1} f=q at *;obtain ⟨k1,k2⟩:=key;rw [if_neg (by omega)];intro T;refine ⟨rfl,k2.frames T.ok rfl rfl (fun i f hi=>?_)⟩;have hi:(q.1.fr.set r.2.1 none)[i]? = some (some f):=hi;rw [List.getElem?_set] at hi;split at hi
  ·split at hi<;>cases hi
  ·exact ⟨i,f,hi,rfl,rfl,rfl,rfl⟩
theorem znB (h:Heal Q PN p V a b) (hab:4*(a*b)+4≤Q) (hb:b≤1000) (hfree:Free p.fr) {nm:List UInt8} {k:Nat} (hk:some (nm,k)∉zac p.fr) (hPN:PN nm k=0) {ps:List (List UInt8)} (hV:V nm=some ps) {t:List UInt8} (ht:ps[k]? = some t) :
 (holdS p nm k t).2.2=0∧Heal Q PN (holdS p nm k t).1 V a b:=by
 have hnm:nm.length≤24:=by
  have:=h.name _ _ hV;unfold zaf at this;simp only [Bool.and_eq_true,decide_eq_true_eq] at this;exact this.1.2
 obtain ⟨S,-⟩:=za2 h.ok hk hnm t;obtain ⟨t1,t2⟩:=zh9 h hab hb hfree
 revert S
 unfold holdS;generalize takeS p=q at *;simp only;rw [if_neg (by omega)];intro S;refine ⟨rfl,⟨t2.off,t2.armed,t2.q,t2.num,t2.big,t2.name,t2.short,t2.gone,t2.has,fun i f hi=>?_,fun i f hi=>?_,S.ok⟩⟩
 ·have hi:(q.1.fr.set q.2.1 (some ⟨nm,k,t,0,false⟩))[i]? = some (some f):=hi;rw [List.getElem?_set] at hi;split at hi
  ·split at hi
   ·cases hi;exact hPN.symm
   ·cases hi
  ·exact t2.pins i f hi
 ·have hi:(q.1.fr.set q.2.1 (some ⟨nm,k,t,0,false⟩))[i]? = some (some f):=hi;rw [List.getElem?_set] at hi;split at hi
  ·split at hi
   ·cases hi;exact ⟨ps,hV,ht⟩
   ·cases hi
  ·exact t2.frm i f hi
theorem on_at {q:Pst} {i:Nat} {g:Frm→Frm} {j:Nat} {f:Frm} (h:(onFr q i g).fr[j]? = some (some f)):∃ f0,q.fr[j]? = some (some f0)∧f=if i=j then g f0 else f0:=by
 have h:(q.fr.modify i (Option.map g))[j]? = some (some f):=h;rw [List.getElem?_modify] at h;cases e:q.fr[j]? with
 | none=>rw [e] at h;cases h
 | some o=>
  rw [e] at h;cases o with
  | none=>simp at h
  | some f0=>
   refine ⟨f0,rfl,?_⟩;simp only [Option.map_eq_map,Option.map_some,Option.some.injEq] at h;split at h
   ·rename_i h1;rw [if_pos h1];simpa using h.symm
   ·rename_i h1;rw [if_neg h1];simpa using h.symm
theorem Heal.use (h:Heal Q PN p V a b) (i:Nat):Heal Q PN (onFr p i useF) V a b:=by
 have ep:pinN (onFr p i useF).fr=pinN p.fr:=zcn (g:=useF) (fun _=>rfl) i;refine h.frames (h.ok.on (g:=useF) (fun _=>rfl) (fun _=>rfl) i p.mostP (by rw [ep];exact h.ok.mostP)) rfl rfl (fun j f hj=>?_);obtain ⟨f0,h1,rfl⟩:=on_at hj;refine ⟨j,f0,h1,?_⟩;split<;>exact ⟨rfl,rfl,rfl,rfl⟩
theorem zgM (h:Heal Q PN p V a b) {nm:List UInt8} {k:Nat} (hk:some (nm,k)∉zac p.fr) {ps:List (List UInt8)} (hV:V nm=some ps) {t:List UInt8} (ht:ps[k]? = some t):readP p.d nm (k:Int)=(t,0):=by
 obtain ⟨g,hg,m,hm,hms,hpg⟩:=h.has _ _ hV;obtain ⟨h1,h2⟩:=hpg k t ht (fun hd=>hk (h.ok.held nm k hd));exact zre h.off (h.name _ _ hV) hg hm h1 ((h.short _ _ hV).2 _ (List.mem_of_getElem? ht)) h2
theorem zev {q:Pst} {i:Nat} {f:Frm} (h:q.fr[i]? = some (some f)) (g:Frm→Frm):textF (onFr q i g).fr i=(g f).b:=by
 rw [zcb h];unfold textF;rw [List.getElem?_set,if_pos rfl,if_pos (zI9.1 h).1]
theorem zl8 (h:Heal Q PN p V a b) (hab:4*(a*b)+4≤Q) (hb:b≤1000) {nm:List UInt8} {k:Nat} (hnk:some (nm,k)∉zac p.fr→PN nm k=0∧Free p.fr) {ps:List (List UInt8)} (hV:V nm=some ps) {t:List UInt8} (ht:ps[k]? = some t) :
 (zav p nm k).2.2=0∧Heal Q PN (zav p nm k).1 V a b∧textF (zav p nm k).1.fr (zav p nm k).2.1=t:=by
 unfold zav;cases e:p.fr.findIdx? (isAt nm k) with
 | some i=>
  obtain ⟨f,hf,h1,h2⟩:=zaX e;obtain ⟨qs,hq,hx⟩:=h.frm i f hf;rw [h1] at hq;obtain rfl:=Option.some.inj (hV.symm.trans hq);rw [h2] at hx;obtain rfl:=Option.some.inj (ht.symm.trans hx);exact ⟨rfl,h.use i,zev hf useF⟩
 | none=>
  have hk:=idx_none.1 e;simp only;rw [zgM h hk hV ht,if_neg (by simp)];have hnm:nm.length≤24:=by
   have:=h.name _ _ hV;unfold zaf at this;simp only [Bool.and_eq_true,decide_eq_true_eq] at this;exact this.1.2
  obtain ⟨-,hT⟩:=za2 h.ok hk hnm t;obtain ⟨q1,q2⟩:=znB h hab hb (hnk hk).2 hk (hnk hk).1 hV ht;simp only;generalize holdS p nm k t=q at *;rw [if_neg (by omega)];exact ⟨rfl,q2.use _,zev (hT q1) useF⟩
theorem zbt (h:Heal Q PN p V a b) {nm:List UInt8} {ps:List (List UInt8)} (hV:V nm=some ps):findP p nm=(ps.length,0):=by
 obtain ⟨g,hg,hR⟩:=h.has _ _ hV;obtain ⟨hm,hms,hpg⟩:=zcX hR;have hn:=h.name _ _ hV;unfold findP;rw [zrd h.off hn hg hm,if_neg (by simp),zby h.off hn hg];simp only;congr 1
 have hlt:∀ x∈zaa p.dl nm,x<ps.length:=fun x hx=>by
  obtain ⟨i,f,hf,h1,h2⟩:=mem_keys.1 (h.ok.held nm x hx);obtain ⟨qs,hq,hxx⟩:=h.frm i f hf;rw [h1] at hq;obtain rfl:=Option.some.inj (hV.symm.trans hq);rw [h2] at hxx;exact (zI9.1 hxx).1
 have hge:ps.length=g.now.length/256∨(0<ps.length∧ps.length-1∈zaa p.dl nm):=by
  by_cases e:ps.length=g.now.length/256
  ·exact .inl e
  ·refine .inr ⟨by omega,Classical.byContradiction fun h3=>?_⟩;have hl:ps.length-1<ps.length:=(by omega);have:=(hpg _ _ (zG9 hl) h3).1;omega
 cases e:(zaa p.dl nm).getLast? with
 | none=>
  rw [List.getLast?_eq_none_iff] at e;simp only [Option.map_none,Option.getD_none];rcases hge with h1|⟨-,h1⟩
  ·omega
  ·rw [e] at h1;simp at h1
 | some y=>
  simp only [Option.map_some,Option.getD_some];have h1:=hlt y (List.mem_of_getLast? e);rcases hge with h2|⟨h0,h2⟩
  ·omega
  ·have:=zmX (h.ok.dl.rise_of nm) h2 e;omega
theorem zbW (h:Heal Q PN p V a b) {nm:List UInt8} (hV:V nm=none):findP p nm=(0,nmE nm):=by
 unfold findP;rw [zpH h.off (h.gone nm hV),if_pos (zbF nm)]
def readV (V:Vw) (nm:List UInt8) (k:Int):List UInt8×Nat:=
 match V nm with
 | none=>([],nmE nm)
 | some ps=>if k<0 then ([],1) else match ps[k.toNat]? with
  | none=>([],3)
  | some t=>(t,0)
theorem zpJ (h:Heal Q PN p V a b) (hab:4*(a*b)+4≤Q) (hb:b≤1000) (nm:List UInt8) (k:Int) (hnk:some (nm,k.toNat)∉zac p.fr→PN nm k.toNat=0∧Free p.fr):(getP p nm k).2.2=(readV V nm k).2∧Heal Q PN (getP p nm k).1 V a b∧((getP p nm k).2.2=0→textF (getP p nm k).1.fr (getP p nm k).2.1=(readV V nm k).1):=by
 unfold getP readV;cases e:V nm with
 | none=>
  rw [zbW h e];simp only;rw [if_pos (zbF nm)];exact ⟨rfl,h,fun h0=>absurd h0 (zbF nm)⟩
 | some ps=>
  rw [zbt h e];simp only;rw [if_neg (by simp)];by_cases h0:k<0
  ·rw [if_pos h0,if_pos h0];exact ⟨rfl,h,fun h0=>by cases h0⟩
  ·rw [if_neg h0,if_neg h0];cases e2:ps[k.toNat]? with
   | none=>
    rw [List.getElem?_eq_none_iff] at e2;rw [if_pos e2];exact ⟨rfl,h,fun h0=>by cases h0⟩
   | some t=>
    have:=(zI9.1 e2).1;rw [if_neg (by omega)];obtain ⟨b1,b2,b3⟩:=zl8 h hab hb hnk e e2;exact ⟨b1,b2,fun _=>b3⟩
theorem zia {V:Vw} {nm:List UInt8} {k:Int} (h:(readV V nm k).2≠0):(readV V nm k).1=[]:=by
 unfold readV at *;cases e:V nm with
 | none=>rfl
 | some ps=>
  rw [e] at h;simp only at h ⊢;split
  ·rfl
  ·rename_i h0;rw [if_neg h0] at h;split
   ·rfl
   ·rename_i t ht;rw [ht] at h;simp at h
theorem znC (h:Heal Q PN p V a b) (hab:4*(a*b)+4≤Q) (hb:b≤1000) (nm:List UInt8) (k:Int) (hnk:some (nm,k.toNat)∉zac p.fr→PN nm k.toNat=0∧Free p.fr):(zai p nm k).2=readV V nm k∧Heal Q PN (zai p nm k).1 V a b:=by
 obtain ⟨g1,g2,g3⟩:=zpJ h hab hb nm k hnk;unfold zai;generalize getP p nm k=q at *;simp only;split
 ·rename_i h0;refine ⟨?_,g2⟩;have:=zia (V:=V) (nm:=nm) (k:=k) (by rw [←g1];exact h0);exact Prod.ext this.symm g1
 ·rename_i h0;have h0:q.2.2=0:=(by omega);exact ⟨Prod.ext (g3 h0) (by rw [←g1,h0]),g2⟩
end
section
variable {Q:Nat} {PN:List UInt8→Nat→Nat} {p:Pst} {V:Vw} {a b:Nat}
theorem zap (V:Vw) (nm:List UInt8) (o:Option (List (List UInt8))):upV V nm o nm=o:=if_pos rfl
theorem zag (V:Vw) {nm x:List UInt8} (o:Option (List (List UInt8))) (h:x≠nm):upV V nm o x=V x:=if_neg h
theorem Heal.put (h:Heal Q PN p V a b) {nm:List UInt8} {ps:List (List UInt8)} (hV:V nm=some ps) {k:Nat} (hk:k≤ps.length) {t:List UInt8} (ht:t.length≤240) {p':Pst} (ok:PstOk p') (hd:p'.d=p.d) (hdl:p'.dl=soilD p.dl nm k)
 (hfr:∀ (j:Nat) (f:Frm),p'.fr[j]? = some (some f)→(f.name=nm∧f.k=k∧f.b=t∧f.pins=PN nm k)∨(∃ j':Nat,p.fr[j']? = some (some f)∧¬ (f.name=nm∧f.k=k))) :
 Heal Q PN p' (upV V nm (some (setP ps k t))) a (b+1):=by
 refine ⟨by rw [hd];exact h.off,by rw [hd];exact h.armed,by rw [hd];exact h.q,by rw [hd];exact h.num,fun f hf=>?_,fun x qs hq=>?_,fun x qs hq=>?_,fun x hx=>?_,fun x qs hq=>?_,fun j f hj=>?_,fun j f hj=>?_,ok⟩
 ·rw [hd] at hf;have:=h.big f hf;omega
 ·by_cases e:x=nm
  ·subst e;exact h.name _ _ hV
  ·rw [zag _ _ e] at hq;exact h.name _ _ hq
 ·by_cases e:x=nm
  ·subst e;rw [zap] at hq;obtain rfl:=Option.some.inj hq;obtain ⟨s1,s2⟩:=h.short _ _ hV;refine ⟨by rw [zdQ hk];omega,fun y hy=>?_⟩;obtain ⟨i,hi⟩:=List.mem_iff_getElem?.1 hy;rw [zdo hk] at hi;split at hi
   ·cases hi;exact ht
   ·exact s2 y (List.mem_of_getElem? hi)
  ·rw [zag _ _ e] at hq;obtain ⟨s1,s2⟩:=h.short _ _ hq;exact ⟨by omega,s2⟩
 ·by_cases e:x=nm
  ·subst e;rw [zap] at hx;cases hx
  ·rw [zag _ _ e] at hx;rw [hd];exact h.gone x hx
 ·by_cases e:x=nm
  ·subst e;rw [zap] at hq;obtain rfl:=Option.some.inj hq;obtain ⟨g,hg,m,h1,h2,h3⟩:=h.has _ _ hV;refine ⟨g,by rw [hd];exact hg,m,h1,by rw [zdQ hk];omega,fun i y hy hdi=>?_⟩;rw [hdl,zcm] at hdi;rw [zdo hk] at hy;split at hy
   ·rename_i e2;exact absurd (.inl ⟨rfl,e2⟩) hdi
   ·exact h3 i y hy (fun h4=>hdi (.inr h4))
  ·rw [zag _ _ e] at hq;obtain ⟨g,hg,m,h1,h2,h3⟩:=h.has _ _ hq;refine ⟨g,by rw [hd];exact hg,m,h1,h2,fun i y hy hdi=>h3 i y hy (fun h4=>hdi ?_)⟩;rw [hdl,zcm];exact .inr h4
 ·rcases hfr j f hj with ⟨e1,e2,-,e⟩|⟨j',hj',-⟩
  ·rw [e,e1,e2]
  ·exact h.pins j' f hj'
 ·rcases hfr j f hj with ⟨e1,e2,e3,-⟩|⟨j',hj',hne⟩
  ·refine ⟨setP ps k t,by rw [e1,zap],?_⟩;rw [e2,e3,zdo hk,if_pos rfl]
  ·obtain ⟨qs,hq,hx⟩:=h.frm j' f hj';by_cases e:f.name=nm
   ·rw [e] at hq;obtain rfl:=Option.some.inj (hV.symm.trans hq);refine ⟨setP ps k t,by rw [e,zap],?_⟩;rw [zdo hk,if_neg (fun e2=>hne ⟨e,e2⟩)];exact hx
   ·exact ⟨qs,by rw [zag _ _ e];exact hq,hx⟩
def zb2 (V:Vw) (nm:List UInt8) (k:Int) (t:List UInt8):Vw×Nat:=
 if 240<t.length then (V,9) else match V nm with
 | none=>(V,nmE nm)
 | some ps=>if k<0∨ps.length<k.toNat then (V,1) else (upV V nm (some (setP ps k.toNat t)),0)
theorem Heal.more (h:Heal Q PN p V a b) {a' b':Nat} (ha:a≤a') (hb:b≤b'):Heal Q PN p V a' b':=
 ⟨h.off,h.armed,h.q,Nat.le_trans h.num ha,fun f hf=>by have:=h.big f hf;omega,h.name,fun nm ps hV=>by obtain ⟨h1,h2⟩:=h.short nm ps hV;exact ⟨by omega,h2⟩,h.gone,h.has,h.pins,h.frm,h.ok⟩
theorem Heal.name24 (h:Heal Q PN p V a b) {nm:List UInt8} {ps:List (List UInt8)} (hV:V nm=some ps):nm.length≤24:=by
 have:=h.name _ _ hV;unfold zaf at this;simp only [Bool.and_eq_true,decide_eq_true_eq] at this;exact this.1.2
theorem zfu {q:Pst} (one:One q.fr) {i:Nat} {f:Frm} (hf:q.fr[i]? = some (some f)) (t:List UInt8) {j:Nat} {g:Frm} (hj:(onFr q i (overF t)).fr[j]? = some (some g)) :
 (g.name=f.name∧g.k=f.k∧g.b=t∧g.pins=f.pins)∨(∃ j':Nat,q.fr[j']? = some (some g)∧¬ (g.name=f.name∧g.k=f.k)):=by
 obtain ⟨f0,h1,rfl⟩:=on_at hj;by_cases e:i=j
 ·subst e;obtain rfl:=Option.some.inj (Option.some.inj (hf.symm.trans h1));rw [if_pos rfl];exact .inl ⟨rfl,rfl,rfl,rfl⟩
 ·rw [if_neg e];refine .inr ⟨j,h1,fun ⟨e1,e2⟩=>e ?_⟩;have k1:=zbA hf;have k2:=zbA h1;rw [e1,e2] at k2;exact one i j _ k1 k2
theorem zl9 (h:Heal Q PN p V a b) (hab:4*(a*b)+4≤Q) (hb:b≤1000) (nm:List UInt8) (k:Int) (t:List UInt8) (hnk:some (nm,k.toNat)∉zac p.fr→PN nm k.toNat=0∧Free p.fr):(zah p nm k t).2=(zb2 V nm k t).2∧Heal Q PN (zah p nm k t).1 (zb2 V nm k t).1 a (b+1):=by
 have hm:=h.more (Nat.le_refl a) (Nat.le_succ b);unfold zah zb2;split
 ·exact ⟨rfl,hm⟩
 ·rename_i ht;cases e:V nm with
  | none=>
   rw [zbW h e];simp only;rw [if_pos (zbF nm)];exact ⟨rfl,hm⟩
  | some ps=>
   rw [zbt h e];simp only;rw [if_neg (by simp)];split
   ·exact ⟨rfl,hm⟩
   ·rename_i hk;have hk:k.toNat≤ps.length:=(by omega);cases e2:p.fr.findIdx? (isAt nm k.toNat) with
    | some i=>
     obtain ⟨f,hf,h1,h2⟩:=zaX e2;obtain ⟨h3,-⟩:=zcH h.ok hf t;rw [h1,h2] at h3;refine ⟨rfl,h.put e hk (by omega) h3 rfl rfl (fun j g hj=>?_)⟩;have:=zfu h.ok.one' hf t hj;rw [h.pins i f hf,h1,h2] at this;exact this
    | none=>
     have hkn:=idx_none.1 e2;obtain ⟨T,hT⟩:=za2 h.ok hkn (h.name24 e) [];obtain ⟨t1,t2⟩:=zh9 h hab hb (hnk hkn).2;have TK:=zbM h.ok
     revert T hT
     unfold holdS;generalize takeS p=q at *;simp only;rw [if_neg (by omega)];intro T hT;simp only;rw [if_neg (by simp)];have hf:=hT rfl;generalize hq:({q.1 with fr:=q.1.fr.set q.2.1 (some ⟨nm,k.toNat,[],0,false⟩),mostR:=max q.1.mostR (resN (q.1.fr.set q.2.1 (some ⟨nm,k.toNat,[],0,false⟩)))}:Pst)=r at *;have hrd:r.d=q.1.d:=by rw [←hq]
     have hrl:r.dl=q.1.dl:=(by rw [←hq]);have hrf:r.fr=q.1.fr.set q.2.1 (some ⟨nm,k.toNat,[],0,false⟩):=by rw [←hq]
     obtain ⟨h3,-⟩:=zcH T.ok hf t;refine ⟨rfl,t2.put e hk (by omega) (by have h4:=h3;simp only [hrl] at h4;exact h4) hrd rfl (fun j g hj=>?_)⟩;rcases zfu T.ok.one' hf t hj with ⟨h5,h6,h7,h8⟩|⟨j',h5,h6⟩
     ·exact .inl ⟨h5,h6,h7,h8.trans (hnk hkn).1.symm⟩
     ·rw [hrf,List.getElem?_set] at h5;split at h5
      ·split at h5
       ·cases h5
        exact absurd ⟨rfl,rfl⟩ h6
       ·cases h5
      ·exact .inr ⟨j',h5,h6⟩
def zcK (V:Vw) (nm:List UInt8):Vw×Nat:=
 if zaf nm=false then (V,1) else match V nm with
 | some _=>(V,4)
 | none=>(upV V nm (some []),0)
theorem zfM {l:List Fl} {f:Fl} (h:getF l f.name=none):getF (putF l f) f.name=some f:=by
 induction l with
 | nil=>simp [putF,getF]
 | cons g l ih=>
  rw [zaI] at h;unfold putF;by_cases e:g.name=f.name
  ·rw [if_pos e] at h;cases h
  ·rw [if_neg e] at h;split
   ·rw [zaI,if_neg e];exact ih h
   ·rw [zaI,if_pos rfl]
theorem zgN {l:List Fl} {f g:Fl} (h:g∈putF l f):g=f∨g∈l:=by
 induction l with
 | nil=>simp [putF] at h;exact .inl h
 | cons x l ih=>
  unfold putF at h;split at h
  ·rcases List.mem_cons.1 h with rfl|h
   ·exact .inr (List.mem_cons_self)
   ·exact (ih h).imp id (List.mem_cons_of_mem _)
  ·rcases List.mem_cons.1 h with rfl|h
   ·exact .inl rfl
   ·exact .inr h
theorem zma (l:List Fl) (f:Fl):(putF l f).length=l.length+1:=by
 induction l with
 | nil=>rfl
 | cons x l ih=>
  unfold putF;split
  ·simp [ih]
  ·simp
theorem zkB (l:List Fl) (nm:List UInt8):getF (delF l nm) nm=none:=by
 unfold getF delF;rw [List.find?_eq_none];intro x hx;have:=(List.mem_filter.1 hx).2;simpa using this
theorem zkC (h:Heal Q PN p V a b) (nm:List UInt8):(zaA p nm).2=(zcK V nm).2∧Heal Q PN (zaA p nm).1 (zcK V nm).1 (a+1) b:=by
 have hm:=h.more (Nat.le_succ a) (Nat.le_refl b);unfold zaA zaw zcK;rw [zcJ h.armed,h.off,if_neg (by simp)];by_cases hn:zaf nm=false
 ·rw [if_pos hn,if_pos hn];exact ⟨rfl,hm⟩
 ·rw [if_neg hn,if_neg hn];cases e:V nm with
  | some ps=>
   obtain ⟨g,hg,-⟩:=h.has _ _ e;rw [hg,if_pos (by simp)];exact ⟨rfl,hm⟩
  | none=>
   have hg:=h.gone _ e;rw [hg,if_neg (by simp)];show 0=0∧Heal Q PN _ (upV V nm (some [])) (a+1) b;refine ⟨rfl,⟨h.off,h.armed,h.q,?_,fun f hf=>?_,fun x ps hx=>?_,fun x ps hx=>?_,fun x hx=>?_,fun x ps hx=>?_,h.pins,fun i f hi=>?_,h.ok.disk _⟩⟩
   ·show (putF p.d.l _).length≤_;rw [zma];have:=h.num;omega
   ·rcases zgN hf with rfl|hf
    ·simp
    ·exact h.big f hf
   ·by_cases e2:x=nm
    ·subst e2;simpa using hn
    ·rw [zag _ _ e2] at hx;exact h.name _ _ hx
   ·by_cases e2:x=nm
    ·subst e2;rw [zap] at hx;cases hx
     exact ⟨Nat.zero_le _,by simp⟩
    ·rw [zag _ _ e2] at hx;exact h.short _ _ hx
   ·have e2:x≠nm:=by rintro rfl;rw [zap] at hx;cases hx
    rw [zag _ _ e2] at hx;show getF (putF p.d.l _) x=none;rw [zfY _ _ _ (fun e3=>e2 e3.symm)];exact h.gone x hx
   ·by_cases e2:x=nm
    ·subst e2;rw [zap] at hx;cases hx
     exact ⟨⟨x,[],[],fun _=>false⟩,zfM (f:=⟨x,[],[],fun _=>false⟩) hg,0,rfl,Nat.zero_le _,fun k y hy=>by simp at hy⟩
    ·rw [zag _ _ e2] at hx;obtain ⟨g,h1,h2⟩:=h.has _ _ hx;refine ⟨g,?_,h2⟩;show getF (putF p.d.l _) x=_;rw [zfY _ _ _ (fun e3=>e2 e3.symm)];exact h1
   ·obtain ⟨ps,h1,h2⟩:=h.frm i f hi;exact ⟨ps,by rw [zag _ _ (by rintro rfl;rw [e] at h1;cases h1)];exact h1,h2⟩
def dropE (V:Vw) (nm:List UInt8):Nat:=match V nm with
 | none=>nmE nm
 | some _=>0
theorem zkD (h:Heal Q PN p V a b) (nm:List UInt8):zaE p.d nm=({p.d with l:=delF p.d.l nm},dropE V nm):=by
 unfold zaE dropE;rw [zcJ h.armed,h.off,if_neg (by simp)];cases e:V nm with
 | none=>
  have hg:=h.gone _ e;have hd:delF p.d.l nm=p.d.l:=by
   unfold delF;rw [List.filter_eq_self];intro x hx;have:=List.find?_eq_none.1 hg x hx;simpa using this
  unfold nmE;rw [hg,hd];have:=h.off;cases zaf nm<;>simp
 | some ps=>
  obtain ⟨g,hg,-⟩:=h.has _ _ e;rw [hg,h.name _ _ e];simp [h.off]
theorem znD (h:Heal Q PN p V a b) (hz:∀ a b,PN a b=0) (nm:List UInt8):(zat p nm).2=dropE V nm∧Heal Q PN (zat p nm).1 (upV V nm none) a b∧(zat p nm).1.d.l=delF p.d.l nm:=by
 have W:=ze1 h.ok nm
 revert W
 unfold zat;have hno:p.fr.any (fun o=>isOf nm o&&isPin o)=false:=by
  rw [List.any_eq_false];intro o ho;cases o with
  | none=>simp [isPin]
  | some f=>
   obtain ⟨i,hi⟩:=List.mem_iff_getElem?.1 ho;simp [isPin,h.pins i f hi,hz]
 rw [hno,if_neg (by simp),zkD h nm];intro W;refine ⟨rfl,⟨h.off,h.armed,h.q,?_,fun f hf=>?_,fun x ps hx=>?_,fun x ps hx=>?_,fun x hx=>?_,fun x ps hx=>?_,fun i f hi=>?_,fun i f hi=>?_,W.ok⟩,rfl⟩
 ·exact Nat.le_trans (List.length_filter_le _ _) h.num
 ·exact h.big f (List.mem_filter.1 hf).1
 ·have e2:x≠nm:=by rintro rfl;rw [zap] at hx;cases hx
  rw [zag _ _ e2] at hx;exact h.name _ _ hx
 ·have e2:x≠nm:=by rintro rfl;rw [zap] at hx;cases hx
  rw [zag _ _ e2] at hx;exact h.short _ _ hx
 ·show getF (delF p.d.l nm) x=none;by_cases e2:x=nm
  ·subst e2;exact zkB _ _
  ·rw [zag _ _ e2] at hx;rw [zfX _ _ _ (fun e3=>e2 e3.symm)];exact h.gone x hx
 ·have e2:x≠nm:=by rintro rfl;rw [zap] at hx;cases hx
  rw [zag _ _ e2] at hx;obtain ⟨g,h1,m,h2,h3,h4⟩:=h.has _ _ hx;refine ⟨g,?_,m,h2,h3,fun k y hy hd=>h4 k y hy (fun h5=>hd ?_)⟩
  ·show getF (delF p.d.l nm) x=_;rw [zfX _ _ _ (fun e3=>e2 e3.symm)];exact h1
  ·show k∈zaa (delM p.dl nm) x;rw [zbC,if_neg e2];exact h5
 ·exact h.pins i f (drop_at.1 (show (dropF p.fr nm)[i]? = some (some f) from hi)).1
 ·obtain ⟨h1,h2⟩:=drop_at.1 (show (dropF p.fr nm)[i]? = some (some f) from hi);obtain ⟨ps,h3,h4⟩:=h.frm i f h1;exact ⟨ps,by rw [zag _ _ h2];exact h3,h4⟩
structure Tidy (p:Pst) (nm:List UInt8):Prop where
 dl:zaa p.dl nm=[]
 file:∀ f,getF p.d.l nm=some f→f.lasts=f.now∧∀ k,f.loose k=false
def zcY (V:Vw) (nm:List UInt8):Nat:=match V nm with
 | none=>nmE nm
 | some _=>0
theorem zmb (h:Heal Q PN p V a b) (hab:4*(a*b)+4≤Q) (hb:b≤1000) (nm:List UInt8):(zao p nm).2=zcY V nm∧Heal Q PN (zao p nm).1 V a b∧(V nm≠none→Tidy (zao p nm).1 nm)∧(∀ x,Tidy p x→x≠nm→Tidy (zao p nm).1 x):=by
 unfold zao zcY;cases e:V nm with
 | none=>
  rw [zbW h e];simp only;rw [if_pos (zbF nm)];exact ⟨rfl,h,fun h=>absurd rfl h,fun x hx _=>hx⟩
 | some ps=>
  rw [zbt h e];simp only;rw [if_neg (by simp)];obtain ⟨w1,w2,w3,w4⟩:=zhr hab hb (nm:=nm) (zaa p.dl nm) h (h.ok.dl.rise_of nm) (fun _ h=>h) (fun _ _ j _ h _=>h);generalize wbS p ((zaa p.dl nm).filterMap (frmOf p.fr nm))=q at *;rw [if_neg (by omega)];obtain ⟨g,hg,hR⟩:=w2.has _ _ e;have hn:=h.name _ _ e;have hgn:=zbq hg;have hs:syncS q.1.d nm=({q.1.d with l:=setF q.1.d.l (syncF g)},0):=by
   unfold syncS;rw [zcJ w2.armed,w2.off,hn,hg];simp [w2.off]
  rw [hs];simp only;have hgs:(syncF g).name=nm:=hgn;refine ⟨trivial,⟨w2.off,w2.armed,w2.q,by rw [show (setF q.1.d.l (syncF g)).length=_ from zdb _ _];exact w2.num,fun x hx=>?_,w2.name,w2.short,fun x hx=>?_,fun x qs hx=>?_,w2.pins,w2.frm,w2.ok.disk _⟩,fun _=>⟨?_,fun f hf=>?_⟩,fun x hx hne=>⟨?_,fun f hf=>?_⟩⟩
  ·rcases zda hx with rfl|hx
   ·exact w2.big g (zaR hg)
   ·exact w2.big x hx
  ·show getF (setF q.1.d.l (syncF g)) x=none;rw [za6 _ _ _ (by rw [hgs];rintro rfl;rw [e] at hx;cases hx)];exact w2.gone x hx
  ·by_cases e2:x=nm
   ·subst e2;obtain rfl:=Option.some.inj (e.symm.trans hx);exact ⟨syncF g,zba hg hgs,hR⟩
   ·obtain ⟨f,h1,h2⟩:=w2.has _ _ hx;refine ⟨f,?_,h2⟩;show getF (setF q.1.d.l (syncF g)) x=_;rw [za6 _ _ _ (by rw [hgs];exact fun e3=>e2 e3.symm)];exact h1
  ·show zaa q.1.dl nm=[];rw [List.eq_nil_iff_forall_not_mem];intro x hx;have:=(w3 nm x).1 hx;exact this.2 ⟨rfl,this.1⟩
  ·have hf:getF (setF q.1.d.l (syncF g)) nm=some f:=hf;rw [zba hg hgs] at hf;cases hf
   exact ⟨rfl,fun _=>rfl⟩
  ·show zaa q.1.dl x=[];rw [List.eq_nil_iff_forall_not_mem];intro y hy;have:=((w3 x y).1 hy).1;rw [hx.dl] at this;simp at this
  ·have hf:getF (setF q.1.d.l (syncF g)) x=some f:=hf;rw [za6 _ _ _ (by rw [hgs];exact fun e3=>hne e3.symm),w4 x hne] at hf;exact hx.file f hf
end
def doV (V:Vw) (kind:Int) (nm:List UInt8) (k:Int) (t:List UInt8):Vw×List UInt8×Nat×Nat:=
 if kind=0 then ((zcK V nm).1,[],0,(zcK V nm).2)
 else if kind=1 then (upV V nm none,[],0,dropE V nm)
 else if kind=2 then (V,[],((V nm).map List.length).getD 0,zcY V nm)
 else if kind=5 then (V,(readV V nm k).1,0,(readV V nm k).2)
 else if kind=6 then ((zb2 V nm k t).1,t,0,(zb2 V nm k t).2)
 else (V,[],0,zcY V nm)
section
variable {Q:Nat} {PN:List UInt8→Nat→Nat} {p:Pst} {V:Vw} {a b:Nat}
theorem zpK {d:Ds} {n:Nat} (hn:1≤n∧n≤4096) (h1:d.off=false) (h2:d.armed=0) (h3:Q≤d.q) (h4:d.l.length≤a) (h5:∀ f∈d.l,f.now.length≤256*b) (h6:∀ nm ps,V nm=some ps→zaf nm=true)
 (h7:∀ nm ps,V nm=some ps→ps.length≤b∧∀ x∈ps,x.length≤240) (h8:∀ nm,V nm=none→getF d.l nm=none) (h9:∀ nm ps,V nm=some ps→∃ f,getF d.l nm=some f∧FileR [] nm f ps):Heal Q PN (newPl d n) V a b:=by
 have hf:∀ (i:Nat) (f:Frm),(newPl d n).fr[i]? ≠ some (some f):=fun i f e=>by
  have:=List.eq_of_mem_replicate (List.mem_of_getElem? (show (List.replicate n (none:Option Frm))[i]? = some (some f) from e));cases this
 exact ⟨h1,h2,h3,h4,h5,h6,h7,h8,h9,fun i f e=>absurd e (hf i f),fun i f e=>absurd e (hf i f),(zjd d hn).1⟩
theorem zmc {n:Nat} (hn:1≤n∧n≤4096) {q:Nat} (hq:Q≤q):Heal Q PN (newPl ⟨[],q,0,false⟩ n) (fun _=>none) 0 0:=
 zpK hn rfl rfl hq (Nat.le_refl _) (fun f hf=>by simp at hf) (fun nm ps h=>by cases h) (fun nm ps h=>by cases h) (fun nm _=>rfl) (fun nm ps h=>by cases h)
def zsQ (p:Pst) (V:Vw):Prop:=∀ nm,V nm≠none→Tidy p nm
theorem zdc {l:List Fl} (h:l.Pairwise fun f g=>f.name<g.name) {f:Fl} (hf:f∈l):getF l f.name=some f:=by
 induction l with
 | nil=>simp at hf
 | cons g l ih=>
  obtain ⟨h1,h2⟩:=List.pairwise_cons.1 h;rw [zaI];rcases List.mem_cons.1 hf with rfl|hf
  ·rw [if_pos rfl]
  ·rw [if_neg (fun e=>by have:=h1 f hf;rw [e] at this;exact List.lt_irrefl _ this)];exact ih h2 hf
theorem Heal.known (h:Heal Q PN p V a b) {nm:List UInt8} {f:Fl} (hf:getF p.d.l nm=some f):∃ ps,V nm=some ps:=by
 cases e:V nm with
 | none=>rw [h.gone nm e] at hf;cases hf
 | some ps=>exact ⟨ps,rfl⟩
end
def znE (k:Int):Prop:=k=0∨k=1∨k=2∨k=5∨k=6∨k=7
instance (k:Int):Decidable (znE k):=by unfold znE;infer_instance
def HealC (p:Pst) (V:Vw) (c:Nat):Prop:=∃ a b,a+b≤c∧Heal 65536 (fun _ _=>0) p V a b
theorem Heal.free {Q:Nat} {PN:List UInt8→Nat→Nat} {p:Pst} {V:Vw} {a b:Nat} (h:Heal Q PN p V a b) (hz:∀ a b,PN a b=0):Free p.fr:=by
 by_cases e:resN p.fr<p.fr.length
 ·exact .inl e
 ·obtain ⟨f,hf⟩:=zhs e (i:=0) (by have:=h.ok.n;omega);exact .inr ⟨0,f,hf,by rw [h.pins 0 f hf,hz]⟩
section
variable {p:Pst} {V:Vw} {c:Nat}
def zsR (p:Pst) (ns:List (List UInt8)) (j:Nat):Prop:=∀ i nm,i<j→ns[i]? = some nm→Tidy p nm
def Named (V:Vw) (ns:List (List UInt8)):Prop:=∀ nm,V nm≠none↔nm∈ns
def opF (nm:List UInt8):Op10:=⟨7,nm,0,none,0,0,[]⟩
theorem znF (p:Pst) (nm:List UInt8):(doP p (opF nm)).1=(zao p nm).1:=by unfold doP opF;rfl
def restN (l:List Fl) (nm:List UInt8) (j:Nat):Nat:=(delF (l.take j) nm).length
end
section
variable {K:DiskOk} {w0 w w':World} {B:PB} {S S' S2:Nat→Prop} {p q:Pst}
theorem PJ.lt (h:PJ K w0 B p S w):∀ i,S i→i<w.heap.size:=(zdG K w0 B p).lt h
theorem PJ.kp (h:PJ K w0 B p S w):Keeps w0 w:=by
 obtain ⟨Fd,Fp,X,sl,rfl,h⟩:=h;exact h.D.kp
theorem PJ.dok (h:PJ K w0 B p S w):DsOk p.d:=by
 obtain ⟨Fd,Fp,X,sl,rfl,h⟩:=h;exact K.ok h.D.D
theorem PJ.keep (h:PJ K w0 B p S w) (k:Keeps w w'):PJ K w0 B p S w':=by
 obtain ⟨Fd,Fp,X,sl,rfl,h⟩:=h;exact ⟨Fd,Fp,X,sl,rfl,h.keep k⟩
theorem PJ.far (h:PJ K w0 B p S w) (t:Turns w w' S2 S') (hl:∀ i,S2 i→w0.heap.size≤i) (dj:∀ i,S i→¬ S2 i):PJ K w0 B p S w'∧∀ i,S i→¬ S' i:=
 ⟨(zdG K w0 B p).turn h t.only (fun i hi=>⟨hl i hi,fun e=>dj i e hi⟩),fun i hi=>t.notIn (h.lt i hi) (dj i hi)⟩
theorem zpL (PK:PageOk) (h:PJ K w0 B p S w) (hZ:K.Z w0) (hS:Sizes w0) {N j:Nat} (R:Runs p N j) (hj:j≤100000) (nm:List UInt8) (hnm:nm.length≤maxLen) :
 Calls Tryz.prog 121 #[.pointer (some ⟨B.pb,0,none⟩), .string (str nm)] w fun e w'=>e = .returned (.int .i64 ((zao p nm).2:Int))∧∃ S',PJ K w0 B (zao p nm).1 S' w'∧Turns w w' S S':=by
 obtain ⟨Fd,Fp,X,sl,rfl,h⟩:=h;refine (znv PK h hZ hS R.b (by omega) nm hnm).mono ?_;rintro e w' ⟨he,h1⟩;exact ⟨he,zft h1⟩
theorem Runs.flush {N j:Nat} (R:Runs p N j) (hd:DsOk p.d) (nm:List UInt8):Runs (zao p nm).1 N (j+1):=by
 rw [←znF];exact R.next hd (opF nm)
theorem zpM (PK:PageOk) (h:PJ K w0 B p S w) (hZ:K.Z w0) (hS:Sizes w0) {N j:Nat} (R:Runs p N j) (hN:N≤4096) (hj:j≤100000) (nm:List UInt8) (hnm:nm.length≤maxLen) (k:Int) (hk:IsI k) (A:Option Addr) (n c:Nat) (b:List UInt8) (hn:n=b.length) (hA:Bs w A b) (hAF:∀ ad,A=some ad→¬ S ad.block) (hA0:A=none→c=0) (hnl:n≤maxLen) :
 Calls Tryz.prog 110 #[.pointer (some ⟨B.pb,0,none⟩), .string (str nm), .int .i64 k, .slice A n c] w fun e w'=>e = .returned (.int .i64 ((zah p nm k b).2:Int))∧∃ S',PJ K w0 B (zah p nm k b).1 S' w'∧Turns w w' S S':=by
 obtain ⟨Fd,Fp,X,sl,rfl,h⟩:=h;refine (zkz PK h hZ hS R.b (by omega) (by omega) (R.fit hN).R nm hnm k hk A n c b hn hA hAF hA0 hnl).mono ?_;rintro e w' ⟨he,h1⟩;exact ⟨he,zft h1⟩
theorem znG (h:PJ K w0 B p S w) (hZ:K.Z w0) (nm:List UInt8) (hnm:nm.length≤maxLen) :
 Calls Tryz.prog 47 #[.pointer (some ⟨B.pb,0,none⟩), .string (str nm)] w fun e w'=>e = .returned (.int .i64 ((zaA p nm).2:Int))∧∃ S',PJ K w0 B (zaA p nm).1 S' w'∧Turns w w' S S':=by
 obtain ⟨Fd,Fp,X,sl,rfl,h⟩:=h;refine (zjx h hZ nm hnm).mono ?_;rintro e w' ⟨he,h1⟩;exact ⟨he,zft h1⟩
theorem zrg (h:PJ K w0 B p S w) (hZ:K.Z w0) {N j:Nat} (R:Runs p N j) (hN:N≤4096) (hj:j≤100000) (nm:List UInt8) (hnm:nm.length≤maxLen) :
 Calls Tryz.prog 93 #[.pointer (some ⟨B.pb,0,none⟩), .string (str nm)] w fun e w'=>e = .returned (.int .i64 ((zat p nm).2:Int))∧∃ S',PJ K w0 B (zat p nm).1 S' w'∧Turns w w' S S':=by
 obtain ⟨Fd,Fp,X,sl,rfl,h⟩:=h;refine (zpC h hZ (R.fit hN).R R.b (by omega) nm hnm).mono ?_;rintro e w' ⟨he,h1⟩;exact ⟨he,zft h1⟩
def TextJ (K:DiskOk) (w0 w:World) (B:PB) (S:Nat→Prop) (q:Pst) (l:List UInt8) (E:Nat) (e:Ending) (w':World):Prop:=
 ∃ v,e = .returned (.tuple #[v, .int .i64 (E:Int)])∧Own w' w.heap.size 5 1 v l.length (cel l)∧∃ S',PJ K w0 B q S' w'∧Turns w w' S S'∧(∀ g,v.ownBlock=some g→¬ S' g)
theorem zrh (PK:PageOk) (h:PJ K w0 B p S w) (hZ:K.Z w0) (hS:Sizes w0) {N j:Nat} (R:Runs p N j) (hN:N≤4096) (hj:j≤100000) (nm:List UInt8) (hnm:nm.length≤maxLen) (k:Int) (hk:IsI k) :
 Calls Tryz.prog 143 #[.pointer (some ⟨B.pb,0,none⟩), .string (str nm), .int .i64 k] w (TextJ K w0 w B S (zai p nm k).1 (zai p nm k).2.1 (zai p nm k).2.2):=by
 obtain ⟨Fd,Fp,X,sl,rfl,h⟩:=h;exact (zl4 PK h hZ hS R.b (by omega) (by omega) (R.fit hN).R R.t nm hnm k hk).mono fun e w' q=>zq9 q
theorem zjy (h:PJ K w0 B p S w) (hZ:K.Z w0) {N j:Nat} (R:Runs p N j) (hj:j≤100000) (nm:List UInt8) (hnm:nm.length≤maxLen) :
 Calls Tryz.prog 83 #[.pointer (some ⟨B.pb,0,none⟩), .string (str nm)] w fun e w'=>e = .returned (.tuple #[.int .i64 ((if (findP p nm).2=0 then (findP p nm).1 else 0:Nat):Int), .int .i64 ((findP p nm).2:Int)])∧Keeps w w':=by
 obtain ⟨Fd,Fp,X,sl,rfl,h⟩:=h;exact znu h hZ R.b (by omega) nm hnm
theorem zbg {base:Nat} {ty:TypeId} {size n:Nat} {v:Value} {xs:List Value} (o:Own w base ty size v n xs) (hn:∀ g,v.ownBlock=some g→¬ S g) (t:Turns w w' S S'):Own w' base ty size v n xs∧∀ g,v.ownBlock=some g→¬ S' g:=
 ⟨o.turns t hn,fun g hg=>t.notIn (o.lt g hg).2 (hn g hg)⟩
theorem Runs.read {N j:Nat} (R:Runs p N j) (hd:DsOk p.d) (nm:List UInt8) (k:Int):Runs (zai p nm k).1 N (j+1):=R.next hd ⟨5,nm,k,none,0,0,[]⟩
theorem Runs.create {N j:Nat} (R:Runs p N j) (hd:DsOk p.d) (nm:List UInt8):Runs (zaA p nm).1 N (j+1):=R.next hd ⟨0,nm,0,none,0,0,[]⟩
theorem Runs.drop {N j:Nat} (R:Runs p N j) (hd:DsOk p.d) (nm:List UInt8):Runs (zat p nm).1 N (j+1):=R.next hd ⟨1,nm,0,none,0,0,[]⟩
theorem Runs.write {N j:Nat} (R:Runs p N j) (hd:DsOk p.d) (nm:List UInt8) (k:Int) (b:List UInt8):Runs (zah p nm k b).1 N (j+1):=R.next hd ⟨6,nm,k,none,0,0,b⟩
theorem zpN (h:PJ K w0 B p S w) (hZ:K.Z w0) (hl:p.d.l.length≤70000) :
 Calls Tryz.prog 26 #[.pointer (some ⟨B.db,0,none⟩)] w fun e w'=>∃ v,e = .returned v∧Own w' w.heap.size 9 1 v p.d.l.length (p.d.l.map fun f=>strV f.name)∧Keeps w w':=by
 obtain ⟨Fd,Fp,X,sl,rfl,h⟩:=h;exact K.names (h.D.z hZ) h.D.D hl
theorem zpO (h:PJ K w0 B p S w) (hZ:K.Z w0) (hl:p.d.l.length≤70000) :
 Calls Tryz.prog 9 #[.pointer (some ⟨B.db,0,none⟩)] w fun e w'=>∃ v,e = .returned v∧FilesAt w' w.heap.size v (p.d.l.map fun f=>(f.name,f.now))∧Keeps w w':=by
 obtain ⟨Fd,Fp,X,sl,rfl,h⟩:=h;exact K.files (h.D.z hZ) h.D.D hl
theorem zpP (h:PJ K w0 B p S w) (hZ:K.Z w0) :
 Calls Tryz.prog 13 #[.pointer (some ⟨B.db,0,none⟩)] w fun e w'=>∃ v,e = .returned v∧Own w' w.heap.size 49 2 v (zaO p.d.l).length ((zaO p.d.l).flatMap ze3)∧Keeps w w':=by
 obtain ⟨Fd,Fp,X,sl,rfl,h⟩:=h;exact K.loose (h.D.z hZ) h.D.D
end
end Go.Proofs.YtjpldnjldindkaaGreatDoor
