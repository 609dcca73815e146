/- Chapter 10 as functions of a disk, frames, the dirty ones of each file by their pages, the hand and the peaks. -/
import Derived.Test.YtjpldnjldindkaaGreatDoorQPageMath
import Derived.Test.YtjpldnjldindkaaGreatDoorQMapV
set_option linter.all false
set_option maxRecDepth 100000
namespace Go.Proofs.YtjpldnjldindkaaGreatDoor
open Go.RowKit
structure Frm where
 name:List UInt8
 k:Nat
 b:List UInt8
 pins:Nat
 used:Bool
structure Pst where
 d:Ds
 fr:List (Option Frm)
 dl:List (List UInt8×List Nat)
 hand:Nat
 mostR:Nat
 mostP:Nat
def isAt (nm:List UInt8) (k:Nat):Option Frm→Bool
 | some f=>decide (f.name=nm)&&decide (f.k=k)
 | none=>false
def isPin:Option Frm→Bool
 | some f=>decide (0<f.pins)
 | none=>false
def isOf (nm:List UInt8):Option Frm→Bool
 | some f=>decide (f.name=nm)
 | none=>false
def resN (fr:List (Option Frm)):Nat:=fr.countP (·.isSome)
def pinN (fr:List (Option Frm)):Nat:=fr.countP isPin
def dirN (dl:List (List UInt8×List Nat)):Nat:=(dl.map fun e=>e.2.length).sum
def frmOf (fr:List (Option Frm)) (nm:List UInt8) (k:Nat):Option Frm:=(fr.findIdx? (isAt nm k)).bind fun i=>(fr[i]?).getD none
def zaa (dl:List (List UInt8×List Nat)) (nm:List UInt8):List Nat:=(lookM dl nm).getD []
def below (l:List Nat) (k:Nat):Nat:=l.countP fun x=>decide (x<k)
def insK (l:List Nat) (k:Nat):List Nat:=l.take (below l k)++k::l.drop (below l k)
def soilD (dl:List (List UInt8×List Nat)) (nm:List UInt8) (k:Nat):List (List UInt8×List Nat):=
 if k∈zaa dl nm then dl else putM dl nm (insK (zaa dl nm) k)
def zaQ (dl:List (List UInt8×List Nat)) (nm:List UInt8) (k:Nat):List (List UInt8×List Nat):=
 if (zaa dl nm).erase k=[] then delM dl nm else putM dl nm ((zaa dl nm).erase k)
def wbS (p:Pst):List Frm→Pst×Nat
 | []=>(p,0)
 | f::fs=>if (zaG p.d f.name (f.k:Int) f.b).2=0 then wbS {p with d:=(zaG p.d f.name (f.k:Int) f.b).1,dl:=zaQ p.dl f.name f.k} fs
  else ({p with d:=(zaG p.d f.name (f.k:Int) f.b).1},(zaG p.d f.name (f.k:Int) f.b).2)
def saved (l:List Nat) (n k:Nat):List Nat:=(l.take (below l k)).drop (below (l.take (below l k)) n)++[k]
def saveS (p:Pst) (f:Frm):Pst×Nat:=
 if f.k∈zaa p.dl f.name then
  if (zas p.d f.name).2≠0 then (p,(zas p.d f.name).2)
  else wbS p ((saved (zaa p.dl f.name) (zas p.d f.name).1 f.k).filterMap (frmOf p.fr f.name))
 else (p,0)
def seekS:Nat→List (Option Frm)→Nat→List (Option Frm)×Nat×Bool
 | 0,fr,h=>(fr,h,false)
 | m+1,fr,h=>match fr[h]? with
  | some (some f)=>if 0<f.pins then seekS m fr ((h+1)%fr.length) else if f.used=true then seekS m (fr.set h (some {f with used:=false})) ((h+1)%fr.length) else (fr,h,true)
  | _=>(fr,h,false)
def zcU (fr:List (Option Frm)):Nat:=fr.findIdx (·.isNone)
def takeS (p:Pst):Pst×Nat×Nat:=
 if resN p.fr<p.fr.length then (p,zcU p.fr,0)
 else
  let r:=seekS (2*p.fr.length) p.fr p.hand
  let p1:Pst:={p with fr:=r.1,hand:=r.2.1}
  if r.2.2=false then (p1,0,10) else
  match r.1[r.2.1]? with
  | some (some f)=>
   let q:=saveS p1 f
   if q.2≠0 then (q.1,0,q.2) else ({q.1 with fr:=q.1.fr.set r.2.1 none,hand:=(r.2.1+1)%q.1.fr.length},r.2.1,0)
  | _=>(p1,0,0)
def holdS (p:Pst) (nm:List UInt8) (k:Nat) (t:List UInt8):Pst×Nat×Nat:=
 let q:=takeS p
 if q.2.2≠0 then (q.1,0,q.2.2) else
 ({q.1 with fr:=q.1.fr.set q.2.1 (some ⟨nm,k,t,0,false⟩),mostR:=max q.1.mostR (resN (q.1.fr.set q.2.1 (some ⟨nm,k,t,0,false⟩)))},q.2.1,0)
def onFr (p:Pst) (i:Nat) (g:Frm→Frm):Pst:={p with fr:=p.fr.modify i (Option.map g)}
def useF (f:Frm):Frm:={f with used:=true}
def zav (p:Pst) (nm:List UInt8) (k:Nat):Pst×Nat×Nat:=
 match p.fr.findIdx? (isAt nm k) with
 | some i=>(onFr p i useF,i,0)
 | none=>
  if (readP p.d nm (k:Int)).2≠0 then (p,0,(readP p.d nm (k:Int)).2) else
  let q:=holdS p nm k (readP p.d nm (k:Int)).1
  if q.2.2≠0 then (q.1,0,q.2.2) else (onFr q.1 q.2.1 useF,q.2.1,0)
def findP (p:Pst) (nm:List UInt8):Nat×Nat:=
 if openE p.d nm≠0 then (0,openE p.d nm) else (max (zas p.d nm).1 (((zaa p.dl nm).getLast?.map (· + 1)).getD 0),0)
def getP (p:Pst) (nm:List UInt8) (k:Int):Pst×Nat×Nat:=
 if (findP p nm).2≠0 then (p,0,(findP p nm).2) else if k<0 then (p,0,1) else if (findP p nm).1≤k.toNat then (p,0,3) else zav p nm k.toNat
def textF (fr:List (Option Frm)) (i:Nat):List UInt8:=match fr[i]? with
 | some (some f)=>f.b
 | _=>[]
def zaA (p:Pst) (nm:List UInt8):Pst×Nat:=({p with d:=(zaw p.d nm).1},(zaw p.d nm).2)
def zat (p:Pst) (nm:List UInt8):Pst×Nat:=
 if p.fr.any (fun o=>isOf nm o&&isPin o) then (p,10) else
 ({p with d:=(zaE p.d nm).1,fr:=p.fr.map fun o=>if isOf nm o then none else o,dl:=delM p.dl nm},(zaE p.d nm).2)
def zai (p:Pst) (nm:List UInt8) (k:Int):Pst×List UInt8×Nat:=
 let q:=getP p nm k
 if q.2.2≠0 then (q.1,[],q.2.2) else (q.1,textF q.1.fr q.2.1,0)
def pinF (f:Frm):Frm:={f with pins:=f.pins+1}
def pinPl (p:Pst) (nm:List UInt8) (k:Int):Pst×List UInt8×Nat:=
 let q:=getP p nm k
 if q.2.2≠0 then (q.1,[],q.2.2) else ({onFr q.1 q.2.1 pinF with mostP:=max q.1.mostP (pinN (onFr q.1 q.2.1 pinF).fr)},textF q.1.fr q.2.1,0)
def zbK (f:Frm):Frm:={f with pins:=f.pins-1}
def za4 (p:Pst) (nm:List UInt8) (k:Int):Pst×Nat:=
 if k<0 then (p,3) else match p.fr.findIdx? (isAt nm k.toNat) with
 | none=>(p,3)
 | some i=>if (frmOf p.fr nm k.toNat).map (·.pins)=some 0 then (p,3) else (onFr p i zbK,0)
def overF (b:List UInt8) (f:Frm):Frm:={f with b:=b,used:=true}
def zah (p:Pst) (nm:List UInt8) (k:Int) (b:List UInt8):Pst×Nat:=
 if 240<b.length then (p,9) else if (findP p nm).2≠0 then (p,(findP p nm).2) else if k<0∨(findP p nm).1<k.toNat then (p,1) else
 match p.fr.findIdx? (isAt nm k.toNat) with
 | some i=>({onFr p i (overF b) with dl:=soilD p.dl nm k.toNat},0)
 | none=>
  let q:=holdS p nm k.toNat []
  if q.2.2≠0 then (q.1,q.2.2) else ({onFr q.1 q.2.1 (overF b) with dl:=soilD q.1.dl nm k.toNat},0)
def zao (p:Pst) (nm:List UInt8):Pst×Nat:=
 if (findP p nm).2≠0 then (p,(findP p nm).2) else
 let q:=wbS p ((zaa p.dl nm).filterMap (frmOf p.fr nm))
 if q.2≠0 then q else ({q.1 with d:=(syncS q.1.d nm).1},(syncS q.1.d nm).2)
def newPl (d:Ds) (n:Nat):Pst:=⟨d,List.replicate n none,[],0,0,0⟩
def zac (fr:List (Option Frm)):List (Option (List UInt8×Nat)):=fr.map (Option.map fun f=>(f.name,f.k))
structure DlOk (dl:List (List UInt8×List Nat)):Prop where
 once:(dl.map Prod.fst).Nodup
 rise:∀ nm l,(nm,l)∈dl→l≠[]∧l.Pairwise (· < ·)
structure PstOk (p:Pst):Prop where
 n:1≤p.fr.length∧p.fr.length≤4096
 hand:p.hand<p.fr.length
 one:∀ (i j:Nat) (x:List UInt8×Nat),(zac p.fr)[i]? = some (some x)→(zac p.fr)[j]? = some (some x)→i=j
 dl:DlOk p.dl
 held:∀ nm k,k∈zaa p.dl nm→some (nm,k)∈zac p.fr
 names:∀ x,some x∈zac p.fr→x.1.length≤24
 mostR:resN p.fr≤p.mostR
 mostP:pinN p.fr≤p.mostP
theorem zlz (a:Nat) (l:List Nat) (k:Nat):below (a::l) k=below l k+if a<k then 1 else 0:=by simp [below,List.countP_cons]
theorem zlA {l:List Nat} {k:Nat} (h:∀ x∈l,k≤x):below l k=0:=by
 unfold below;rw [List.countP_eq_zero];intro x hx;have:=h x hx;simp only [decide_eq_true_eq];omega
theorem za9 {l:List Nat} (h:l.Pairwise (· < ·)) (k:Nat) {i x:Nat} (hx:l[i]? = some x):i<below l k↔x<k:=by
 induction l generalizing i with
 | nil=>simp at hx
 | cons a l ih=>
  obtain ⟨h1,h2⟩:=List.pairwise_cons.1 h;rw [zlz];by_cases ha:a<k
  ·rw [if_pos ha];cases i with
   | zero=>
    simp only [List.getElem?_cons_zero,Option.some.injEq] at hx;subst hx;omega
   | succ i=>
    simp only [List.getElem?_cons_succ] at hx;have:=ih h2 hx;omega
  ·rw [if_neg ha,zlA (fun x hx=>by have:=h1 x hx;omega)];cases i with
   | zero=>
    simp only [List.getElem?_cons_zero,Option.some.injEq] at hx;subst hx;omega
   | succ i=>
    simp only [List.getElem?_cons_succ] at hx;have:=h1 x (List.mem_of_getElem? hx);omega
theorem zdr (l:List Nat) (k:Nat):below l k≤l.length:=List.countP_le_length
theorem zk2 {l:List Nat} (h:l.Pairwise (· < ·)) {i j x y:Nat} (hx:l[i]? = some x) (hy:l[j]? = some y) (hij:i<j):x<y:=by
 obtain ⟨hi,rfl⟩:=zI9.1 hx;obtain ⟨hj,rfl⟩:=zI9.1 hy;exact List.pairwise_iff_getElem.1 h i j hi hj hij
theorem zcE {l:List Nat} (h:l.Pairwise (· < ·)) {k:Nat}:k∈l↔l[below l k]? = some k:=by
 constructor
 ·intro hk;obtain ⟨i,hi⟩:=List.mem_iff_getElem?.1 hk;have h1:=za9 h k hi;have h2:below l k=i:=by
   rcases Nat.lt_trichotomy (below l k) i with h3|h3|h3
   ·have hlt:below l k<l.length:=Nat.lt_trans h3 (zI9.1 hi).1;have h4:=za9 h k (zG9 hlt);have h5:=zk2 h (zG9 hlt) hi h3;omega
   ·exact h3
   ·omega
  rw [h2];exact hi
 ·intro h1;exact List.mem_of_getElem? h1
theorem zbT {l:List Nat} (h:l.Pairwise (· < ·)) {k x:Nat} (hx:x∈l.take (below l k)):x<k:=by
 obtain ⟨i,hi⟩:=List.mem_iff_getElem?.1 hx;rw [List.getElem?_take] at hi;split at hi
 ·rename_i h1;exact (za9 h k hi).1 h1
 ·cases hi
theorem zgz {l:List Nat} (h:l.Pairwise (· < ·)) {k x:Nat} (hx:x∈l.drop (below l k)):k≤x:=by
 obtain ⟨i,hi⟩:=List.mem_iff_getElem?.1 hx;rw [List.getElem?_drop] at hi;have:=za9 h k hi;omega
theorem mem_insK {l:List Nat} {k x:Nat}:x∈insK l k↔x=k∨x∈l:=by
 have:x∈l↔x∈l.take (below l k)∨x∈l.drop (below l k):=by rw [←List.mem_append,List.take_append_drop]
 unfold insK;rw [List.mem_append,List.mem_cons,this];constructor
 ·rintro (h|h|h)
  ·exact .inr (.inl h)
  ·exact .inl h
  ·exact .inr (.inr h)
 ·rintro (h|h|h)
  ·exact .inr (.inl h)
  ·exact .inl h
  ·exact .inr (.inr h)
theorem zhS {l:List Nat} (h:l.Pairwise (· < ·)) {k:Nat} (hk:k∉l):(insK l k).Pairwise (· < ·):=by
 unfold insK;rw [List.pairwise_append];refine ⟨h.sublist (List.take_sublist _ _),List.pairwise_cons.2 ⟨fun x hx=>?_,h.sublist (List.drop_sublist _ _)⟩,fun a ha b hb=>?_⟩
 ·have h1:=zgz h hx;have h2:x≠k:=(fun e=>hk (by rw [←e];exact List.mem_of_mem_drop hx));omega
 ·have h1:=zbT h ha;rcases List.mem_cons.1 hb with rfl|hb
  ·exact h1
  ·have:=zgz h hb;omega
theorem zfF (l:List Nat) (k:Nat):(insK l k).length=l.length+1:=by
 have:=zdr l k;unfold insK;simp only [List.length_append,List.length_take,List.length_cons,List.length_drop];omega
theorem zlB {l:List Nat} (h:l.Pairwise (· < ·)):l.Nodup:=List.nodup_iff_pairwise_ne.2 (h.imp fun h=>Nat.ne_of_lt h)
theorem zgA {l:List Nat} (h:l.Pairwise (· < ·)) (k:Nat):(l.erase k).Pairwise (· < ·):=h.sublist List.erase_sublist
theorem zcF {l:List Nat} (h:l.Pairwise (· < ·)) {k x:Nat}:x∈l.erase k↔x≠k∧x∈l:=(zlB h).mem_erase_iff
theorem zmX {l:List Nat} (h:l.Pairwise (· < ·)) {x y:Nat} (hx:x∈l) (hy:l.getLast? = some y):x≤y:=by
 obtain ⟨i,hi⟩:=List.mem_iff_getElem?.1 hx;rw [List.getLast?_eq_getElem?] at hy;have hil:=(zI9.1 hi).1;by_cases e:i=l.length-1
 ·rw [e] at hi;rw [hi] at hy;exact Nat.le_of_eq (Option.some.inj hy)
 ·exact Nat.le_of_lt (zk2 h hi hy (by omega))
section
variable {κ ε:Type} [DecidableEq κ]
theorem zhT (l:List (κ×ε)) (k:κ) (x:ε) (k':κ):lookM (putM l k x) k'=if k'=k then some x else lookM l k':=by
 unfold lookM putM;rw [List.find?_cons];by_cases h:k'=k
 ·subst h;simp
 ·rw [if_neg h,decide_eq_false (fun e=>h e.symm)];simp only;unfold delM;rw [List.find?_filter];congr 2
  funext p
  by_cases h2:p.1=k'
  ·have:p.1≠k:=(fun e=>h (h2.symm.trans e));simp [h2,h]
  ·simp [h2]
theorem zeW (l:List (κ×ε)) (k k':κ):lookM (delM l k) k'=if k'=k then none else lookM l k':=by
 unfold lookM delM;rw [List.find?_filter];by_cases h:k'=k
 ·subst h;rw [if_pos rfl];have:l.find? (fun a=>decide (a.1≠k')&&decide (a.1=k'))=none:=by
   rw [List.find?_eq_none];intro x _ h;simp at h
  simp only [Option.map_eq_none_iff];rw [←this];congr 1
  funext x
  simp
 ·rw [if_neg h];congr 2
  funext p
  by_cases h2:p.1=k'
  ·simp [h2,h]
  ·simp [h2]
theorem zeX {l:List (κ×ε)} {k:κ} {x:ε} (h:lookM l k=some x):(k,x)∈l:=by
 unfold lookM at h;obtain ⟨p,hp,rfl⟩:=Option.map_eq_some_iff.1 h;have h1:=List.find?_some hp;have h2:=List.mem_of_find?_eq_some hp;simp only [decide_eq_true_eq] at h1;subst h1;exact h2
theorem zeY {l:List (κ×ε)} (hn:(l.map Prod.fst).Nodup) {k:κ} {x:ε} (h:(k,x)∈l):lookM l k=some x:=by
 induction l with
 | nil=>simp at h
 | cons y l ih=>
  rw [List.map_cons,List.nodup_cons] at hn;unfold lookM;rw [List.find?_cons];rcases List.mem_cons.1 h with rfl|h
  ·simp
  ·have hne:y.1≠k:=(fun e=>hn.1 (by rw [e];exact List.mem_map_of_mem h));rw [decide_eq_false hne];exact ih hn.2 h
theorem mem_delM {l:List (κ×ε)} {k:κ} {p:κ×ε}:p∈delM l k↔p∈l∧p.1≠k:=by simp [delM,List.mem_filter]
theorem mem_putM {l:List (κ×ε)} {k:κ} {x:ε} {p:κ×ε}:p∈putM l k x↔p=(k,x)∨(p∈l∧p.1≠k):=by
 unfold putM;rw [List.mem_cons,mem_delM]
end
theorem zdS (dl:List (List UInt8×List Nat)) (nm:List UInt8) (l:List Nat) (nm':List UInt8):zaa (putM dl nm l) nm'=if nm'=nm then l else zaa dl nm':=by
 unfold zaa;rw [zhT];split<;>rfl
theorem zbC (dl:List (List UInt8×List Nat)) (nm nm':List UInt8):zaa (delM dl nm) nm'=if nm'=nm then [] else zaa dl nm':=by
 unfold zaa;rw [zeW];split<;>rfl
theorem zcm (dl:List (List UInt8×List Nat)) (nm:List UInt8) (k:Nat) (nm':List UInt8) (x:Nat):x∈zaa (soilD dl nm k) nm'↔(nm'=nm∧x=k)∨x∈zaa dl nm':=by
 unfold soilD;by_cases h:k∈zaa dl nm
 ·rw [if_pos h];constructor
  ·exact .inr
  ·rintro (⟨rfl,rfl⟩|h1)
   ·exact h
   ·exact h1
 ·rw [if_neg h,zdS];by_cases e:nm'=nm
  ·subst e;rw [if_pos rfl,mem_insK];simp
  ·rw [if_neg e];simp [e]
theorem DlOk.rise_of {dl:List (List UInt8×List Nat)} (h:DlOk dl) (nm:List UInt8):(zaa dl nm).Pairwise (· < ·):=by
 unfold zaa;cases e:lookM dl nm with
 | none=>simp
 | some l=>exact (h.rise nm l (zeX e)).2
theorem zb4 (dl:List (List UInt8×List Nat)) (nm:List UInt8) (k:Nat) (nm':List UInt8):zaa (zaQ dl nm k) nm'=if nm'=nm then (zaa dl nm).erase k else zaa dl nm':=by
 unfold zaQ;split
 ·rename_i h;rw [zbC];split
  ·exact h.symm
  ·rfl
 ·rw [zdS]
theorem DlOk.nil:DlOk []:=⟨by simp,by simp⟩
theorem DlOk.del {dl:List (List UInt8×List Nat)} (h:DlOk dl) (nm:List UInt8):DlOk (delM dl nm):=⟨zc7 h.once nm,fun a l hl=>h.rise a l (mem_delM.1 hl).1⟩
theorem DlOk.put {dl:List (List UInt8×List Nat)} (h:DlOk dl) (nm:List UInt8) {l:List Nat} (hl:l≠[]) (hr:l.Pairwise (· < ·)):DlOk (putM dl nm l):=
 ⟨zc8 h.once nm l,fun a m hm=>by
  rcases mem_putM.1 hm with e|e
  ·obtain ⟨rfl,rfl⟩:=Prod.mk.inj e;exact ⟨hl,hr⟩
  ·exact h.rise a m e.1⟩
theorem DlOk.soil {dl:List (List UInt8×List Nat)} (h:DlOk dl) (nm:List UInt8) (k:Nat):DlOk (soilD dl nm k):=by
 unfold soilD;split
 ·exact h
 ·rename_i hk;exact h.put nm (fun e=>by have:=zfF (zaa dl nm) k;rw [e] at this;simp at this) (zhS (h.rise_of nm) hk)
theorem DlOk.clean {dl:List (List UInt8×List Nat)} (h:DlOk dl) (nm:List UInt8) (k:Nat):DlOk (zaQ dl nm k):=by
 unfold zaQ;split
 ·exact h.del nm
 ·rename_i hk;exact h.put nm hk (zgA (h.rise_of nm) k)
theorem zbL (fr:List (Option Frm)) (i:Nat):(zac fr)[i]? = (fr[i]?).map (Option.map fun f=>(f.name,f.k)):=List.getElem?_map
theorem zaV (fr:List (Option Frm)):(zac fr).length=fr.length:=List.length_map _
theorem zbs (fr:List (Option Frm)):resN fr=(zac fr).countP (·.isSome):=by
 unfold resN zac;rw [List.countP_map];congr 1
 funext o
 cases o<;>rfl
theorem zbA {fr:List (Option Frm)} {i:Nat} {f:Frm} (h:fr[i]? = some (some f)):(zac fr)[i]? = some (some (f.name,f.k)):=by rw [zbL,h];rfl
theorem mem_keys {fr:List (Option Frm)} {nm:List UInt8} {k:Nat}:some (nm,k)∈zac fr↔∃ (i:Nat) (f:Frm),fr[i]? = some (some f)∧f.name=nm∧f.k=k:=by
 constructor
 ·intro h;obtain ⟨i,hi⟩:=List.mem_iff_getElem?.1 h;rw [zbL] at hi;cases e:fr[i]? with
  | none=>rw [e] at hi;cases hi
  | some o=>
   rw [e] at hi;cases o with
   | none=>simp at hi
   | some f=>
    simp only [Option.map_some,Option.some.injEq,Prod.mk.injEq] at hi;exact ⟨i,f,e,hi.1,hi.2⟩
 ·rintro ⟨i,f,h,rfl,rfl⟩;exact List.mem_of_getElem? (zbA h)
theorem isAt_iff {nm:List UInt8} {k:Nat} {o:Option Frm}:isAt nm k o=true↔∃ f,o=some f∧f.name=nm∧f.k=k:=by
 cases o with
 | none=>simp [isAt]
 | some f=>simp [isAt]
def One (fr:List (Option Frm)):Prop:=∀ (i j:Nat) (x:List UInt8×Nat),(zac fr)[i]? = some (some x)→(zac fr)[j]? = some (some x)→i=j
theorem zaX {fr:List (Option Frm)} {nm:List UInt8} {k i:Nat} (h:fr.findIdx? (isAt nm k)=some i):∃ f,fr[i]? = some (some f)∧f.name=nm∧f.k=k:=by
 obtain ⟨hi,hp,-⟩:=List.findIdx?_eq_some_iff_getElem.1 h;obtain ⟨f,e,h1,h2⟩:=isAt_iff.1 hp;exact ⟨f,by rw [zG9 hi,e],h1,h2⟩
theorem idx_none {fr:List (Option Frm)} {nm:List UInt8} {k:Nat}:fr.findIdx? (isAt nm k)=none↔some (nm,k)∉zac fr:=by
 rw [List.findIdx?_eq_none_iff,mem_keys];constructor
 ·rintro h ⟨i,f,e,h1,h2⟩;have:=h _ (List.mem_of_getElem? e);rw [isAt_iff.2 ⟨f,rfl,h1,h2⟩] at this;cases this
 ·intro h o ho;cases e:isAt nm k o with
  | false=>rfl
  | true=>
   obtain ⟨f,rfl,h1,h2⟩:=isAt_iff.1 e;obtain ⟨i,hi⟩:=List.mem_iff_getElem?.1 ho;exact absurd ⟨i,f,hi,h1,h2⟩ h
theorem zsd {fr:List (Option Frm)} (one:One fr) {i:Nat} {f:Frm} (h:fr[i]? = some (some f)):fr.findIdx? (isAt f.name f.k)=some i:=by
 cases e:fr.findIdx? (isAt f.name f.k) with
 | none=>exact absurd (mem_keys.2 ⟨i,f,h,rfl,rfl⟩) (idx_none.1 e)
 | some j=>
  obtain ⟨g,hg,h1,h2⟩:=zaX e;congr 1
  have:=zbA hg;rw [h1,h2] at this;exact one j i _ this (zbA h)
theorem zek {fr:List (Option Frm)} {nm:List UInt8} {k:Nat} {f:Frm} (h:frmOf fr nm k=some f):∃ i,fr.findIdx? (isAt nm k)=some i∧fr[i]? = some (some f)∧f.name=nm∧f.k=k:=by
 unfold frmOf at h;cases e:fr.findIdx? (isAt nm k) with
 | none=>rw [e] at h;cases h
 | some i=>
  obtain ⟨g,hg,h1,h2⟩:=zaX e;rw [e] at h;simp only [Option.bind_some,hg,Option.getD_some,Option.some.injEq] at h;subst h;exact ⟨i,rfl,hg,h1,h2⟩
theorem zo3 {fr:List (Option Frm)} (one:One fr) {i:Nat} {f:Frm} (h:fr[i]? = some (some f)):frmOf fr f.name f.k=some f:=by
 unfold frmOf;rw [zsd one h];simp [h]
theorem zeZ {fr:List (Option Frm)} {nm:List UInt8} {k:Nat} (h:some (nm,k)∈zac fr):∃ f,frmOf fr nm k=some f:=by
 cases e:fr.findIdx? (isAt nm k) with
 | none=>exact absurd h (idx_none.1 e)
 | some i=>
  obtain ⟨g,hg,h1,h2⟩:=zaX e;refine ⟨g,?_⟩;unfold frmOf;rw [e];simp [hg]
theorem PstOk.one' {p:Pst} (h:PstOk p):One p.fr:=h.one
theorem zb9 (fr:List (Option Frm)) (i:Nat) (o:Option Frm):zac (fr.set i o)=(zac fr).set i (o.map fun f=>(f.name,f.k)):=List.map_set
theorem zbl {fr:List (Option Frm)} {g:Frm→Frm} (h1:∀ f,(g f).name=f.name) (h2:∀ f,(g f).k=f.k) (i:Nat):zac (fr.modify i (Option.map g))=zac fr:=by
 apply List.ext_getElem?;intro j;rw [zbL,zbL,List.getElem?_modify];cases fr[j]? with
 | none=>rfl
 | some o=>
  cases o with
  | none=>simp
  | some f=>
   simp only [Option.map_some];split
   ·simp [h1,h2]
   ·simp
theorem zcn {fr:List (Option Frm)} {g:Frm→Frm} (h:∀ f,(g f).pins=f.pins) (i:Nat):pinN (fr.modify i (Option.map g))=pinN fr:=by
 have e:∀ l:List (Option Frm),pinN l=(l.map (fun o=>isPin o)).countP id:=fun l=>by unfold pinN;rw [List.countP_map];rfl
 rw [e,e];congr 1
 apply List.ext_getElem?;intro j;rw [List.getElem?_map,List.getElem?_map,List.getElem?_modify];cases fr[j]? with
 | none=>rfl
 | some o=>
  cases o with
  | none=>simp
  | some f=>
   simp only [Option.map_some];split
   ·simp [isPin,h]
   ·simp
def unU (fr:List (Option Frm)):List (Option Frm):=fr.map (Option.map fun f=>{f with used:=false})
theorem zfn (fr:List (Option Frm)):(unU fr).length=fr.length:=List.length_map _
theorem zfo (fr:List (Option Frm)) (i:Nat):(unU fr)[i]? = (fr[i]?).map (Option.map fun f=>{f with used:=false}):=List.getElem?_map
theorem zds {fr fr':List (Option Frm)} (h:unU fr=unU fr'):zac fr=zac fr':=by
 have e:∀ l,zac l=zac (unU l):=fun l=>by
  unfold zac unU;rw [List.map_map];congr 1
  funext o
  cases o<;>rfl
 rw [e fr,e fr',h]
theorem zd2 {fr fr':List (Option Frm)} (h:unU fr=unU fr'):pinN fr=pinN fr':=by
 have e:∀ l,pinN l=pinN (unU l):=fun l=>by
  unfold pinN unU;rw [List.countP_map];congr 1
  funext o
  cases o<;>rfl
 rw [e fr,e fr',h]
theorem zk3 {fr fr':List (Option Frm)} (h:unU fr=unU fr'):resN fr=resN fr':=by rw [zbs,zbs,zds h]
theorem zgB {fr fr':List (Option Frm)} (h:unU fr=unU fr') {i:Nat} {f:Frm} (hf:fr[i]? = some (some f)):∃ u,fr'[i]? = some (some {f with used:=u}):=by
 have e:=zfo fr' i;rw [←h,zfo,hf] at e;cases e2:fr'[i]? with
 | none=>rw [e2] at e;cases e
 | some o=>
  rw [e2] at e;cases o with
  | none=>simp at e
  | some g=>
   simp only [Option.map_some,Option.some.injEq,Frm.mk.injEq,and_true] at e;obtain ⟨h1,h2,h3,h4⟩:=e;refine ⟨g.used,?_⟩;cases g
   cases f
   simp_all
theorem zqW {fr:List (Option Frm)} {i:Nat} {f:Frm} (h:fr[i]? = some (some f)) (u:Bool):unU (fr.set i (some {f with used:=u}))=unU fr:=by
 apply List.ext_getElem?;intro j;rw [zfo,zfo,List.getElem?_set];split
 ·rename_i e;subst e;have hi:=(zI9.1 h).1;rw [if_pos hi,h];rfl
 ·rfl
theorem zel (m:Nat) (fr:List (Option Frm)) (h:Nat) {f:Frm} (e:fr[h]? = some (some f)):seekS (m+1) fr h =
 if 0<f.pins then seekS m fr ((h+1)%fr.length) else if f.used=true then seekS m (fr.set h (some {f with used:=false})) ((h+1)%fr.length) else (fr,h,true):=by
 rw [seekS,e]
theorem zo4 (m:Nat) (fr:List (Option Frm)) (h:Nat) (e:∀ f,fr[h]? ≠ some (some f)):seekS m fr h=(fr,h,false):=by
 cases m with
 | zero=>rfl
 | succ m=>
  rw [seekS];split
  ·rename_i f hf;exact absurd hf (e f)
  ·rfl
theorem zca (m:Nat):∀ (fr:List (Option Frm)) (h:Nat),unU (seekS m fr h).1=unU fr∧(h<fr.length→(seekS m fr h).2.1<fr.length)∧
 ((seekS m fr h).2.2=true→∃ f,(seekS m fr h).1[(seekS m fr h).2.1]? = some (some f)∧f.pins=0∧f.used=false):=by
 induction m with
 | zero=>
  intro fr h;exact ⟨rfl,fun h=>h,fun h=>by cases h⟩
 | succ m ih=>
  intro fr h;by_cases e:∃ f,fr[h]? = some (some f)
  ·obtain ⟨f,e⟩:=e;have hl:=(zI9.1 e).1;have hm:(h+1)%fr.length<fr.length:=Nat.mod_lt _ (by omega);rw [zel m fr h e];split
   ·obtain ⟨h1,h2,h3⟩:=ih fr ((h+1)%fr.length);exact ⟨h1,fun _=>h2 hm,h3⟩
   ·split
    ·obtain ⟨h1,h2,h3⟩:=ih (fr.set h (some {f with used:=false})) ((h+1)%fr.length);rw [List.length_set] at h2;exact ⟨h1.trans (zqW e false),fun _=>h2 hm,h3⟩
    ·rename_i h1 h2;refine ⟨rfl,fun h=>h,fun _=>⟨f,e,by omega,?_⟩⟩;cases hu:f.used with
     | false=>rfl
     | true=>exact absurd hu h2
  ·rw [zo4 _ _ _ (fun f hf=>e ⟨f,hf⟩)];exact ⟨rfl,fun h=>h,fun h=>by cases h⟩
theorem zem (m:Nat) (fr:List (Option Frm)) (h:Nat):(seekS m fr h).1.length=fr.length:=by
 have:=congrArg List.length (zca m fr h).1
 rwa [zfn,zfn] at this
theorem zd3 (fs:List Frm):∀ p:Pst,(wbS p fs).1.fr=p.fr∧(wbS p fs).1.hand=p.hand∧(wbS p fs).1.mostR=p.mostR∧(wbS p fs).1.mostP=p.mostP:=by
 induction fs with
 | nil=>intro p;exact ⟨rfl,rfl,rfl,rfl⟩
 | cons f fs ih=>
  intro p;rw [wbS];split
  ·exact ih _
  ·exact ⟨rfl,rfl,rfl,rfl⟩
theorem wb_dl (fs:List Frm):∀ p:Pst,DlOk p.dl→DlOk (wbS p fs).1.dl∧(∀ nm x,x∈zaa (wbS p fs).1.dl nm→x∈zaa p.dl nm)∧((wbS p fs).2=0→∀ f∈fs,f.k∉zaa (wbS p fs).1.dl f.name):=by
 induction fs with
 | nil=>intro p h;exact ⟨h,fun _ _ h=>h,fun _ f hf=>by simp at hf⟩
 | cons f fs ih=>
  intro p h;rw [wbS];split
  ·obtain ⟨h1,h2,h3⟩:=ih {p with d:=(zaG p.d f.name (f.k:Int) f.b).1,dl:=zaQ p.dl f.name f.k} (h.clean _ _);have hs:∀ nm x,x∈zaa (zaQ p.dl f.name f.k) nm→x∈zaa p.dl nm∧(nm=f.name→x≠f.k):=fun nm x hx=>by
    rw [zb4] at hx;split at hx
    ·rename_i e;rw [zcF (h.rise_of _)] at hx;exact ⟨by rw [e];exact hx.2,fun _=>hx.1⟩
    ·rename_i e;exact ⟨hx,fun e2=>absurd e2 e⟩
   refine ⟨h1,fun nm x hx=>(hs nm x (h2 nm x hx)).1,fun h0 g hg=>?_⟩;rcases List.mem_cons.1 hg with rfl|hg
   ·intro hx;exact (hs _ _ (h2 _ _ hx)).2 rfl rfl
   ·exact h3 h0 g hg
  ·rename_i h0;exact ⟨h,fun _ _ h=>h,fun h1=>absurd h1 h0⟩
theorem zcf (p:Pst) (f:Frm):(saveS p f).1.fr=p.fr∧(saveS p f).1.hand=p.hand∧(saveS p f).1.mostR=p.mostR∧(saveS p f).1.mostP=p.mostP:=by
 unfold saveS;split
 ·split
  ·exact ⟨rfl,rfl,rfl,rfl⟩
  ·exact zd3 _ _
 ·exact ⟨rfl,rfl,rfl,rfl⟩
theorem zhk (p:Pst) (f:Frm) (h:DlOk p.dl) (hf:some (f.name,f.k)∈zac p.fr):DlOk (saveS p f).1.dl∧(∀ nm x,x∈zaa (saveS p f).1.dl nm→x∈zaa p.dl nm)∧((saveS p f).2=0→f.k∉zaa (saveS p f).1.dl f.name):=by
 unfold saveS;split
 ·split
  ·rename_i h1 h2;exact ⟨h,fun _ _ h=>h,fun h3=>absurd h3 h2⟩
  ·obtain ⟨h1,h2,h3⟩:=wb_dl ((saved (zaa p.dl f.name) (zas p.d f.name).1 f.k).filterMap (frmOf p.fr f.name)) p h;refine ⟨h1,h2,fun h0=>?_⟩;obtain ⟨g,hg⟩:=zeZ hf;obtain ⟨i,-,-,hn,hk⟩:=zek hg;have:=h3 h0 g (List.mem_filterMap.2 ⟨f.k,by simp [saved],hg⟩)
   rwa [hn,hk] at this
 ·rename_i h1;exact ⟨h,fun _ _ h=>h,fun _=>h1⟩
section
variable {α:Type}
theorem zfp (f:α→Nat):∀ {l:List α} {i:Nat} {y:α} (x:α),l[i]? = some y→((l.set i x).map f).sum+f y=(l.map f).sum+f x
 | [],i,y,x,h=>by simp at h
 | a::l,0,y,x,h=>by
  simp only [List.getElem?_cons_zero,Option.some.injEq] at h;subst h;simp only [List.set_cons_zero,List.map_cons,List.sum_cons];omega
 | a::l,i+1,y,x,h=>by
  simp only [List.getElem?_cons_succ] at h;have:=zfp f x h;simp only [List.set_cons_succ,List.map_cons,List.sum_cons];omega
theorem zbe (p:α→Bool):∀ {l:List α} {i:Nat} {y:α} (x:α),l[i]? = some y→(l.set i x).countP p+(if p y=true then 1 else 0)=l.countP p+(if p x=true then 1 else 0)
 | [],i,y,x,h=>by simp at h
 | a::l,0,y,x,h=>by
  simp only [List.getElem?_cons_zero,Option.some.injEq] at h;subst h;simp only [List.set_cons_zero,List.countP_cons];omega
 | a::l,i+1,y,x,h=>by
  simp only [List.getElem?_cons_succ] at h;have:=zbe p x h;simp only [List.set_cons_succ,List.countP_cons];omega
theorem zlC (g:α→α) {l:List α} {i:Nat} {y:α} (h:l[i]? = some y):l.modify i g=l.set i (g y):=by
 apply List.ext_getElem?;intro j;have hi:=(zI9.1 h).1;rw [List.getElem?_modify,List.getElem?_set];by_cases e:i=j
 ·subst e;have e2:l[i]=y:=by rw [zG9 hi] at h;exact Option.some.inj h
  simp [hi,e2]
 ·simp [e]
end
def za8:Option Frm→Nat
 | some f=>f.pins
 | none=>0
def sumP (fr:List (Option Frm)):Nat:=(fr.map za8).sum
theorem zhl {fr fr':List (Option Frm)} (h:unU fr=unU fr'):sumP fr=sumP fr':=by
 have e:∀ l,sumP l=sumP (unU l):=fun l=>by
  unfold sumP unU;rw [List.map_map];congr 2
  funext o
  cases o<;>rfl
 rw [e fr,e fr',h]
def Bnd (M:Nat) (fr:List (Option Frm)):Prop:=∀ (i:Nat) (f:Frm),fr[i]? = some (some f)→f.k≤M∧f.pins≤M
theorem zfq {M:Nat} {fr fr':List (Option Frm)} (h:unU fr=unU fr') (b:Bnd M fr):Bnd M fr':=fun i f hf=>by
 obtain ⟨u,hu⟩:=zgB h.symm hf;have:=b i _ hu;exact this
theorem Bnd.more {M M':Nat} {fr:List (Option Frm)} (b:Bnd M fr) (h:M≤M'):Bnd M' fr:=fun i f hf=>by have:=b i f hf;omega
theorem Bnd.set {M:Nat} {fr:List (Option Frm)} (b:Bnd M fr) (i:Nat) {o:Option Frm} (ho:∀ f,o=some f→f.k≤M∧f.pins≤M):Bnd M (fr.set i o):=fun j f hf=>by
 rw [List.getElem?_set] at hf;split at hf
 ·split at hf
  ·exact ho f (Option.some.inj hf)
  ·cases hf
 ·exact b j f hf
theorem zgC {fr:List (Option Frm)} (h:resN fr<fr.length):fr[zcU fr]? = some none:=by
 have h1:∃ o∈fr,o.isNone=true:=by
  rcases Classical.em (∃ o∈fr,o.isNone=true) with h2|h2
  ·exact h2
  ·exfalso;have:resN fr=fr.length:=by
    unfold resN;rw [List.countP_eq_length];intro o ho;cases o with
    | none=>exact absurd ⟨none,ho,rfl⟩ h2
    | some f=>rfl
   omega
 have h2:zcU fr<fr.length:=List.findIdx_lt_length_of_exists h1;have h3:=List.findIdx_getElem (p:=fun o:Option Frm=>o.isNone) (w:=h2);rw [zG9 h2];congr 1
 exact Option.isNone_iff_eq_none.1 h3
theorem zgD (fr:List (Option Frm)):resN fr≤fr.length:=List.countP_le_length
theorem zjb (fr:List (Option Frm)) (i:Nat):resN (fr.set i none)≤resN fr:=by
 by_cases h:i<fr.length
 ·have:=zbe (fun o:Option Frm=>o.isSome) (l:=fr) (i:=i) (y:=fr[i]) none (zG9 h);unfold resN;simp only [Option.isSome_none,Bool.false_eq_true,if_false] at this;omega
 ·rw [List.set_eq_of_length_le (by omega)];exact Nat.le_refl _
theorem zjc (fr:List (Option Frm)) (i:Nat):pinN (fr.set i none)≤pinN fr:=by
 by_cases h:i<fr.length
 ·have:=zbe isPin (l:=fr) (i:=i) (y:=fr[i]) none (zG9 h);unfold pinN;simp only [isPin,Bool.false_eq_true,if_false] at this;omega
 ·rw [List.set_eq_of_length_le (by omega)];exact Nat.le_refl _
theorem zdt {fr:List (Option Frm)} (one:One fr) (i:Nat):One (fr.set i none):=by
 intro a b x ha hb;rw [zb9,List.getElem?_set] at ha hb;split at ha
 ·split at ha<;>simp at ha
 ·split at hb
  ·split at hb<;>simp at hb
  ·exact one a b x ha hb
theorem zb5 {fr:List (Option Frm)} {i:Nat} {x:List UInt8×Nat} (h:some x∈zac (fr.set i none)):some x∈zac fr:=by
 obtain ⟨j,hj⟩:=List.mem_iff_getElem?.1 h;rw [zb9,List.getElem?_set] at hj;split at hj
 ·split at hj<;>simp at hj
 ·exact List.mem_of_getElem? hj
theorem zcG {fr:List (Option Frm)} {i:Nat} {f:Frm} (hf:fr[i]? = some (some f)) (o:Option Frm) {x:List UInt8×Nat} (hx:some x∈zac fr) (hne:x≠(f.name,f.k)):some x∈zac (fr.set i o):=by
 obtain ⟨j,hj⟩:=List.mem_iff_getElem?.1 hx;have hij:i≠j:=by
  rintro rfl;rw [zbA hf] at hj;exact hne (Option.some.inj (Option.some.inj hj)).symm
 exact List.mem_of_getElem? (i:=j) (by rw [zb9,List.getElem?_set,if_neg hij];exact hj)
structure Took (p:Pst) (q:Pst×Nat×Nat):Prop where
 ok:PstOk q.1
 keys:∀ x,some x∈zac q.1.fr→some x∈zac p.fr
 len:q.1.fr.length=p.fr.length
 at_:q.2.2=0→q.1.fr[q.2.1]? = some none
 pin:pinN q.1.fr=pinN p.fr
 sum:sumP q.1.fr=sumP p.fr
 bnd:∀ M,Bnd M p.fr→Bnd M q.1.fr
 mostR:q.1.mostR=p.mostR
 mostP:q.1.mostP=p.mostP
theorem PstOk.seek {p:Pst} (h:PstOk p) (m:Nat):PstOk {p with fr:=(seekS m p.fr p.hand).1,hand:=(seekS m p.fr p.hand).2.1}:=by
 obtain ⟨h1,h2,-⟩:=zca m p.fr p.hand;have hk:=zds h1;have hl:=zem m p.fr p.hand;refine ⟨?_,?_,?_,h.dl,?_,?_,?_,?_⟩
 ·show 1≤(seekS m p.fr p.hand).1.length∧_;rw [hl];exact h.n
 ·show (seekS m p.fr p.hand).2.1<(seekS m p.fr p.hand).1.length;rw [hl];exact h2 h.hand
 ·show One (seekS m p.fr p.hand).1;unfold One;rw [hk];exact h.one
 ·show ∀ nm k,k∈zaa p.dl nm→some (nm,k)∈zac (seekS m p.fr p.hand).1;rw [hk];exact h.held
 ·show ∀ x,some x∈zac (seekS m p.fr p.hand).1→_;rw [hk];exact h.names
 ·show resN (seekS m p.fr p.hand).1≤p.mostR;rw [zk3 h1];exact h.mostR
 ·show pinN (seekS m p.fr p.hand).1≤p.mostP;rw [zd2 h1];exact h.mostP
theorem PstOk.save {p:Pst} (h:PstOk p) (f:Frm) (hf:some (f.name,f.k)∈zac p.fr):PstOk (saveS p f).1:=by
 obtain ⟨e1,e2,e3,e4⟩:=zcf p f;obtain ⟨d1,d2,-⟩:=zhk p f h.dl hf;exact ⟨by rw [e1];exact h.n,by rw [e1,e2];exact h.hand,by rw [e1];exact h.one,d1,fun nm k hk=>by rw [e1];exact h.held nm k (d2 nm k hk),by rw [e1];exact h.names,by rw [e1,e3];exact h.mostR,by rw [e1,e4];exact h.mostP⟩
theorem PstOk.empty {p:Pst} (h:PstOk p) {i:Nat} {f:Frm} (hf:p.fr[i]? = some (some f)) (hd:f.k∉zaa p.dl f.name) (hand:Nat) (hh:hand<p.fr.length):PstOk {p with fr:=p.fr.set i none,hand:=hand}:=
 ⟨by simpa using h.n,by simpa using hh,zdt h.one i,h.dl,fun nm k hk=>zcG hf none (h.held nm k hk) (fun e=>by obtain ⟨rfl,rfl⟩:=Prod.mk.inj e;exact hd hk),fun x hx=>h.names x (zb5 hx),Nat.le_trans (zjb _ _) h.mostR,Nat.le_trans (zjc _ _) h.mostP⟩
theorem zbM {p:Pst} (h:PstOk p):Took p (takeS p):=by
 unfold takeS;split
 ·rename_i hr;exact ⟨h,fun _ h=>h,rfl,fun _=>zgC hr,rfl,rfl,fun _ h=>h,rfl,rfl⟩
 ·obtain ⟨h1,h2,h3⟩:=zca (2*p.fr.length) p.fr p.hand;have hS:=h.seek (2*p.fr.length);have hl:=zem (2*p.fr.length) p.fr p.hand;generalize seekS (2*p.fr.length) p.fr p.hand=r at *;have base:Took p ({p with fr:=r.1,hand:=r.2.1},0,10):=⟨hS,fun x hx=>by rw [←zds h1];exact hx,hl,(fun h0=>by cases h0),zd2 h1,zhl h1,fun M b=>zfq h1.symm b,rfl,rfl⟩
  simp only;split
  ·exact base
  ·rename_i hf;obtain ⟨f,e,hp,hu⟩:=h3 (by cases h4:r.2.2 with|false=>exact absurd h4 hf|true=>rfl);rw [e];simp only;have hk:some (f.name,f.k)∈zac r.1:=mem_keys.2 ⟨_,f,e,rfl,rfl⟩;have hV:=hS.save f hk;obtain ⟨e1,e2,e3,e4⟩:=zcf {p with fr:=r.1,hand:=r.2.1} f;obtain ⟨-,-,d3⟩:=zhk {p with fr:=r.1,hand:=r.2.1} f hS.dl hk;generalize saveS {p with fr:=r.1,hand:=r.2.1} f=q at *;simp only at e1 e2 e3 e4;split
   ·rename_i hE;exact ⟨hV,fun x hx=>by rw [←zds h1,←e1];exact hx,by rw [e1];exact hl,fun h0=>absurd h0 hE,by rw [e1];exact zd2 h1,by rw [e1];exact zhl h1,fun M b=>by rw [e1];exact zfq h1.symm b,e3,e4⟩
   ·rename_i hE;have hE:q.2=0:=(by omega);have hlt:r.2.1<r.1.length:=(zI9.1 e).1;have e':q.1.fr[r.2.1]? = some (some f):=by rw [e1];exact e
    refine ⟨hV.empty e' (d3 hE) _ (Nat.mod_lt _ (by rw [e1];omega)),fun x hx=>?_,?_,fun _=>?_,?_,?_,fun M b=>?_,e3,e4⟩
    ·have:=zb5 hx;rw [e1,zds h1] at this;exact this
    ·simp only [List.length_set];rw [e1];exact hl
    ·simp only;rw [List.getElem?_set,if_pos rfl,if_pos (by rw [e1];exact hlt)]
    ·have:=zbe isPin (l:=q.1.fr) (y:=some f) none e';simp only [isPin,hp,Nat.lt_irrefl,decide_false,Bool.false_eq_true,if_false,Nat.add_zero] at this;show pinN (q.1.fr.set r.2.1 none)=_;rw [←zd2 h1,←e1];exact this
    ·have:=zfp za8 (l:=q.1.fr) (y:=some f) none e';simp only [za8,hp,Nat.add_zero] at this;show sumP (q.1.fr.set r.2.1 none)=_;rw [←zhl h1,←e1];exact this
    ·exact Bnd.set (by rw [e1];exact zfq h1.symm b) _ (fun f h=>by cases h)
theorem PstOk.disk {p:Pst} (h:PstOk p) (d:Ds):PstOk {p with d:=d}:=⟨h.n,h.hand,h.one,h.dl,h.held,h.names,h.mostR,h.mostP⟩
theorem zmY {s:Ds} {nm:List UInt8} (h:openE s nm=0):nm.length≤24:=by
 have h1:(sizeS s nm).2=0:=by
  unfold openE at h;split at h
  ·assumption
  ·rename_i h2;omega
 unfold sizeS at h1;split at h1
 ·simp at h1
 ·split at h1
  ·simp at h1
  ·rename_i h2;unfold zaf at h2;simp only [Bool.and_eq_false_imp,decide_eq_true_eq] at h2;by_cases h3:nm.length≤24
   ·exact h3
   ·exact absurd (fun h4:1≤nm.length∧nm.length≤24=>absurd h4.2 h3) h2
theorem zcb {p:Pst} {i:Nat} {f:Frm} (h:p.fr[i]? = some (some f)) (g:Frm→Frm):(onFr p i g).fr=p.fr.set i (some (g f)):=zlC (Option.map g) h
theorem PstOk.on {p:Pst} (h:PstOk p) {g:Frm→Frm} (h1:∀ f,(g f).name=f.name) (h2:∀ f,(g f).k=f.k) (i:Nat) (m:Nat) (hm:pinN (onFr p i g).fr≤m):PstOk {onFr p i g with mostP:=m}:=by
 have hk:zac (onFr p i g).fr=zac p.fr:=zbl h1 h2 i;refine ⟨?_,?_,?_,h.dl,?_,?_,?_,hm⟩
 ·show 1≤(onFr p i g).fr.length∧_;rw [←zaV,hk,zaV];exact h.n
 ·show p.hand<(onFr p i g).fr.length;rw [←zaV,hk,zaV];exact h.hand
 ·show One (onFr p i g).fr;unfold One;rw [hk];exact h.one
 ·show ∀ nm k,k∈zaa p.dl nm→some (nm,k)∈zac (onFr p i g).fr;rw [hk];exact h.held
 ·show ∀ x,some x∈zac (onFr p i g).fr→_;rw [hk];exact h.names
 ·show resN (onFr p i g).fr≤p.mostR;rw [zbs,hk,←zbs];exact h.mostR
theorem ze0 {M:Nat} {p:Pst} (b:Bnd M p.fr) {g:Frm→Frm} (i:Nat) {M':Nat} (hM:M≤M') (hg:∀ f,f.k≤M→f.pins≤M→(g f).k≤M'∧(g f).pins≤M'):Bnd M' (onFr p i g).fr:=by
 intro j f hf;have e:(onFr p i g).fr[j]? = (p.fr.modify i (Option.map g))[j]?:=rfl;rw [e,List.getElem?_modify] at hf;cases e2:p.fr[j]? with
 | none=>rw [e2] at hf;cases hf
 | some o=>
  rw [e2] at hf;cases o with
  | none=>simp at hf
  | some f0=>
   obtain ⟨b1,b2⟩:=b j f0 e2;simp only [Option.map_eq_map,Option.map_some,Option.some.injEq] at hf;split at hf
   ·simp only [Option.map_some,Option.some.injEq] at hf;subst hf;exact hg f0 b1 b2
   ·simp only [Option.some.injEq] at hf;subst hf;omega
theorem zmZ {p:Pst} {i:Nat} {f:Frm} (h:p.fr[i]? = some (some f)) (g:Frm→Frm):sumP (onFr p i g).fr+f.pins=sumP p.fr+(g f).pins:=by
 rw [zcb h];exact zfp za8 (some (g f)) h
theorem zdT {p:Pst} (i:Nat) {g:Frm→Frm} (h:∀ f,(g f).pins=f.pins):sumP (onFr p i g).fr=sumP p.fr:=by
 have e:∀ l:List (Option Frm),sumP l=(l.map za8).sum:=fun l=>rfl
 rw [e,e];congr 1
 apply List.ext_getElem?;intro j;rw [List.getElem?_map,List.getElem?_map,show (onFr p i g).fr[j]? = (p.fr.modify i (Option.map g))[j]? from rfl,List.getElem?_modify];cases p.fr[j]? with
 | none=>rfl
 | some o=>
  cases o with
  | none=>simp
  | some f=>
   simp only [Option.map_eq_map,Option.map_some];split
   ·simp [za8,h]
   ·simp
structure Kept (p:Pst) (nm:List UInt8) (k:Nat) (q:Pst):Prop where
 ok:PstOk q
 keys:∀ x,some x∈zac q.fr→some x∈zac p.fr∨x=(nm,k)
 len:q.fr.length=p.fr.length
 pin:pinN q.fr=pinN p.fr
 sum:sumP q.fr=sumP p.fr
 bnd:∀ M,Bnd M p.fr→k≤M→Bnd M q.fr
 mostP:q.mostP=p.mostP
theorem Took.kept {p:Pst} {q:Pst×Nat×Nat} (h:Took p q) (nm:List UInt8) (k:Nat):Kept p nm k q.1:=⟨h.ok,fun x hx=>.inl (h.keys x hx),h.len,h.pin,h.sum,fun M b _=>h.bnd M b,h.mostP⟩
theorem za2 {p:Pst} (h:PstOk p) {nm:List UInt8} {k:Nat} (hk:some (nm,k)∉zac p.fr) (hnm:nm.length≤24) (t:List UInt8) :
 Kept p nm k (holdS p nm k t).1∧((holdS p nm k t).2.2=0→(holdS p nm k t).1.fr[(holdS p nm k t).2.1]? = some (some ⟨nm,k,t,0,false⟩)):=by
 have T:=zbM h;unfold holdS;generalize takeS p=q at *;simp only;split
 ·rename_i hE;exact ⟨T.kept nm k,fun h0=>absurd h0 hE⟩
 ·rename_i hE;have hE:q.2.2=0:=(by omega);have e:=T.at_ hE;have hlt:=(zI9.1 e).1;have hk':some (nm,k)∉zac q.1.fr:=fun h=>hk (T.keys _ h)
  have hkeys:∀ x,some x∈zac (q.1.fr.set q.2.1 (some ⟨nm,k,t,0,false⟩))→some x∈zac q.1.fr∨x=(nm,k):=fun x hx=>by
   obtain ⟨j,hj⟩:=List.mem_iff_getElem?.1 hx;rw [zb9,List.getElem?_set] at hj;split at hj
   ·split at hj
    ·simp only [Option.map_some,Option.some.injEq] at hj;exact .inr hj.symm
    ·cases hj
   ·exact .inl (List.mem_of_getElem? hj)
  refine ⟨⟨⟨?_,?_,?_,T.ok.dl,?_,?_,?_,?_⟩,?_,?_,?_,?_,?_,T.mostP⟩,fun _=>?_⟩
  ·simp only [List.length_set];exact T.ok.n
  ·simp only [List.length_set];exact T.ok.hand
  ·intro a b x ha hb;rw [zb9,List.getElem?_set] at ha hb;split at ha
   ·rename_i e1;split at hb
    ·rename_i e2;exact e1.symm.trans e2
    ·split at ha
     ·simp only [Option.map_some,Option.some.injEq] at ha;subst ha;exact absurd (List.mem_of_getElem? hb) hk'
     ·cases ha
   ·split at hb
    ·split at hb
     ·simp only [Option.map_some,Option.some.injEq] at hb;subst hb;exact absurd (List.mem_of_getElem? ha) hk'
     ·cases hb
    ·exact T.ok.one a b x ha hb
  ·intro nm' k' hd;obtain ⟨j,hj⟩:=List.mem_iff_getElem?.1 (T.ok.held nm' k' hd);have hij:q.2.1≠j:=by
    rintro rfl;rw [zbL,e] at hj;simp at hj
   exact List.mem_of_getElem? (i:=j) (by rw [zb9,List.getElem?_set,if_neg hij];exact hj)
  ·intro x hx;rcases hkeys x hx with h1|rfl
   ·exact T.ok.names x h1
   ·exact hnm
  ·exact Nat.le_max_right _ _
  ·have:=zbe isPin (l:=q.1.fr) (y:=none) (some ⟨nm,k,t,0,false⟩) e;simp only [isPin,Nat.lt_irrefl,decide_false,Bool.false_eq_true,if_false,Nat.add_zero] at this;show pinN (q.1.fr.set q.2.1 _)≤_;unfold pinN;rw [this];exact T.ok.mostP
  ·intro x hx;rcases hkeys x hx with h1|h1
   ·exact .inl (T.keys x h1)
   ·exact .inr h1
  ·simp only [List.length_set];exact T.len
  ·have:=zbe isPin (l:=q.1.fr) (y:=none) (some ⟨nm,k,t,0,false⟩) e;simp only [isPin,Nat.lt_irrefl,decide_false,Bool.false_eq_true,if_false,Nat.add_zero] at this;rw [←T.pin];exact this
  ·have:=zfp za8 (l:=q.1.fr) (y:=none) (some ⟨nm,k,t,0,false⟩) e;simp only [za8,Nat.add_zero] at this;rw [←T.sum];exact this
  ·intro M b hM;exact (T.bnd M b).set _ (fun f hf=>by cases hf;exact ⟨hM,Nat.zero_le _⟩)
  ·show (q.1.fr.set q.2.1 _)[q.2.1]? = _;rw [List.getElem?_set,if_pos rfl,if_pos hlt]
theorem Kept.use {p q:Pst} {nm:List UInt8} {k:Nat} (h:Kept p nm k q) (i:Nat):Kept p nm k (onFr q i useF):=by
 have e:zac (onFr q i useF).fr=zac q.fr:=zbl (g:=useF) (fun _=>rfl) (fun _=>rfl) i;have ep:pinN (onFr q i useF).fr=pinN q.fr:=zcn (g:=useF) (fun _=>rfl) i;refine ⟨h.ok.on (g:=useF) (fun _=>rfl) (fun _=>rfl) i q.mostP (by rw [ep];exact h.ok.mostP),fun x hx=>h.keys x (by rw [←e];exact hx),?_,ep.trans h.pin,(zdT (g:=useF) i (fun _=>rfl)).trans h.sum,fun M b hM=>ze0 (h.bnd M b hM) i (Nat.le_refl _) (fun f h1 h2=>⟨h1,h2⟩),h.mostP⟩;rw [←zaV,e,zaV];exact h.len
theorem zlD {p:Pst} (h:PstOk p) {nm:List UInt8} {k:Nat} (hnm:nm.length≤24) :
 Kept p nm k (zav p nm k).1∧((zav p nm k).2.2=0→∃ f,(zav p nm k).1.fr[(zav p nm k).2.1]? = some (some f)∧f.name=nm∧f.k=k):=by
 have base:Kept p nm k p:=⟨h,fun x hx=>.inl hx,rfl,rfl,rfl,fun _ b _=>b,rfl⟩
 unfold zav;cases e:p.fr.findIdx? (isAt nm k) with
 | some i=>
  obtain ⟨f,hf,h1,h2⟩:=zaX e;refine ⟨base.use i,fun _=>⟨useF f,?_,h1,h2⟩⟩;simp only;rw [zcb hf,List.getElem?_set,if_pos rfl,if_pos (zI9.1 hf).1]
 | none=>
  have hk:=idx_none.1 e;simp only;split
  ·rename_i hE;exact ⟨base,fun h0=>absurd h0 hE⟩
  ·obtain ⟨T,hT⟩:=za2 h hk hnm (readP p.d nm (k:Int)).1;generalize holdS p nm k (readP p.d nm (k:Int)).1=q at *;split
   ·rename_i hE;exact ⟨T,fun h0=>absurd h0 hE⟩
   ·rename_i hE;have hf:=hT (by omega);refine ⟨T.use q.2.1,fun _=>⟨useF ⟨nm,k,(readP p.d nm (k:Int)).1,0,false⟩,?_,rfl,rfl⟩⟩
    ·simp only;rw [zcb hf,List.getElem?_set,if_pos rfl,if_pos (zI9.1 hf).1]
theorem zcg {p:Pst} {nm:List UInt8} (h:(findP p nm).2=0):openE p.d nm=0∧nm.length≤24:=by
 unfold findP at h;split at h
 ·rename_i h1;exact absurd h h1
 ·rename_i h1;have:openE p.d nm=0:=(by omega);exact ⟨this,zmY this⟩
theorem zen {p:Pst} (hd:DsOk p.d) (h:PstOk p) {M:Nat} (b:Bnd M p.fr) (hM:65536≤M) (nm:List UInt8):(findP p nm).1≤M+1:=by
 unfold findP;split
 ·exact Nat.zero_le _
 ·simp only;have h1:=zdZ hd nm;have h2:(zas p.d nm).1≤65536:=by unfold zas;simp only;omega
  have h3:((zaa p.dl nm).getLast?.map (· + 1)).getD 0≤M+1:=by
   cases e:(zaa p.dl nm).getLast? with
   | none=>simp
   | some y=>
    simp only [Option.map_some,Option.getD_some];obtain ⟨i,f,hf,-,rfl⟩:=mem_keys.1 (h.held nm y (List.mem_of_getLast? e));have:=b i f hf;omega
  omega
theorem zdu {p:Pst} (h:PstOk p) (nm:List UInt8) (k:Int) :
 Kept p nm k.toNat (getP p nm k).1∧((getP p nm k).2.2=0→0≤k∧k.toNat<(findP p nm).1∧(findP p nm).2=0∧∃ f,(getP p nm k).1.fr[(getP p nm k).2.1]? = some (some f)∧f.name=nm∧f.k=k.toNat)∧
 ((findP p nm).1≤k.toNat→(getP p nm k).1=p):=by
 have base:Kept p nm k.toNat p:=⟨h,fun x hx=>.inl hx,rfl,rfl,rfl,fun _ b _=>b,rfl⟩
 unfold getP;split
 ·rename_i hE;exact ⟨base,fun h0=>absurd h0 hE,fun _=>rfl⟩
 ·rename_i hE;have hE:(findP p nm).2=0:=(by omega);split
  ·exact ⟨base,fun h0=>by simp at h0,fun _=>rfl⟩
  ·split
   ·exact ⟨base,fun h0=>by simp at h0,fun _=>rfl⟩
   ·obtain ⟨h1,h2⟩:=zlD h (k:=k.toNat) (zcg hE).2;exact ⟨h1,fun h0=>⟨by omega,by omega,hE,h2 h0⟩,fun h0=>by omega⟩
theorem zk4 {p:Pst} (hd:DsOk p.d) (h:PstOk p) {M:Nat} (b:Bnd M p.fr) (hM:65536≤M) (nm:List UInt8) (k:Int):Bnd M (getP p nm k).1.fr:=by
 obtain ⟨h1,-,h3⟩:=zdu h nm k;have:=zen hd h b hM nm;by_cases e:(findP p nm).1≤k.toNat
 ·rw [h3 e];exact b
 ·exact h1.bnd M b (by omega)
structure Well (p q:Pst):Prop where
 ok:PstOk q
 len:q.fr.length=p.fr.length
 bnd:∀ M,Bnd M p.fr→65536≤M→Bnd (M+1) q.fr
theorem Well.refl {p:Pst} (h:PstOk p):Well p p:=⟨h,rfl,fun M b _=>b.more (Nat.le_succ _)⟩
theorem zm0 {p:Pst} (hd:DsOk p.d) (h:PstOk p) (nm:List UInt8) (k:Int):Well p (zai p nm k).1:=by
 obtain ⟨h1,-,-⟩:=zdu h nm k;have hb:=fun M b hM=>(zk4 hd h (M:=M) b hM nm k).more (Nat.le_succ M)
 unfold zai;simp only;split
 ·exact ⟨h1.ok,h1.len,hb⟩
 ·exact ⟨h1.ok,h1.len,hb⟩
theorem zo5 {p:Pst} (hd:DsOk p.d) (h:PstOk p) (nm:List UInt8) (k:Int):Well p (pinPl p nm k).1:=by
 obtain ⟨h1,-,-⟩:=zdu h nm k;have hb:=fun M b hM=>zk4 hd h (M:=M) b hM nm k
 unfold pinPl;generalize getP p nm k=q at *;simp only;split
 ·exact ⟨h1.ok,h1.len,fun M b hM=>(hb M b hM).more (Nat.le_succ _)⟩
 ·have e:zac (onFr q.1 q.2.1 pinF).fr=zac q.1.fr:=zbl (g:=pinF) (fun _=>rfl) (fun _=>rfl) _;refine ⟨h1.ok.on (g:=pinF) (fun _=>rfl) (fun _=>rfl) _ _ (Nat.le_max_right _ _),?_,fun M b hM=>ze0 (hb M b hM) _ (Nat.le_succ _) (fun f h1 h2=>⟨Nat.le_trans h1 (Nat.le_succ _),Nat.succ_le_succ h2⟩)⟩;show (onFr q.1 q.2.1 pinF).fr.length=_;rw [←zaV,e,zaV];exact h1.len
theorem zo6 {p:Pst} {i:Nat} {f:Frm} (h:p.fr[i]? = some (some f)):pinN (onFr p i zbK).fr≤pinN p.fr:=by
 rw [zcb h];have h1:=zbe isPin (some (zbK f)) h;have h2:isPin (some (zbK f))=true→isPin (some f)=true:=fun e=>by
  have e1:0<f.pins-1:=of_decide_eq_true e;exact decide_eq_true (by omega:0<f.pins)
 unfold pinN;generalize isPin (some (zbK f))=x at *;generalize isPin (some f)=y at *;cases x<;>cases y<;>simp at h1 h2<;>omega
theorem zlE {p:Pst} (h:PstOk p) (nm:List UInt8) (k:Int):Well p (za4 p nm k).1:=by
 unfold za4;split
 ·exact Well.refl h
 ·cases e:p.fr.findIdx? (isAt nm k.toNat) with
  | none=>exact Well.refl h
  | some i=>
   simp only;split
   ·exact Well.refl h
   ·obtain ⟨f,hf,-,-⟩:=zaX e;have e:zac (onFr p i zbK).fr=zac p.fr:=zbl (g:=zbK) (fun _=>rfl) (fun _=>rfl) _;refine ⟨h.on (g:=zbK) (fun _=>rfl) (fun _=>rfl) i p.mostP (Nat.le_trans (zo6 hf) h.mostP),?_,fun M b hM=>ze0 b _ (Nat.le_succ _) (fun f h1 h2=>⟨Nat.le_trans h1 (Nat.le_succ _),by show f.pins-1≤_;omega⟩)⟩;show (onFr p i zbK).fr.length=_;rw [←zaV,e,zaV]
theorem PstOk.soil {p:Pst} (h:PstOk p) {nm:List UInt8} {k:Nat} (hk:some (nm,k)∈zac p.fr):PstOk {p with dl:=soilD p.dl nm k}:=
 ⟨h.n,h.hand,h.one,h.dl.soil nm k,fun nm' x hx=>by
  rcases (zcm p.dl nm k nm' x).1 hx with ⟨rfl,rfl⟩|h1
  ·exact hk
  ·exact h.held nm' x h1,h.names,h.mostR,h.mostP⟩
theorem zcH {p:Pst} (h:PstOk p) {i:Nat} {f:Frm} (hf:p.fr[i]? = some (some f)) (b:List UInt8):PstOk {onFr p i (overF b) with dl:=soilD p.dl f.name f.k}∧(onFr p i (overF b)).fr.length=p.fr.length:=by
 have e:zac (onFr p i (overF b)).fr=zac p.fr:=zbl (g:=(overF b)) (fun _=>rfl) (fun _=>rfl) _;have h1:PstOk (onFr p i (overF b)):=h.on (g:=overF b) (fun _=>rfl) (fun _=>rfl) i p.mostP (by rw [show pinN (onFr p i (overF b)).fr=pinN p.fr from zcn (g:=overF b) (fun _=>rfl) i];exact h.mostP);refine ⟨PstOk.soil h1 (by rw [e];exact mem_keys.2 ⟨i,f,hf,rfl,rfl⟩),by rw [←zaV,e,zaV]⟩
theorem zlF {p:Pst} (hd:DsOk p.d) (h:PstOk p) (nm:List UInt8) (k:Int) (b:List UInt8):Well p (zah p nm k b).1:=by
 unfold zah;split
 ·exact Well.refl h
 ·split
  ·exact Well.refl h
  ·rename_i hE;have hE:(findP p nm).2=0:=(by omega);split
   ·exact Well.refl h
   ·rename_i hk;cases e:p.fr.findIdx? (isAt nm k.toNat) with
    | some i=>
     obtain ⟨f,hf,h1,h2⟩:=zaX e;obtain ⟨h3,h4⟩:=zcH h hf b;rw [h1,h2] at h3;exact ⟨h3,h4,fun M bb hM=>ze0 bb i (Nat.le_succ _) (fun f h1 h2=>⟨Nat.le_trans h1 (Nat.le_succ _),Nat.le_trans h2 (Nat.le_succ _)⟩)⟩
    | none=>
     obtain ⟨T,hT⟩:=za2 h (idx_none.1 e) (zcg hE).2 [];generalize holdS p nm k.toNat []=q at *;have hb:∀ M,Bnd M p.fr→65536≤M→Bnd (M+1) q.1.fr:=(fun M bb hM=>T.bnd (M+1) (bb.more (Nat.le_succ _)) (by have:=zen hd h bb hM nm;omega));simp only;split
     ·exact ⟨T.ok,T.len,hb⟩
     ·rename_i hq;have hf:=hT (by omega);obtain ⟨h3,h4⟩:=zcH T.ok hf b;exact ⟨h3,h4.trans T.len,fun M bb hM=>ze0 (hb M bb hM) _ (Nat.le_refl _) (fun f h1 h2=>⟨h1,h2⟩)⟩
theorem zlG {p:Pst} (h:PstOk p) (nm:List UInt8):Well p (zao p nm).1:=by
 unfold zao;split
 ·exact Well.refl h
 ·obtain ⟨e1,e2,e3,e4⟩:=zd3 ((zaa p.dl nm).filterMap (frmOf p.fr nm)) p;obtain ⟨d1,d2,-⟩:=wb_dl ((zaa p.dl nm).filterMap (frmOf p.fr nm)) p h.dl;generalize wbS p ((zaa p.dl nm).filterMap (frmOf p.fr nm))=q at *;have hq:PstOk q.1:=(⟨by rw [e1];exact h.n,by rw [e1,e2];exact h.hand,by rw [e1];exact h.one,d1,fun nm k hk=>by rw [e1];exact h.held nm k (d2 nm k hk),by rw [e1];exact h.names,by rw [e1,e3];exact h.mostR,by rw [e1,e4];exact h.mostP⟩);simp only;split
  ·exact ⟨hq,by rw [e1],fun M b _=>by rw [e1];exact b.more (Nat.le_succ _)⟩
  ·exact ⟨hq.disk _,by show q.1.fr.length=_;rw [e1],fun M b _=>by show Bnd _ q.1.fr;rw [e1];exact b.more (Nat.le_succ _)⟩
def dropF (fr:List (Option Frm)) (nm:List UInt8):List (Option Frm):=fr.map fun o=>if isOf nm o then none else o
theorem zf1 (fr:List (Option Frm)) (nm:List UInt8) (i:Nat):(dropF fr nm)[i]? = (fr[i]?).map fun o=>if isOf nm o then none else o:=List.getElem?_map
theorem drop_at {fr:List (Option Frm)} {nm:List UInt8} {i:Nat} {f:Frm}:(dropF fr nm)[i]? = some (some f)↔fr[i]? = some (some f)∧f.name≠nm:=by
 rw [zf1];cases fr[i]? with
 | none=>simp
 | some o=>
  cases o with
  | none=>simp [isOf]
  | some g=>
   simp only [Option.map_some,Option.some.injEq,isOf,decide_eq_true_eq];constructor
   ·intro h;split at h
    ·cases h
    ·rename_i h1;obtain rfl:=Option.some.inj h;exact ⟨rfl,h1⟩
   ·rintro ⟨rfl,h⟩;rw [if_neg h]
theorem drop_keys {fr:List (Option Frm)} {nm:List UInt8} {x:List UInt8×Nat}:some x∈zac (dropF fr nm)↔some x∈zac fr∧x.1≠nm:=by
 obtain ⟨a,k⟩:=x;rw [mem_keys,mem_keys];constructor
 ·rintro ⟨i,f,h,rfl,rfl⟩;obtain ⟨h1,h2⟩:=drop_at.1 h;exact ⟨⟨i,f,h1,rfl,rfl⟩,h2⟩
 ·rintro ⟨⟨i,f,h,rfl,rfl⟩,h2⟩;exact ⟨i,f,drop_at.2 ⟨h,h2⟩,rfl,rfl⟩
theorem zo7 (fr:List (Option Frm)) (nm:List UInt8):resN (dropF fr nm)≤resN fr:=by
 unfold resN dropF;rw [List.countP_map];refine List.countP_mono_left fun o _ h=>?_
 simp only [Function.comp_apply] at h;split at h
 ·cases h
 ·exact h
theorem zo8 (fr:List (Option Frm)) (nm:List UInt8):pinN (dropF fr nm)≤pinN fr:=by
 unfold pinN dropF;rw [List.countP_map];refine List.countP_mono_left fun o _ h=>?_
 simp only [Function.comp_apply] at h;split at h
 ·cases h
 ·exact h
theorem ze1 {p:Pst} (h:PstOk p) (nm:List UInt8):Well p (zat p nm).1:=by
 unfold zat;split
 ·exact Well.refl h
 ·refine ⟨⟨by simpa using h.n,by simpa using h.hand,?_,h.dl.del nm,?_,?_,?_,?_⟩,by simp,?_⟩
  ·show One (dropF p.fr nm);intro a b x ha hb;obtain ⟨n1,k1⟩:=x;have look:∀ a,(zac (dropF p.fr nm))[a]? = some (some (n1,k1))→(zac p.fr)[a]? = some (some (n1,k1)):=fun a ha=>by
    rw [zbL,zf1] at ha;rw [zbL];cases e:p.fr[a]? with
    | none=>rw [e] at ha;cases ha
    | some o=>
     rw [e] at ha;simp only [Option.map_some,Option.some.injEq] at ha ⊢;split at ha
     ·cases ha
     ·exact ha
   exact h.one a b _ (look a ha) (look b hb)
  ·show ∀ nm' k,k∈zaa (delM p.dl nm) nm'→some (nm',k)∈zac (dropF p.fr nm);intro nm' k hk;rw [zbC] at hk;split at hk
   ·simp at hk
   ·rename_i hne;exact drop_keys.2 ⟨h.held nm' k hk,hne⟩
  ·show ∀ x,some x∈zac (dropF p.fr nm)→_;exact fun x hx=>h.names x (drop_keys.1 hx).1
  ·exact Nat.le_trans (zo7 p.fr nm) h.mostR
  ·exact Nat.le_trans (zo8 p.fr nm) h.mostP
  ·intro M b hM i f hf;have:=b i f (drop_at.1 (show (dropF p.fr nm)[i]? = some (some f) from hf)).1;omega
theorem zjd (d:Ds) {n:Nat} (h:1≤n∧n≤4096):PstOk (newPl d n)∧Bnd 0 (newPl d n).fr∧sumP (newPl d n).fr=0:=by
 have hk:∀ x,some x∉zac (List.replicate n (none:Option Frm)):=fun x hx=>by
  unfold zac at hx;rw [List.map_replicate] at hx;have:=List.eq_of_mem_replicate hx;cases this
 refine ⟨⟨by simpa [newPl] using h,by simp [newPl];omega,fun i j x hi _=>absurd (List.mem_of_getElem? hi) (hk x),DlOk.nil,fun nm k hd=>by simp [newPl,zaa,lookM] at hd,fun x hx=>absurd hx (hk x),?_,?_⟩,fun i f hf=>absurd (mem_keys.2 ⟨i,f,hf,rfl,rfl⟩) (hk _),?_⟩
 ·simp [newPl,resN,List.countP_replicate]
 ·simp [newPl,pinN,List.countP_replicate,isPin]
 ·simp [newPl,sumP,za8]
def Txt (fr:List (Option Frm)):Prop:=∀ (i:Nat) (f:Frm),fr[i]? = some (some f)→f.b.length≤16777216
theorem zlH {s:Ds} (h:DsOk s) (nm:List UInt8) (k:Int):(readP s nm k).1.length≤16777216:=by
 have h1:(readS s nm (k*256) 256).1.length≤16777216:=by
  unfold readS;split
  ·simp
  ·split
   ·simp
   ·split
    ·simp
    ·rename_i f hf;have:=(h.files f (List.mem_of_find?_eq_some hf)).size;simp only [List.length_take,List.length_drop];omega
 have h2:(saidB (readS s nm (k*256) 256).1).length≤(readS s nm (k*256) 256).1.length:=by
  unfold saidB;simp only [List.length_take,List.length_drop];omega
 unfold readP;split
 ·simp
 split
 ·simp
 split
 ·simp
 split
 ·simp only;omega
 ·simp
theorem zqX {fr fr':List (Option Frm)} (h:unU fr=unU fr') (b:Txt fr):Txt fr':=fun i f hf=>by
 obtain ⟨u,hu⟩:=zgB h.symm hf;have:=b i _ hu;exact this
theorem Txt.set {fr:List (Option Frm)} (b:Txt fr) (i:Nat) {o:Option Frm} (ho:∀ f,o=some f→f.b.length≤16777216):Txt (fr.set i o):=fun j f hf=>by
 rw [List.getElem?_set] at hf;split at hf
 ·split at hf
  ·exact ho f (Option.some.inj hf)
  ·cases hf
 ·exact b j f hf
theorem zd4 {p:Pst} (b:Txt p.fr) {g:Frm→Frm} (i:Nat) (hg:∀ f,f.b.length≤16777216→(g f).b.length≤16777216):Txt (onFr p i g).fr:=by
 intro j f hf;have e:(onFr p i g).fr[j]? = (p.fr.modify i (Option.map g))[j]?:=rfl;rw [e,List.getElem?_modify] at hf;cases e2:p.fr[j]? with
 | none=>rw [e2] at hf;cases hf
 | some o=>
  rw [e2] at hf;cases o with
  | none=>simp at hf
  | some f0=>
   have b1:=b j f0 e2;simp only [Option.map_eq_map,Option.map_some,Option.some.injEq] at hf;split at hf
   ·simp only [Option.map_some,Option.some.injEq] at hf;subst hf;exact hg f0 b1
   ·simp only [Option.some.injEq] at hf;subst hf;exact b1
theorem zo9 {p:Pst} (b:Txt p.fr):Txt (takeS p).1.fr:=by
 unfold takeS;split
 ·exact b
 ·obtain ⟨h1,-,-⟩:=zca (2*p.fr.length) p.fr p.hand;generalize seekS (2*p.fr.length) p.fr p.hand=r at *;have b1:Txt r.1:=zqX h1.symm b;simp only;split
  ·exact b1
  ·cases e:r.1[r.2.1]? with
   | none=>exact b1
   | some o=>
    cases o with
    | none=>exact b1
    | some f=>
     simp only;obtain ⟨e1,-,-,-⟩:=zcf {p with fr:=r.1,hand:=r.2.1} f;generalize saveS {p with fr:=r.1,hand:=r.2.1} f=q at *;simp only at e1;split
     ·show Txt q.1.fr;rw [e1];exact b1
     ·exact Txt.set (by rw [e1];exact b1) _ (fun f h=>by cases h)
theorem zje {p:Pst} (b:Txt p.fr) (nm:List UInt8) (k:Nat) {t:List UInt8} (ht:t.length≤16777216):Txt (holdS p nm k t).1.fr:=by
 have T:=zo9 b;unfold holdS;generalize takeS p=q at *;simp only;split
 ·exact T
 ·exact T.set _ (fun f h=>by cases h;exact ht)
theorem zm1 {p:Pst} (hd:DsOk p.d) (b:Txt p.fr) (nm:List UInt8) (k:Nat):Txt (zav p nm k).1.fr:=by
 unfold zav;cases e:p.fr.findIdx? (isAt nm k) with
 | some i=>exact zd4 b i (fun f h=>h)
 | none=>
  simp only;split
  ·exact b
  ·have T:=zje b nm k (zlH hd nm (k:Int));generalize holdS p nm k (readP p.d nm (k:Int)).1=q at *;split
   ·exact T
   ·exact zd4 T _ (fun f h=>h)
theorem zfr {p:Pst} (hd:DsOk p.d) (b:Txt p.fr) (nm:List UInt8) (k:Int):Txt (getP p nm k).1.fr:=by
 unfold getP;split
 ·exact b
 ·split
  ·exact b
  ·split
   ·exact b
   ·exact zm1 hd b nm _
theorem zpa {p:Pst} (hd:DsOk p.d) (b:Txt p.fr) (nm:List UInt8) (k:Int):Txt (zai p nm k).1.fr:=by
 have T:=zfr hd b nm k;unfold zai;simp only;split
 ·exact T
 ·exact T
theorem zqY {p:Pst} (hd:DsOk p.d) (b:Txt p.fr) (nm:List UInt8) (k:Int):Txt (pinPl p nm k).1.fr:=by
 have T:=zfr hd b nm k;unfold pinPl;simp only;split
 ·exact T
 ·exact zd4 T _ (fun f h=>h)
theorem zm2 {p:Pst} (b:Txt p.fr) (nm:List UInt8) (k:Int):Txt (za4 p nm k).1.fr:=by
 unfold za4;split
 ·exact b
 ·cases e:p.fr.findIdx? (isAt nm k.toNat) with
  | none=>exact b
  | some i=>
   simp only;split
   ·exact b
   ·exact zd4 b _ (fun f h=>h)
theorem zm3 {p:Pst} (b:Txt p.fr) (nm:List UInt8) (k:Int) (t:List UInt8):Txt (zah p nm k t).1.fr:=by
 unfold zah;split
 ·exact b
 ·rename_i ht;split
  ·exact b
  ·split
   ·exact b
   ·cases e:p.fr.findIdx? (isAt nm k.toNat) with
    | some i=>exact zd4 b i (fun f h=>by show t.length≤_;omega)
    | none=>
     have T:=zje b nm k.toNat (t:=[]) (by simp);generalize holdS p nm k.toNat []=q at *;simp only;split
     ·exact T
     ·exact zd4 T _ (fun f h=>by show t.length≤_;omega)
theorem zm4 {p:Pst} (b:Txt p.fr) (nm:List UInt8):Txt (zao p nm).1.fr:=by
 unfold zao;split
 ·exact b
 ·obtain ⟨e1,-,-,-⟩:=zd3 ((zaa p.dl nm).filterMap (frmOf p.fr nm)) p;generalize wbS p ((zaa p.dl nm).filterMap (frmOf p.fr nm))=q at *;simp only;split
  ·rw [e1];exact b
  ·show Txt q.1.fr;rw [e1];exact b
theorem zpb {p:Pst} (b:Txt p.fr) (nm:List UInt8):Txt (zat p nm).1.fr:=by
 unfold zat;split
 ·exact b
 ·intro i f hf;exact b i f (drop_at.1 (show (dropF p.fr nm)[i]? = some (some f) from hf)).1
theorem zqZ (d:Ds) (n:Nat):Txt (newPl d n).fr:=fun i f hf=>by
 have:=List.eq_of_mem_replicate (List.mem_of_getElem? (show (List.replicate n (none:Option Frm))[i]? = some (some f) from hf));cases this
def zsN (dl:List (List UInt8×List Nat)):List (Option (List UInt8×Nat)):=dl.flatMap fun e=>e.2.map fun k=>some (e.1,k)
structure Grow (p q:Pst):Prop where
 len:q.fr.length=p.fr.length
 lo:p.mostR≤q.mostR
 hi:q.mostR≤max p.mostR p.fr.length
 pk:p.mostP≤q.mostP∧q.mostP≤max p.mostP (pinN q.fr)
theorem za5 {p q:Pst} (h1:q.fr.length=p.fr.length) (h2:q.mostR=p.mostR) (h3:q.mostP=p.mostP):Grow p q:=⟨h1,by omega,by omega,by omega⟩
theorem zcI (p:Pst) (i:Nat) (g:Frm→Frm):(onFr p i g).fr.length=p.fr.length:=List.length_modify _ _ _
theorem zhU {p:Pst} (h:PstOk p) (nm:List UInt8) (k:Nat) (t:List UInt8):(holdS p nm k t).1.fr.length=p.fr.length∧p.mostR≤(holdS p nm k t).1.mostR∧(holdS p nm k t).1.mostR≤max p.mostR p.fr.length∧(holdS p nm k t).1.mostP=p.mostP:=by
 have T:=zbM h;unfold holdS;generalize takeS p=q at *;have h1:=T.len;have h2:=T.mostR;have h3:=T.mostP;simp only;split
 ·exact ⟨h1,Nat.le_of_eq h2.symm,Nat.le_trans (Nat.le_of_eq h2) (Nat.le_max_left _ _),h3⟩
 ·have h4:=zgD (q.1.fr.set q.2.1 (some ⟨nm,k,t,0,false⟩));rw [List.length_set] at h4;refine ⟨by simp only [List.length_set];exact h1,?_,?_,h3⟩
  ·show p.mostR≤max q.1.mostR _;omega
  ·show max q.1.mostR _≤_;omega
theorem zlI {p:Pst} (h:PstOk p) (nm:List UInt8) (k:Nat):(zav p nm k).1.fr.length=p.fr.length∧p.mostR≤(zav p nm k).1.mostR∧(zav p nm k).1.mostR≤max p.mostR p.fr.length∧(zav p nm k).1.mostP=p.mostP:=by
 unfold zav;cases e:p.fr.findIdx? (isAt nm k) with
 | some i=>exact ⟨zcI _ _ _,Nat.le_refl _,Nat.le_max_left _ _,rfl⟩
 | none=>
  simp only;split
  ·exact ⟨rfl,Nat.le_refl _,Nat.le_max_left _ _,rfl⟩
  ·have T:=zhU h nm k (readP p.d nm (k:Int)).1;generalize holdS p nm k (readP p.d nm (k:Int)).1=q at *;split
   ·exact T
   ·exact ⟨(zcI _ _ _).trans T.1,T.2.1,T.2.2.1,T.2.2.2⟩
theorem zjf {p:Pst} (h:PstOk p) (nm:List UInt8) (k:Int):(getP p nm k).1.fr.length=p.fr.length∧p.mostR≤(getP p nm k).1.mostR∧(getP p nm k).1.mostR≤max p.mostR p.fr.length∧(getP p nm k).1.mostP=p.mostP:=by
 unfold getP;split
 ·exact ⟨rfl,Nat.le_refl _,Nat.le_max_left _ _,rfl⟩
 ·split
  ·exact ⟨rfl,Nat.le_refl _,Nat.le_max_left _ _,rfl⟩
  ·split
   ·exact ⟨rfl,Nat.le_refl _,Nat.le_max_left _ _,rfl⟩
   ·exact zlI h nm _
theorem zm5 {p:Pst} (h:PstOk p) (nm:List UInt8) (k:Int):Grow p (zai p nm k).1:=by
 have T:=zjf h nm k;unfold zai;simp only;split
 ·exact ⟨T.1,T.2.1,T.2.2.1,Nat.le_of_eq T.2.2.2.symm,Nat.le_trans (Nat.le_of_eq T.2.2.2) (Nat.le_max_left _ _)⟩
 ·exact ⟨T.1,T.2.1,T.2.2.1,Nat.le_of_eq T.2.2.2.symm,Nat.le_trans (Nat.le_of_eq T.2.2.2) (Nat.le_max_left _ _)⟩
theorem zpc {p:Pst} (h:PstOk p) (nm:List UInt8) (k:Int):Grow p (pinPl p nm k).1:=by
 have T:=zjf h nm k;unfold pinPl;generalize getP p nm k=q at *;simp only;split
 ·exact ⟨T.1,T.2.1,T.2.2.1,Nat.le_of_eq T.2.2.2.symm,Nat.le_trans (Nat.le_of_eq T.2.2.2) (Nat.le_max_left _ _)⟩
 ·refine ⟨(zcI _ _ _).trans T.1,T.2.1,T.2.2.1,?_,?_⟩
  ·show p.mostP≤max q.1.mostP _;omega
  ·show max q.1.mostP (pinN (onFr q.1 q.2.1 pinF).fr)≤max p.mostP (pinN (onFr q.1 q.2.1 pinF).fr);omega
theorem zlJ {p:Pst} (nm:List UInt8) (k:Int):Grow p (za4 p nm k).1:=by
 unfold za4;split
 ·exact za5 rfl rfl rfl
 ·cases e:p.fr.findIdx? (isAt nm k.toNat) with
  | none=>exact za5 rfl rfl rfl
  | some i=>
   simp only;split
   ·exact za5 rfl rfl rfl
   ·exact za5 (zcI _ _ _) rfl rfl
theorem zlK {p:Pst} (h:PstOk p) (nm:List UInt8) (k:Int) (b:List UInt8):Grow p (zah p nm k b).1:=by
 unfold zah;split
 ·exact za5 rfl rfl rfl
 ·split
  ·exact za5 rfl rfl rfl
  ·split
   ·exact za5 rfl rfl rfl
   ·cases e:p.fr.findIdx? (isAt nm k.toNat) with
    | some i=>exact za5 (zcI _ _ _) rfl rfl
    | none=>
     have T:=zhU h nm k.toNat [];generalize holdS p nm k.toNat []=q at *;simp only;split
     ·exact ⟨T.1,T.2.1,T.2.2.1,Nat.le_of_eq T.2.2.2.symm,Nat.le_trans (Nat.le_of_eq T.2.2.2) (Nat.le_max_left _ _)⟩
     ·refine ⟨(zcI _ _ _).trans T.1,T.2.1,T.2.2.1,?_,?_⟩
      ·show p.mostP≤q.1.mostP;omega
      ·exact Nat.le_trans (Nat.le_of_eq T.2.2.2) (Nat.le_max_left _ _)
theorem zlL (p:Pst) (nm:List UInt8):Grow p (zao p nm).1:=by
 unfold zao;split
 ·exact za5 rfl rfl rfl
 ·obtain ⟨e1,e2,e3,e4⟩:=zd3 ((zaa p.dl nm).filterMap (frmOf p.fr nm)) p;generalize wbS p ((zaa p.dl nm).filterMap (frmOf p.fr nm))=q at *;simp only;split
  ·exact za5 (by rw [e1]) e3 e4
  ·exact za5 (by show q.1.fr.length=_;rw [e1]) e3 e4
theorem zm6 (p:Pst) (nm:List UInt8):Grow p (zat p nm).1:=by
 unfold zat;split
 ·exact za5 rfl rfl rfl
 ·exact za5 (by simp) rfl rfl
theorem zhV (o:Option Frm) (l:List (Option Frm)):sumP (o::l)=za8 o+sumP l:=by simp [sumP]
theorem zse (o:Option Frm):(isPin o=true↔0<za8 o):=by
 cases o with
 | none=>simp [isPin,za8]
 | some f=>simp [isPin,za8]
theorem zlM (fr:List (Option Frm)):pinN fr≤resN fr:=by
 unfold pinN resN;refine List.countP_mono_left fun o _ h=>?_
 cases o with
 | none=>cases h
 | some f=>rfl
theorem zjg (nm:List UInt8):∀ fr:List (Option Frm),(∀ o∈fr,(isOf nm o&&isPin o)=false)→sumP (dropF fr nm)=sumP fr
 | [],_=>rfl
 | o::l,h=>by
  have h1:=zjg nm l (fun o ho=>h o (List.mem_cons_of_mem _ ho));have h2:=h o (List.mem_cons_self);show sumP ((if isOf nm o then none else o)::dropF l nm)=_;rw [zhV,zhV,h1];by_cases h3:isOf nm o=true
  ·rw [if_pos h3];rw [h3,Bool.true_and] at h2;have h4:¬ 0<za8 o:=fun h4=>by rw [(zse o).2 h4] at h2;cases h2
   have h5:za8 none=0:=rfl;omega
  ·rw [if_neg h3]
theorem zpd {p:Pst} (h:PstOk p) (nm:List UInt8) (k:Int):sumP (zai p nm k).1.fr=sumP p.fr:=by
 obtain ⟨h1,-,-⟩:=zdu h nm k;unfold zai;simp only;split
 ·exact h1.sum
 ·exact h1.sum
theorem zq0 {p:Pst} (h:PstOk p) (nm:List UInt8) (k:Int):sumP (pinPl p nm k).1.fr=sumP p.fr+(if (pinPl p nm k).2.2=0 then 1 else 0):=by
 obtain ⟨h1,h2,-⟩:=zdu h nm k;unfold pinPl;generalize getP p nm k=q at *;simp only;by_cases hE:q.2.2=0
 ·rw [if_neg (by omega)];obtain ⟨-,-,-,f,hf,-,-⟩:=h2 hE;have:=zmZ hf pinF;simp only [pinF] at this;rw [if_pos rfl,←h1.sum];show sumP (onFr q.1 q.2.1 pinF).fr=_;omega
 ·rw [if_pos hE,if_neg hE,Nat.add_zero];exact h1.sum
theorem zm7 {p:Pst} (nm:List UInt8) (k:Int):sumP (za4 p nm k).1.fr+(if (za4 p nm k).2=0 then 1 else 0)=sumP p.fr:=by
 unfold za4;split
 ·simp
 ·cases e:p.fr.findIdx? (isAt nm k.toNat) with
  | none=>simp
  | some i=>
   obtain ⟨f,hf,n1,n2⟩:=zaX e;have hfo:frmOf p.fr nm k.toNat=some f:=by
    unfold frmOf;rw [e];show (p.fr[i]?).getD none=_;rw [hf];rfl
   simp only;rw [hfo];simp only [Option.map_some,Option.some.injEq];by_cases hz:f.pins=0
   ·rw [if_pos hz];simp
   ·rw [if_neg hz];simp only [if_true];have:=zmZ hf zbK;have h2:(zbK f).pins=f.pins-1:=rfl;rw [h2] at this;omega
theorem zm8 {p:Pst} (h:PstOk p) (nm:List UInt8) (k:Int) (b:List UInt8):sumP (zah p nm k b).1.fr=sumP p.fr:=by
 unfold zah;split
 ·rfl
 ·split
  ·rfl
  ·rename_i hE;split
   ·rfl
   ·cases e:p.fr.findIdx? (isAt nm k.toNat) with
    | some i=>exact zdT (g:=overF b) i (fun _=>rfl)
    | none=>
     have hE:(findP p nm).2=0:=(by omega);obtain ⟨T,-⟩:=za2 h (idx_none.1 e) (zcg hE).2 [];generalize holdS p nm k.toNat []=q at *;simp only;split
     ·exact T.sum
     ·exact (zdT (g:=overF b) q.2.1 (fun _=>rfl)).trans T.sum
theorem zm9 (p:Pst) (nm:List UInt8):sumP (zao p nm).1.fr=sumP p.fr:=by
 unfold zao;split
 ·rfl
 ·obtain ⟨e1,-,-,-⟩:=zd3 ((zaa p.dl nm).filterMap (frmOf p.fr nm)) p;generalize wbS p ((zaa p.dl nm).filterMap (frmOf p.fr nm))=q at *;simp only;split
  ·rw [e1]
  ·show sumP q.1.fr=_;rw [e1]
theorem zlN (p:Pst) (nm:List UInt8):sumP (zat p nm).1.fr=sumP p.fr:=by
 unfold zat;split
 ·rfl
 ·rename_i h;exact zjg nm p.fr (fun o ho=>by
   cases e:(isOf nm o&&isPin o) with
   | false=>rfl
   | true=>exact absurd (List.any_eq_true.2 ⟨o,ho,e⟩) h)
end Go.Proofs.YtjpldnjldindkaaGreatDoor
