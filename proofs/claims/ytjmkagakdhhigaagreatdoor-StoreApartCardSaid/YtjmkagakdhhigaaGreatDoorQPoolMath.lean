/- Chapter 10 as functions of a disk, frames, the dirty ones of each file by their pages, the hand and the peaks. -/
import Derived.Test.YtjmkagakdhhigaaGreatDoorQPageMath
import Derived.Test.YtjmkagakdhhigaaGreatDoorQMapV
set_option linter.unusedVariables false
set_option linter.unusedSimpArgs false
set_option maxRecDepth 100000
namespace Go.Proofs.YtjmkagakdhhigaaGreatDoor
open Go.RowKit
structure Frm where
 name:List UInt8
 k:Nat
 b:List UInt8
 pins:Nat
 used:Bool
structure Pst where
 d:Ds
 fr:List (Option Frm)
 dl:List (List UInt8×List Nat)
 hand:Nat
 mostR:Nat
 mostP:Nat
def isAt (nm:List UInt8) (k:Nat):Option Frm→Bool
 | some f=>decide (f.name=nm)&&decide (f.k=k)
 | none=>false
def isPin:Option Frm→Bool
 | some f=>decide (0<f.pins)
 | none=>false
def isOf (nm:List UInt8):Option Frm→Bool
 | some f=>decide (f.name=nm)
 | none=>false
def resN (fr:List (Option Frm)):Nat:=fr.countP (·.isSome)
def pinN (fr:List (Option Frm)):Nat:=fr.countP isPin
def dirN (dl:List (List UInt8×List Nat)):Nat:=(dl.map fun e=>e.2.length).sum
def frmOf (fr:List (Option Frm)) (nm:List UInt8) (k:Nat):Option Frm:=(fr.findIdx? (isAt nm k)).bind fun i=>(fr[i]?).getD none
def dirtyOf (dl:List (List UInt8×List Nat)) (nm:List UInt8):List Nat:=(lookM dl nm).getD []
def below (l:List Nat) (k:Nat):Nat:=l.countP fun x=>decide (x<k)
def insK (l:List Nat) (k:Nat):List Nat:=l.take (below l k)++k::l.drop (below l k)
def soilD (dl:List (List UInt8×List Nat)) (nm:List UInt8) (k:Nat):List (List UInt8×List Nat):=
 if k∈dirtyOf dl nm then dl else putM dl nm (insK (dirtyOf dl nm) k)
def cleanD (dl:List (List UInt8×List Nat)) (nm:List UInt8) (k:Nat):List (List UInt8×List Nat):=
 if (dirtyOf dl nm).erase k=[] then delM dl nm else putM dl nm ((dirtyOf dl nm).erase k)
def wbS (p:Pst):List Frm→Pst×Nat
 | []=>(p,0)
 | f::fs=>if (writeP p.d f.name (f.k:Int) f.b).2=0 then wbS {p with d:=(writeP p.d f.name (f.k:Int) f.b).1,dl:=cleanD p.dl f.name f.k} fs
  else ({p with d:=(writeP p.d f.name (f.k:Int) f.b).1},(writeP p.d f.name (f.k:Int) f.b).2)
def saved (l:List Nat) (n k:Nat):List Nat:=(l.take (below l k)).drop (below (l.take (below l k)) n)++[k]
def saveS (p:Pst) (f:Frm):Pst×Nat:=
 if f.k∈dirtyOf p.dl f.name then
  if (pagesP p.d f.name).2≠0 then (p,(pagesP p.d f.name).2)
  else wbS p ((saved (dirtyOf p.dl f.name) (pagesP p.d f.name).1 f.k).filterMap (frmOf p.fr f.name))
 else (p,0)
def seekS:Nat→List (Option Frm)→Nat→List (Option Frm)×Nat×Bool
 | 0,fr,h=>(fr,h,false)
 | m+1,fr,h=>match fr[h]? with
  | some (some f)=>if 0<f.pins then seekS m fr ((h+1)%fr.length) else if f.used=true then seekS m (fr.set h (some {f with used:=false})) ((h+1)%fr.length) else (fr,h,true)
  | _=>(fr,h,false)
def firstE (fr:List (Option Frm)):Nat:=fr.findIdx (·.isNone)
def takeS (p:Pst):Pst×Nat×Nat:=
 if resN p.fr<p.fr.length then (p,firstE p.fr,0)
 else
  let r:=seekS (2*p.fr.length) p.fr p.hand
  let p1:Pst:={p with fr:=r.1,hand:=r.2.1}
  if r.2.2=false then (p1,0,10) else
  match r.1[r.2.1]? with
  | some (some f)=>
   let q:=saveS p1 f
   if q.2≠0 then (q.1,0,q.2) else ({q.1 with fr:=q.1.fr.set r.2.1 none,hand:=(r.2.1+1)%q.1.fr.length},r.2.1,0)
  | _=>(p1,0,0)
def holdS (p:Pst) (nm:List UInt8) (k:Nat) (t:List UInt8):Pst×Nat×Nat:=
 let q:=takeS p
 if q.2.2≠0 then (q.1,0,q.2.2) else
 ({q.1 with fr:=q.1.fr.set q.2.1 (some ⟨nm,k,t,0,false⟩),mostR:=max q.1.mostR (resN (q.1.fr.set q.2.1 (some ⟨nm,k,t,0,false⟩)))},q.2.1,0)
def onFr (p:Pst) (i:Nat) (g:Frm→Frm):Pst:={p with fr:=p.fr.modify i (Option.map g)}
def useF (f:Frm):Frm:={f with used:=true}
def bringS (p:Pst) (nm:List UInt8) (k:Nat):Pst×Nat×Nat:=
 match p.fr.findIdx? (isAt nm k) with
 | some i=>(onFr p i useF,i,0)
 | none=>
  if (readP p.d nm (k:Int)).2≠0 then (p,0,(readP p.d nm (k:Int)).2) else
  let q:=holdS p nm k (readP p.d nm (k:Int)).1
  if q.2.2≠0 then (q.1,0,q.2.2) else (onFr q.1 q.2.1 useF,q.2.1,0)
def findP (p:Pst) (nm:List UInt8):Nat×Nat:=
 if openE p.d nm≠0 then (0,openE p.d nm) else (max (pagesP p.d nm).1 (((dirtyOf p.dl nm).getLast?.map (· + 1)).getD 0),0)
def getP (p:Pst) (nm:List UInt8) (k:Int):Pst×Nat×Nat:=
 if (findP p nm).2≠0 then (p,0,(findP p nm).2) else if k<0 then (p,0,1) else if (findP p nm).1≤k.toNat then (p,0,3) else bringS p nm k.toNat
def textF (fr:List (Option Frm)) (i:Nat):List UInt8:=match fr[i]? with
 | some (some f)=>f.b
 | _=>[]
def createPl (p:Pst) (nm:List UInt8):Pst×Nat:=({p with d:=(createS p.d nm).1},(createS p.d nm).2)
def dropPl (p:Pst) (nm:List UInt8):Pst×Nat:=
 if p.fr.any (fun o=>isOf nm o&&isPin o) then (p,10) else
 ({p with d:=(removeS p.d nm).1,fr:=p.fr.map fun o=>if isOf nm o then none else o,dl:=delM p.dl nm},(removeS p.d nm).2)
def readPl (p:Pst) (nm:List UInt8) (k:Int):Pst×List UInt8×Nat:=
 let q:=getP p nm k
 if q.2.2≠0 then (q.1,[],q.2.2) else (q.1,textF q.1.fr q.2.1,0)
def pinF (f:Frm):Frm:={f with pins:=f.pins+1}
def pinPl (p:Pst) (nm:List UInt8) (k:Int):Pst×List UInt8×Nat:=
 let q:=getP p nm k
 if q.2.2≠0 then (q.1,[],q.2.2) else ({onFr q.1 q.2.1 pinF with mostP:=max q.1.mostP (pinN (onFr q.1 q.2.1 pinF).fr)},textF q.1.fr q.2.1,0)
def unpinF (f:Frm):Frm:={f with pins:=f.pins-1}
def unpinPl (p:Pst) (nm:List UInt8) (k:Int):Pst×Nat:=
 if k<0 then (p,3) else match p.fr.findIdx? (isAt nm k.toNat) with
 | none=>(p,3)
 | some i=>if (frmOf p.fr nm k.toNat).map (·.pins)=some 0 then (p,3) else (onFr p i unpinF,0)
def overF (b:List UInt8) (f:Frm):Frm:={f with b:=b,used:=true}
def writePl (p:Pst) (nm:List UInt8) (k:Int) (b:List UInt8):Pst×Nat:=
 if 240<b.length then (p,9) else if (findP p nm).2≠0 then (p,(findP p nm).2) else if k<0∨(findP p nm).1<k.toNat then (p,1) else
 match p.fr.findIdx? (isAt nm k.toNat) with
 | some i=>({onFr p i (overF b) with dl:=soilD p.dl nm k.toNat},0)
 | none=>
  let q:=holdS p nm k.toNat []
  if q.2.2≠0 then (q.1,q.2.2) else ({onFr q.1 q.2.1 (overF b) with dl:=soilD q.1.dl nm k.toNat},0)
def flushPl (p:Pst) (nm:List UInt8):Pst×Nat:=
 if (findP p nm).2≠0 then (p,(findP p nm).2) else
 let q:=wbS p ((dirtyOf p.dl nm).filterMap (frmOf p.fr nm))
 if q.2≠0 then q else ({q.1 with d:=(syncS q.1.d nm).1},(syncS q.1.d nm).2)
def newPl (d:Ds) (n:Nat):Pst:=⟨d,List.replicate n none,[],0,0,0⟩
def keysOf (fr:List (Option Frm)):List (Option (List UInt8×Nat)):=fr.map (Option.map fun f=>(f.name,f.k))
structure DlOk (dl:List (List UInt8×List Nat)):Prop where
 once:(dl.map Prod.fst).Nodup
 rise:∀ nm l,(nm,l)∈dl→l≠[]∧l.Pairwise (· < ·)
structure PstOk (p:Pst):Prop where
 n:1≤p.fr.length∧p.fr.length≤4096
 hand:p.hand<p.fr.length
 one:∀ (i j:Nat) (x:List UInt8×Nat),(keysOf p.fr)[i]? = some (some x)→(keysOf p.fr)[j]? = some (some x)→i=j
 dl:DlOk p.dl
 held:∀ nm k,k∈dirtyOf p.dl nm→some (nm,k)∈keysOf p.fr
 names:∀ x,some x∈keysOf p.fr→x.1.length≤24
 mostR:resN p.fr≤p.mostR
 mostP:pinN p.fr≤p.mostP
theorem below_cons (a:Nat) (l:List Nat) (k:Nat):below (a::l) k=below l k+if a<k then 1 else 0:=by simp [below,List.countP_cons]
theorem below_zero {l:List Nat} {k:Nat} (h:∀ x∈l,k≤x):below l k=0:=by
 unfold below
 rw [List.countP_eq_zero]
 intro x hx
 have:=h x hx
 simp only [decide_eq_true_eq]
 omega
theorem below_iff {l:List Nat} (h:l.Pairwise (· < ·)) (k:Nat) {i x:Nat} (hx:l[i]? = some x):i<below l k↔x<k:=by
 induction l generalizing i with
 | nil=>simp at hx
 | cons a l ih=>
  obtain ⟨h1,h2⟩:=List.pairwise_cons.1 h
  rw [below_cons]
  by_cases ha:a<k
  · rw [if_pos ha]
    cases i with
    | zero=>
     simp only [List.getElem?_cons_zero,Option.some.injEq] at hx
     subst hx
     omega
    | succ i=>
     simp only [List.getElem?_cons_succ] at hx
     have:=ih h2 hx
     omega
  · rw [if_neg ha,below_zero (fun x hx=>by have:=h1 x hx;omega)]
    cases i with
    | zero=>
     simp only [List.getElem?_cons_zero,Option.some.injEq] at hx
     subst hx
     omega
    | succ i=>
     simp only [List.getElem?_cons_succ] at hx
     have:=h1 x (List.mem_of_getElem? hx)
     omega
theorem below_le (l:List Nat) (k:Nat):below l k≤l.length:=List.countP_le_length
theorem rise_lt {l:List Nat} (h:l.Pairwise (· < ·)) {i j x y:Nat} (hx:l[i]? = some x) (hy:l[j]? = some y) (hij:i<j):x<y:=by
 obtain ⟨hi,rfl⟩:=List.getElem?_eq_some_iff.1 hx
 obtain ⟨hj,rfl⟩:=List.getElem?_eq_some_iff.1 hy
 exact List.pairwise_iff_getElem.1 h i j hi hj hij
theorem at_below {l:List Nat} (h:l.Pairwise (· < ·)) {k:Nat}:k∈l↔l[below l k]? = some k:=by
 constructor
 · intro hk
   obtain ⟨i,hi⟩:=List.mem_iff_getElem?.1 hk
   have h1:=below_iff h k hi
   have h2:below l k=i:=by
    rcases Nat.lt_trichotomy (below l k) i with h3|h3|h3
    · have hlt:below l k<l.length:=Nat.lt_trans h3 (List.getElem?_eq_some_iff.1 hi).1
      have h4:=below_iff h k (List.getElem?_eq_getElem hlt)
      have h5:=rise_lt h (List.getElem?_eq_getElem hlt) hi h3
      omega
    · exact h3
    · omega
   rw [h2]
   exact hi
 · intro h1
   exact List.mem_of_getElem? h1
theorem take_below {l:List Nat} (h:l.Pairwise (· < ·)) {k x:Nat} (hx:x∈l.take (below l k)):x<k:=by
 obtain ⟨i,hi⟩:=List.mem_iff_getElem?.1 hx
 rw [List.getElem?_take] at hi
 split at hi
 · rename_i h1
   exact (below_iff h k hi).1 h1
 · cases hi
theorem drop_below {l:List Nat} (h:l.Pairwise (· < ·)) {k x:Nat} (hx:x∈l.drop (below l k)):k≤x:=by
 obtain ⟨i,hi⟩:=List.mem_iff_getElem?.1 hx
 rw [List.getElem?_drop] at hi
 have:=below_iff h k hi
 omega
theorem mem_insK {l:List Nat} {k x:Nat}:x∈insK l k↔x=k∨x∈l:=by
 have:x∈l↔x∈l.take (below l k)∨x∈l.drop (below l k):=by rw [←List.mem_append,List.take_append_drop]
 unfold insK
 rw [List.mem_append,List.mem_cons,this]
 constructor
 · rintro (h|h|h)
   · exact .inr (.inl h)
   · exact .inl h
   · exact .inr (.inr h)
 · rintro (h|h|h)
   · exact .inr (.inl h)
   · exact .inl h
   · exact .inr (.inr h)
theorem insK_rise {l:List Nat} (h:l.Pairwise (· < ·)) {k:Nat} (hk:k∉l):(insK l k).Pairwise (· < ·):=by
 unfold insK
 rw [List.pairwise_append]
 refine ⟨h.sublist (List.take_sublist _ _),List.pairwise_cons.2 ⟨fun x hx=>?_,h.sublist (List.drop_sublist _ _)⟩,fun a ha b hb=>?_⟩
 · have h1:=drop_below h hx
   have h2:x≠k:=fun e=>hk (by rw [←e];exact List.mem_of_mem_drop hx)
   omega
 · have h1:=take_below h ha
   rcases List.mem_cons.1 hb with rfl|hb
   · exact h1
   · have:=drop_below h hb
     omega
theorem insK_length (l:List Nat) (k:Nat):(insK l k).length=l.length+1:=by
 have:=below_le l k
 unfold insK
 simp only [List.length_append,List.length_take,List.length_cons,List.length_drop]
 omega
theorem rise_nodup {l:List Nat} (h:l.Pairwise (· < ·)):l.Nodup:=List.nodup_iff_pairwise_ne.2 (h.imp fun h=>Nat.ne_of_lt h)
theorem erase_rise {l:List Nat} (h:l.Pairwise (· < ·)) (k:Nat):(l.erase k).Pairwise (· < ·):=h.sublist List.erase_sublist
theorem mem_erase_rise {l:List Nat} (h:l.Pairwise (· < ·)) {k x:Nat}:x∈l.erase k↔x≠k∧x∈l:=(rise_nodup h).mem_erase_iff
theorem last_rise {l:List Nat} (h:l.Pairwise (· < ·)) {x y:Nat} (hx:x∈l) (hy:l.getLast? = some y):x≤y:=by
 obtain ⟨i,hi⟩:=List.mem_iff_getElem?.1 hx
 rw [List.getLast?_eq_getElem?] at hy
 have hil:=(List.getElem?_eq_some_iff.1 hi).1
 by_cases e:i=l.length-1
 · rw [e] at hi
   rw [hi] at hy
   exact Nat.le_of_eq (Option.some.inj hy)
 · exact Nat.le_of_lt (rise_lt h hi hy (by omega))
section
variable {κ ε:Type} [DecidableEq κ]
theorem lookM_put (l:List (κ×ε)) (k:κ) (x:ε) (k':κ):lookM (putM l k x) k'=if k'=k then some x else lookM l k':=by
 unfold lookM putM
 rw [List.find?_cons]
 by_cases h:k'=k
 · subst h
   simp
 · rw [if_neg h,decide_eq_false (fun e=>h e.symm)]
   simp only
   unfold delM
   rw [List.find?_filter]
   congr 2
   funext p
   by_cases h2:p.1=k'
   · have:p.1≠k:=fun e=>h (h2.symm.trans e)
     simp [h2,h]
   · simp [h2]
theorem lookM_del (l:List (κ×ε)) (k k':κ):lookM (delM l k) k'=if k'=k then none else lookM l k':=by
 unfold lookM delM
 rw [List.find?_filter]
 by_cases h:k'=k
 · subst h
   rw [if_pos rfl]
   have:l.find? (fun a=>decide (a.1≠k')&&decide (a.1=k'))=none:=by
    rw [List.find?_eq_none]
    intro x _ h
    simp at h
   simp only [Option.map_eq_none_iff]
   rw [←this]
   congr 1
   funext x
   simp
 · rw [if_neg h]
   congr 2
   funext p
   by_cases h2:p.1=k'
   · simp [h2,h]
   · simp [h2]
theorem lookM_mem {l:List (κ×ε)} {k:κ} {x:ε} (h:lookM l k=some x):(k,x)∈l:=by
 unfold lookM at h
 obtain ⟨p,hp,rfl⟩:=Option.map_eq_some_iff.1 h
 have h1:=List.find?_some hp
 have h2:=List.mem_of_find?_eq_some hp
 simp only [decide_eq_true_eq] at h1
 subst h1
 exact h2
theorem lookM_of_mem {l:List (κ×ε)} (hn:(l.map Prod.fst).Nodup) {k:κ} {x:ε} (h:(k,x)∈l):lookM l k=some x:=by
 induction l with
 | nil=>simp at h
 | cons y l ih=>
  rw [List.map_cons,List.nodup_cons] at hn
  unfold lookM
  rw [List.find?_cons]
  rcases List.mem_cons.1 h with rfl|h
  · simp
  · have hne:y.1≠k:=fun e=>hn.1 (by rw [e];exact List.mem_map_of_mem h)
    rw [decide_eq_false hne]
    exact ih hn.2 h
theorem mem_delM {l:List (κ×ε)} {k:κ} {p:κ×ε}:p∈delM l k↔p∈l∧p.1≠k:=by simp [delM,List.mem_filter]
theorem mem_putM {l:List (κ×ε)} {k:κ} {x:ε} {p:κ×ε}:p∈putM l k x↔p=(k,x)∨(p∈l∧p.1≠k):=by
 unfold putM
 rw [List.mem_cons,mem_delM]
end
theorem dirtyOf_put (dl:List (List UInt8×List Nat)) (nm:List UInt8) (l:List Nat) (nm':List UInt8):dirtyOf (putM dl nm l) nm'=if nm'=nm then l else dirtyOf dl nm':=by
 unfold dirtyOf
 rw [lookM_put]
 split<;>rfl
theorem dirtyOf_del (dl:List (List UInt8×List Nat)) (nm nm':List UInt8):dirtyOf (delM dl nm) nm'=if nm'=nm then [] else dirtyOf dl nm':=by
 unfold dirtyOf
 rw [lookM_del]
 split<;>rfl
theorem dirtyOf_soil (dl:List (List UInt8×List Nat)) (nm:List UInt8) (k:Nat) (nm':List UInt8) (x:Nat):x∈dirtyOf (soilD dl nm k) nm'↔(nm'=nm∧x=k)∨x∈dirtyOf dl nm':=by
 unfold soilD
 by_cases h:k∈dirtyOf dl nm
 · rw [if_pos h]
   constructor
   · exact .inr
   · rintro (⟨rfl,rfl⟩|h1)
     · exact h
     · exact h1
 · rw [if_neg h,dirtyOf_put]
   by_cases e:nm'=nm
   · subst e
     rw [if_pos rfl,mem_insK]
     simp
   · rw [if_neg e]
     simp [e]
theorem DlOk.rise_of {dl:List (List UInt8×List Nat)} (h:DlOk dl) (nm:List UInt8):(dirtyOf dl nm).Pairwise (· < ·):=by
 unfold dirtyOf
 cases e:lookM dl nm with
 | none=>simp
 | some l=>exact (h.rise nm l (lookM_mem e)).2
theorem dirtyOf_clean (dl:List (List UInt8×List Nat)) (nm:List UInt8) (k:Nat) (nm':List UInt8):dirtyOf (cleanD dl nm k) nm'=if nm'=nm then (dirtyOf dl nm).erase k else dirtyOf dl nm':=by
 unfold cleanD
 split
 · rename_i h
   rw [dirtyOf_del]
   split
   · exact h.symm
   · rfl
 · rw [dirtyOf_put]
theorem DlOk.nil:DlOk []:=⟨by simp,by simp⟩
theorem DlOk.del {dl:List (List UInt8×List Nat)} (h:DlOk dl) (nm:List UInt8):DlOk (delM dl nm):=⟨delM_nodup h.once nm,fun a l hl=>h.rise a l (mem_delM.1 hl).1⟩
theorem DlOk.put {dl:List (List UInt8×List Nat)} (h:DlOk dl) (nm:List UInt8) {l:List Nat} (hl:l≠[]) (hr:l.Pairwise (· < ·)):DlOk (putM dl nm l):=
 ⟨putM_nodup h.once nm l,fun a m hm=>by
  rcases mem_putM.1 hm with e|e
  · obtain ⟨rfl,rfl⟩:=Prod.mk.inj e
    exact ⟨hl,hr⟩
  · exact h.rise a m e.1⟩
theorem DlOk.soil {dl:List (List UInt8×List Nat)} (h:DlOk dl) (nm:List UInt8) (k:Nat):DlOk (soilD dl nm k):=by
 unfold soilD
 split
 · exact h
 · rename_i hk
   exact h.put nm (fun e=>by have:=insK_length (dirtyOf dl nm) k;rw [e] at this;simp at this) (insK_rise (h.rise_of nm) hk)
theorem DlOk.clean {dl:List (List UInt8×List Nat)} (h:DlOk dl) (nm:List UInt8) (k:Nat):DlOk (cleanD dl nm k):=by
 unfold cleanD
 split
 · exact h.del nm
 · rename_i hk
   exact h.put nm hk (erase_rise (h.rise_of nm) k)
theorem keys_get (fr:List (Option Frm)) (i:Nat):(keysOf fr)[i]? = (fr[i]?).map (Option.map fun f=>(f.name,f.k)):=List.getElem?_map
theorem keys_len (fr:List (Option Frm)):(keysOf fr).length=fr.length:=List.length_map _
theorem resN_keys (fr:List (Option Frm)):resN fr=(keysOf fr).countP (·.isSome):=by
 unfold resN keysOf
 rw [List.countP_map]
 congr 1
 funext o
 cases o<;>rfl
theorem key_at {fr:List (Option Frm)} {i:Nat} {f:Frm} (h:fr[i]? = some (some f)):(keysOf fr)[i]? = some (some (f.name,f.k)):=by rw [keys_get,h];rfl
theorem mem_keys {fr:List (Option Frm)} {nm:List UInt8} {k:Nat}:some (nm,k)∈keysOf fr↔∃ (i:Nat) (f:Frm),fr[i]? = some (some f)∧f.name=nm∧f.k=k:=by
 constructor
 · intro h
   obtain ⟨i,hi⟩:=List.mem_iff_getElem?.1 h
   rw [keys_get] at hi
   cases e:fr[i]? with
   | none=>rw [e] at hi;cases hi
   | some o=>
    rw [e] at hi
    cases o with
    | none=>simp at hi
    | some f=>
     simp only [Option.map_some,Option.some.injEq,Prod.mk.injEq] at hi
     exact ⟨i,f,e,hi.1,hi.2⟩
 · rintro ⟨i,f,h,rfl,rfl⟩
   exact List.mem_of_getElem? (key_at h)
theorem isAt_iff {nm:List UInt8} {k:Nat} {o:Option Frm}:isAt nm k o=true↔∃ f,o=some f∧f.name=nm∧f.k=k:=by
 cases o with
 | none=>simp [isAt]
 | some f=>simp [isAt]
def One (fr:List (Option Frm)):Prop:=∀ (i j:Nat) (x:List UInt8×Nat),(keysOf fr)[i]? = some (some x)→(keysOf fr)[j]? = some (some x)→i=j
theorem idx_some {fr:List (Option Frm)} {nm:List UInt8} {k i:Nat} (h:fr.findIdx? (isAt nm k)=some i):∃ f,fr[i]? = some (some f)∧f.name=nm∧f.k=k:=by
 obtain ⟨hi,hp,-⟩:=List.findIdx?_eq_some_iff_getElem.1 h
 obtain ⟨f,e,h1,h2⟩:=isAt_iff.1 hp
 exact ⟨f,by rw [List.getElem?_eq_getElem hi,e],h1,h2⟩
theorem idx_none {fr:List (Option Frm)} {nm:List UInt8} {k:Nat}:fr.findIdx? (isAt nm k)=none↔some (nm,k)∉keysOf fr:=by
 rw [List.findIdx?_eq_none_iff,mem_keys]
 constructor
 · rintro h ⟨i,f,e,h1,h2⟩
   have:=h _ (List.mem_of_getElem? e)
   rw [isAt_iff.2 ⟨f,rfl,h1,h2⟩] at this
   cases this
 · intro h o ho
   cases e:isAt nm k o with
   | false=>rfl
   | true=>
    obtain ⟨f,rfl,h1,h2⟩:=isAt_iff.1 e
    obtain ⟨i,hi⟩:=List.mem_iff_getElem?.1 ho
    exact absurd ⟨i,f,hi,h1,h2⟩ h
theorem idx_at {fr:List (Option Frm)} (one:One fr) {i:Nat} {f:Frm} (h:fr[i]? = some (some f)):fr.findIdx? (isAt f.name f.k)=some i:=by
 cases e:fr.findIdx? (isAt f.name f.k) with
 | none=>exact absurd (mem_keys.2 ⟨i,f,h,rfl,rfl⟩) (idx_none.1 e)
 | some j=>
  obtain ⟨g,hg,h1,h2⟩:=idx_some e
  congr 1
  have:=key_at hg
  rw [h1,h2] at this
  exact one j i _ this (key_at h)
theorem frmOf_some {fr:List (Option Frm)} {nm:List UInt8} {k:Nat} {f:Frm} (h:frmOf fr nm k=some f):∃ i,fr.findIdx? (isAt nm k)=some i∧fr[i]? = some (some f)∧f.name=nm∧f.k=k:=by
 unfold frmOf at h
 cases e:fr.findIdx? (isAt nm k) with
 | none=>rw [e] at h;cases h
 | some i=>
  obtain ⟨g,hg,h1,h2⟩:=idx_some e
  rw [e] at h
  simp only [Option.bind_some,hg,Option.getD_some,Option.some.injEq] at h
  subst h
  exact ⟨i,rfl,hg,h1,h2⟩
theorem frmOf_at {fr:List (Option Frm)} (one:One fr) {i:Nat} {f:Frm} (h:fr[i]? = some (some f)):frmOf fr f.name f.k=some f:=by
 unfold frmOf
 rw [idx_at one h]
 simp [h]
theorem frmOf_mem {fr:List (Option Frm)} {nm:List UInt8} {k:Nat} (h:some (nm,k)∈keysOf fr):∃ f,frmOf fr nm k=some f:=by
 cases e:fr.findIdx? (isAt nm k) with
 | none=>exact absurd h (idx_none.1 e)
 | some i=>
  obtain ⟨g,hg,h1,h2⟩:=idx_some e
  refine ⟨g,?_⟩
  unfold frmOf
  rw [e]
  simp [hg]
theorem PstOk.one' {p:Pst} (h:PstOk p):One p.fr:=h.one
theorem keys_set (fr:List (Option Frm)) (i:Nat) (o:Option Frm):keysOf (fr.set i o)=(keysOf fr).set i (o.map fun f=>(f.name,f.k)):=List.map_set
theorem keys_modify {fr:List (Option Frm)} {g:Frm→Frm} (h1:∀ f,(g f).name=f.name) (h2:∀ f,(g f).k=f.k) (i:Nat):keysOf (fr.modify i (Option.map g))=keysOf fr:=by
 apply List.ext_getElem?
 intro j
 rw [keys_get,keys_get,List.getElem?_modify]
 cases fr[j]? with
 | none=>rfl
 | some o=>
  cases o with
  | none=>simp
  | some f=>
   simp only [Option.map_some]
   split
   · simp [h1,h2]
   · simp
theorem pin_modify {fr:List (Option Frm)} {g:Frm→Frm} (h:∀ f,(g f).pins=f.pins) (i:Nat):pinN (fr.modify i (Option.map g))=pinN fr:=by
 have e:∀ l:List (Option Frm),pinN l=(l.map (fun o=>isPin o)).countP id:=fun l=>by unfold pinN;rw [List.countP_map];rfl
 rw [e,e]
 congr 1
 apply List.ext_getElem?
 intro j
 rw [List.getElem?_map,List.getElem?_map,List.getElem?_modify]
 cases fr[j]? with
 | none=>rfl
 | some o=>
  cases o with
  | none=>simp
  | some f=>
   simp only [Option.map_some]
   split
   · simp [isPin,h]
   · simp
def unU (fr:List (Option Frm)):List (Option Frm):=fr.map (Option.map fun f=>{f with used:=false})
theorem unU_len (fr:List (Option Frm)):(unU fr).length=fr.length:=List.length_map _
theorem unU_get (fr:List (Option Frm)) (i:Nat):(unU fr)[i]? = (fr[i]?).map (Option.map fun f=>{f with used:=false}):=List.getElem?_map
theorem unU_keys {fr fr':List (Option Frm)} (h:unU fr=unU fr'):keysOf fr=keysOf fr':=by
 have e:∀ l,keysOf l=keysOf (unU l):=fun l=>by
  unfold keysOf unU
  rw [List.map_map]
  congr 1
  funext o
  cases o<;>rfl
 rw [e fr,e fr',h]
theorem unU_pin {fr fr':List (Option Frm)} (h:unU fr=unU fr'):pinN fr=pinN fr':=by
 have e:∀ l,pinN l=pinN (unU l):=fun l=>by
  unfold pinN unU
  rw [List.countP_map]
  congr 1
  funext o
  cases o<;>rfl
 rw [e fr,e fr',h]
theorem unU_res {fr fr':List (Option Frm)} (h:unU fr=unU fr'):resN fr=resN fr':=by rw [resN_keys,resN_keys,unU_keys h]
theorem unU_at {fr fr':List (Option Frm)} (h:unU fr=unU fr') {i:Nat} {f:Frm} (hf:fr[i]? = some (some f)):∃ u,fr'[i]? = some (some {f with used:=u}):=by
 have e:=unU_get fr' i
 rw [←h,unU_get,hf] at e
 cases e2:fr'[i]? with
 | none=>rw [e2] at e;cases e
 | some o=>
  rw [e2] at e
  cases o with
  | none=>simp at e
  | some g=>
   simp only [Option.map_some,Option.some.injEq,Frm.mk.injEq,and_true] at e
   obtain ⟨h1,h2,h3,h4⟩:=e
   refine ⟨g.used,?_⟩
   cases g
   cases f
   simp_all
theorem unU_set {fr:List (Option Frm)} {i:Nat} {f:Frm} (h:fr[i]? = some (some f)) (u:Bool):unU (fr.set i (some {f with used:=u}))=unU fr:=by
 apply List.ext_getElem?
 intro j
 rw [unU_get,unU_get,List.getElem?_set]
 split
 · rename_i e
   subst e
   have hi:=(List.getElem?_eq_some_iff.1 h).1
   rw [if_pos hi,h]
   rfl
 · rfl
theorem seek_one (m:Nat) (fr:List (Option Frm)) (h:Nat) {f:Frm} (e:fr[h]? = some (some f)):seekS (m+1) fr h =
 if 0<f.pins then seekS m fr ((h+1)%fr.length) else if f.used=true then seekS m (fr.set h (some {f with used:=false})) ((h+1)%fr.length) else (fr,h,true):=by
 rw [seekS,e]
theorem seek_bad (m:Nat) (fr:List (Option Frm)) (h:Nat) (e:∀ f,fr[h]? ≠ some (some f)):seekS m fr h=(fr,h,false):=by
 cases m with
 | zero=>rfl
 | succ m=>
  rw [seekS]
  split
  · rename_i f hf
    exact absurd hf (e f)
  · rfl
theorem seek_all (m:Nat):∀ (fr:List (Option Frm)) (h:Nat),unU (seekS m fr h).1=unU fr∧(h<fr.length→(seekS m fr h).2.1<fr.length)∧
 ((seekS m fr h).2.2=true→∃ f,(seekS m fr h).1[(seekS m fr h).2.1]? = some (some f)∧f.pins=0∧f.used=false):=by
 induction m with
 | zero=>
  intro fr h
  exact ⟨rfl,fun h=>h,fun h=>by cases h⟩
 | succ m ih=>
  intro fr h
  by_cases e:∃ f,fr[h]? = some (some f)
  · obtain ⟨f,e⟩:=e
    have hl:=(List.getElem?_eq_some_iff.1 e).1
    have hm:(h+1)%fr.length<fr.length:=Nat.mod_lt _ (by omega)
    rw [seek_one m fr h e]
    split
    · obtain ⟨h1,h2,h3⟩:=ih fr ((h+1)%fr.length)
      exact ⟨h1,fun _=>h2 hm,h3⟩
    · split
      · obtain ⟨h1,h2,h3⟩:=ih (fr.set h (some {f with used:=false})) ((h+1)%fr.length)
        rw [List.length_set] at h2
        exact ⟨h1.trans (unU_set e false),fun _=>h2 hm,h3⟩
      · rename_i h1 h2
        refine ⟨rfl,fun h=>h,fun _=>⟨f,e,by omega,?_⟩⟩
        cases hu:f.used with
        | false=>rfl
        | true=>exact absurd hu h2
  · rw [seek_bad _ _ _ (fun f hf=>e ⟨f,hf⟩)]
    exact ⟨rfl,fun h=>h,fun h=>by cases h⟩
theorem seek_len (m:Nat) (fr:List (Option Frm)) (h:Nat):(seekS m fr h).1.length=fr.length:=by
 have:=congrArg List.length (seek_all m fr h).1
 rwa [unU_len,unU_len] at this
theorem wb_same (fs:List Frm):∀ p:Pst,(wbS p fs).1.fr=p.fr∧(wbS p fs).1.hand=p.hand∧(wbS p fs).1.mostR=p.mostR∧(wbS p fs).1.mostP=p.mostP:=by
 induction fs with
 | nil=>intro p;exact ⟨rfl,rfl,rfl,rfl⟩
 | cons f fs ih=>
  intro p
  rw [wbS]
  split
  · exact ih _
  · exact ⟨rfl,rfl,rfl,rfl⟩
theorem wb_dl (fs:List Frm):∀ p:Pst,DlOk p.dl→DlOk (wbS p fs).1.dl∧(∀ nm x,x∈dirtyOf (wbS p fs).1.dl nm→x∈dirtyOf p.dl nm)∧((wbS p fs).2=0→∀ f∈fs,f.k∉dirtyOf (wbS p fs).1.dl f.name):=by
 induction fs with
 | nil=>intro p h;exact ⟨h,fun _ _ h=>h,fun _ f hf=>by simp at hf⟩
 | cons f fs ih=>
  intro p h
  rw [wbS]
  split
  · obtain ⟨h1,h2,h3⟩:=ih {p with d:=(writeP p.d f.name (f.k:Int) f.b).1,dl:=cleanD p.dl f.name f.k} (h.clean _ _)
    have hs:∀ nm x,x∈dirtyOf (cleanD p.dl f.name f.k) nm→x∈dirtyOf p.dl nm∧(nm=f.name→x≠f.k):=fun nm x hx=>by
     rw [dirtyOf_clean] at hx
     split at hx
     · rename_i e
       rw [mem_erase_rise (h.rise_of _)] at hx
       exact ⟨by rw [e];exact hx.2,fun _=>hx.1⟩
     · rename_i e
       exact ⟨hx,fun e2=>absurd e2 e⟩
    refine ⟨h1,fun nm x hx=>(hs nm x (h2 nm x hx)).1,fun h0 g hg=>?_⟩
    rcases List.mem_cons.1 hg with rfl|hg
    · intro hx
      exact (hs _ _ (h2 _ _ hx)).2 rfl rfl
    · exact h3 h0 g hg
  · rename_i h0
    exact ⟨h,fun _ _ h=>h,fun h1=>absurd h1 h0⟩
theorem save_same (p:Pst) (f:Frm):(saveS p f).1.fr=p.fr∧(saveS p f).1.hand=p.hand∧(saveS p f).1.mostR=p.mostR∧(saveS p f).1.mostP=p.mostP:=by
 unfold saveS
 split
 · split
   · exact ⟨rfl,rfl,rfl,rfl⟩
   · exact wb_same _ _
 · exact ⟨rfl,rfl,rfl,rfl⟩
theorem save_dl (p:Pst) (f:Frm) (h:DlOk p.dl) (hf:some (f.name,f.k)∈keysOf p.fr):DlOk (saveS p f).1.dl∧(∀ nm x,x∈dirtyOf (saveS p f).1.dl nm→x∈dirtyOf p.dl nm)∧((saveS p f).2=0→f.k∉dirtyOf (saveS p f).1.dl f.name):=by
 unfold saveS
 split
 · split
   · rename_i h1 h2
     exact ⟨h,fun _ _ h=>h,fun h3=>absurd h3 h2⟩
   · obtain ⟨h1,h2,h3⟩:=wb_dl ((saved (dirtyOf p.dl f.name) (pagesP p.d f.name).1 f.k).filterMap (frmOf p.fr f.name)) p h
     refine ⟨h1,h2,fun h0=>?_⟩
     obtain ⟨g,hg⟩:=frmOf_mem hf
     obtain ⟨i,-,-,hn,hk⟩:=frmOf_some hg
     have:=h3 h0 g (List.mem_filterMap.2 ⟨f.k,by simp [saved],hg⟩)
     rwa [hn,hk] at this
 · rename_i h1
   exact ⟨h,fun _ _ h=>h,fun _=>h1⟩
section
variable {α:Type}
theorem sum_set (f:α→Nat):∀ {l:List α} {i:Nat} {y:α} (x:α),l[i]? = some y→((l.set i x).map f).sum+f y=(l.map f).sum+f x
 | [],i,y,x,h=>by simp at h
 | a::l,0,y,x,h=>by
  simp only [List.getElem?_cons_zero,Option.some.injEq] at h
  subst h
  simp only [List.set_cons_zero,List.map_cons,List.sum_cons]
  omega
 | a::l,i+1,y,x,h=>by
  simp only [List.getElem?_cons_succ] at h
  have:=sum_set f x h
  simp only [List.set_cons_succ,List.map_cons,List.sum_cons]
  omega
theorem cnt_set (p:α→Bool):∀ {l:List α} {i:Nat} {y:α} (x:α),l[i]? = some y→(l.set i x).countP p+(if p y=true then 1 else 0)=l.countP p+(if p x=true then 1 else 0)
 | [],i,y,x,h=>by simp at h
 | a::l,0,y,x,h=>by
  simp only [List.getElem?_cons_zero,Option.some.injEq] at h
  subst h
  simp only [List.set_cons_zero,List.countP_cons]
  omega
 | a::l,i+1,y,x,h=>by
  simp only [List.getElem?_cons_succ] at h
  have:=cnt_set p x h
  simp only [List.set_cons_succ,List.countP_cons]
  omega
theorem modify_set (g:α→α) {l:List α} {i:Nat} {y:α} (h:l[i]? = some y):l.modify i g=l.set i (g y):=by
 apply List.ext_getElem?
 intro j
 have hi:=(List.getElem?_eq_some_iff.1 h).1
 rw [List.getElem?_modify,List.getElem?_set]
 by_cases e:i=j
 · subst e
   have e2:l[i]=y:=by rw [List.getElem?_eq_getElem hi] at h;exact Option.some.inj h
   simp [hi,e2]
 · simp [e]
end
def pinsOf:Option Frm→Nat
 | some f=>f.pins
 | none=>0
def sumP (fr:List (Option Frm)):Nat:=(fr.map pinsOf).sum
theorem unU_sum {fr fr':List (Option Frm)} (h:unU fr=unU fr'):sumP fr=sumP fr':=by
 have e:∀ l,sumP l=sumP (unU l):=fun l=>by
  unfold sumP unU
  rw [List.map_map]
  congr 2
  funext o
  cases o<;>rfl
 rw [e fr,e fr',h]
def Bnd (M:Nat) (fr:List (Option Frm)):Prop:=∀ (i:Nat) (f:Frm),fr[i]? = some (some f)→f.k≤M∧f.pins≤M
theorem unU_bnd {M:Nat} {fr fr':List (Option Frm)} (h:unU fr=unU fr') (b:Bnd M fr):Bnd M fr':=fun i f hf=>by
 obtain ⟨u,hu⟩:=unU_at h.symm hf
 have:=b i _ hu
 exact this
theorem Bnd.more {M M':Nat} {fr:List (Option Frm)} (b:Bnd M fr) (h:M≤M'):Bnd M' fr:=fun i f hf=>by have:=b i f hf;omega
theorem Bnd.set {M:Nat} {fr:List (Option Frm)} (b:Bnd M fr) (i:Nat) {o:Option Frm} (ho:∀ f,o=some f→f.k≤M∧f.pins≤M):Bnd M (fr.set i o):=fun j f hf=>by
 rw [List.getElem?_set] at hf
 split at hf
 · split at hf
   · exact ho f (Option.some.inj hf)
   · cases hf
 · exact b j f hf
theorem first_none {fr:List (Option Frm)} (h:resN fr<fr.length):fr[firstE fr]? = some none:=by
 have h1:∃ o∈fr,o.isNone=true:=by
  rcases Classical.em (∃ o∈fr,o.isNone=true) with h2|h2
  · exact h2
  · exfalso
    have:resN fr=fr.length:=by
     unfold resN
     rw [List.countP_eq_length]
     intro o ho
     cases o with
     | none=>exact absurd ⟨none,ho,rfl⟩ h2
     | some f=>rfl
    omega
 have h2:firstE fr<fr.length:=List.findIdx_lt_length_of_exists h1
 have h3:=List.findIdx_getElem (p:=fun o:Option Frm=>o.isNone) (w:=h2)
 rw [List.getElem?_eq_getElem h2]
 congr 1
 exact Option.isNone_iff_eq_none.1 h3
theorem res_le (fr:List (Option Frm)):resN fr≤fr.length:=List.countP_le_length
theorem res_set_none (fr:List (Option Frm)) (i:Nat):resN (fr.set i none)≤resN fr:=by
 by_cases h:i<fr.length
 · have:=cnt_set (fun o:Option Frm=>o.isSome) (l:=fr) (i:=i) (y:=fr[i]) none (List.getElem?_eq_getElem h)
   unfold resN
   simp only [Option.isSome_none,Bool.false_eq_true,if_false] at this
   omega
 · rw [List.set_eq_of_length_le (by omega)]
   exact Nat.le_refl _
theorem pin_set_none (fr:List (Option Frm)) (i:Nat):pinN (fr.set i none)≤pinN fr:=by
 by_cases h:i<fr.length
 · have:=cnt_set isPin (l:=fr) (i:=i) (y:=fr[i]) none (List.getElem?_eq_getElem h)
   unfold pinN
   simp only [isPin,Bool.false_eq_true,if_false] at this
   omega
 · rw [List.set_eq_of_length_le (by omega)]
   exact Nat.le_refl _
theorem one_set_none {fr:List (Option Frm)} (one:One fr) (i:Nat):One (fr.set i none):=by
 intro a b x ha hb
 rw [keys_set,List.getElem?_set] at ha hb
 split at ha
 · split at ha<;>simp at ha
 · split at hb
   · split at hb<;>simp at hb
   · exact one a b x ha hb
theorem keys_set_none {fr:List (Option Frm)} {i:Nat} {x:List UInt8×Nat} (h:some x∈keysOf (fr.set i none)):some x∈keysOf fr:=by
 obtain ⟨j,hj⟩:=List.mem_iff_getElem?.1 h
 rw [keys_set,List.getElem?_set] at hj
 split at hj
 · split at hj<;>simp at hj
 · exact List.mem_of_getElem? hj
theorem keys_set_other {fr:List (Option Frm)} {i:Nat} {f:Frm} (hf:fr[i]? = some (some f)) (o:Option Frm) {x:List UInt8×Nat} (hx:some x∈keysOf fr) (hne:x≠(f.name,f.k)):some x∈keysOf (fr.set i o):=by
 obtain ⟨j,hj⟩:=List.mem_iff_getElem?.1 hx
 have hij:i≠j:=by
  rintro rfl
  rw [key_at hf] at hj
  exact hne (Option.some.inj (Option.some.inj hj)).symm
 exact List.mem_of_getElem? (i:=j) (by rw [keys_set,List.getElem?_set,if_neg hij];exact hj)
structure Took (p:Pst) (q:Pst×Nat×Nat):Prop where
 ok:PstOk q.1
 keys:∀ x,some x∈keysOf q.1.fr→some x∈keysOf p.fr
 len:q.1.fr.length=p.fr.length
 at_:q.2.2=0→q.1.fr[q.2.1]? = some none
 pin:pinN q.1.fr=pinN p.fr
 sum:sumP q.1.fr=sumP p.fr
 bnd:∀ M,Bnd M p.fr→Bnd M q.1.fr
 mostR:q.1.mostR=p.mostR
 mostP:q.1.mostP=p.mostP
theorem PstOk.seek {p:Pst} (h:PstOk p) (m:Nat):PstOk {p with fr:=(seekS m p.fr p.hand).1,hand:=(seekS m p.fr p.hand).2.1}:=by
 obtain ⟨h1,h2,-⟩:=seek_all m p.fr p.hand
 have hk:=unU_keys h1
 have hl:=seek_len m p.fr p.hand
 refine ⟨?_,?_,?_,h.dl,?_,?_,?_,?_⟩
 · show 1≤(seekS m p.fr p.hand).1.length∧_
   rw [hl];exact h.n
 · show (seekS m p.fr p.hand).2.1<(seekS m p.fr p.hand).1.length
   rw [hl];exact h2 h.hand
 · show One (seekS m p.fr p.hand).1
   unfold One;rw [hk];exact h.one
 · show ∀ nm k,k∈dirtyOf p.dl nm→some (nm,k)∈keysOf (seekS m p.fr p.hand).1
   rw [hk];exact h.held
 · show ∀ x,some x∈keysOf (seekS m p.fr p.hand).1→_
   rw [hk];exact h.names
 · show resN (seekS m p.fr p.hand).1≤p.mostR
   rw [unU_res h1];exact h.mostR
 · show pinN (seekS m p.fr p.hand).1≤p.mostP
   rw [unU_pin h1];exact h.mostP
theorem PstOk.save {p:Pst} (h:PstOk p) (f:Frm) (hf:some (f.name,f.k)∈keysOf p.fr):PstOk (saveS p f).1:=by
 obtain ⟨e1,e2,e3,e4⟩:=save_same p f
 obtain ⟨d1,d2,-⟩:=save_dl p f h.dl hf
 exact ⟨by rw [e1];exact h.n,by rw [e1,e2];exact h.hand,by rw [e1];exact h.one,d1,fun nm k hk=>by rw [e1];exact h.held nm k (d2 nm k hk),by rw [e1];exact h.names,by rw [e1,e3];exact h.mostR,by rw [e1,e4];exact h.mostP⟩
theorem PstOk.empty {p:Pst} (h:PstOk p) {i:Nat} {f:Frm} (hf:p.fr[i]? = some (some f)) (hd:f.k∉dirtyOf p.dl f.name) (hand:Nat) (hh:hand<p.fr.length):PstOk {p with fr:=p.fr.set i none,hand:=hand}:=
 ⟨by simpa using h.n,by simpa using hh,one_set_none h.one i,h.dl,fun nm k hk=>keys_set_other hf none (h.held nm k hk) (fun e=>by obtain ⟨rfl,rfl⟩:=Prod.mk.inj e;exact hd hk),fun x hx=>h.names x (keys_set_none hx),Nat.le_trans (res_set_none _ _) h.mostR,Nat.le_trans (pin_set_none _ _) h.mostP⟩
theorem take_spec {p:Pst} (h:PstOk p):Took p (takeS p):=by
 unfold takeS
 split
 · rename_i hr
   exact ⟨h,fun _ h=>h,rfl,fun _=>first_none hr,rfl,rfl,fun _ h=>h,rfl,rfl⟩
 · obtain ⟨h1,h2,h3⟩:=seek_all (2*p.fr.length) p.fr p.hand
   have hS:=h.seek (2*p.fr.length)
   have hl:=seek_len (2*p.fr.length) p.fr p.hand
   generalize seekS (2*p.fr.length) p.fr p.hand=r at *
   have base:Took p ({p with fr:=r.1,hand:=r.2.1},0,10):=⟨hS,fun x hx=>by rw [←unU_keys h1];exact hx,hl,(fun h0=>by cases h0),unU_pin h1,unU_sum h1,fun M b=>unU_bnd h1.symm b,rfl,rfl⟩
   simp only
   split
   · exact base
   · rename_i hf
     obtain ⟨f,e,hp,hu⟩:=h3 (by cases h4:r.2.2 with|false=>exact absurd h4 hf|true=>rfl)
     rw [e]
     simp only
     have hk:some (f.name,f.k)∈keysOf r.1:=mem_keys.2 ⟨_,f,e,rfl,rfl⟩
     have hV:=hS.save f hk
     obtain ⟨e1,e2,e3,e4⟩:=save_same {p with fr:=r.1,hand:=r.2.1} f
     obtain ⟨-,-,d3⟩:=save_dl {p with fr:=r.1,hand:=r.2.1} f hS.dl hk
     generalize saveS {p with fr:=r.1,hand:=r.2.1} f=q at *
     simp only at e1 e2 e3 e4
     split
     · rename_i hE
       exact ⟨hV,fun x hx=>by rw [←unU_keys h1,←e1];exact hx,by rw [e1];exact hl,fun h0=>absurd h0 hE,by rw [e1];exact unU_pin h1,by rw [e1];exact unU_sum h1,fun M b=>by rw [e1];exact unU_bnd h1.symm b,e3,e4⟩
     · rename_i hE
       have hE:q.2=0:=by omega
       have hlt:r.2.1<r.1.length:=(List.getElem?_eq_some_iff.1 e).1
       have e':q.1.fr[r.2.1]? = some (some f):=by rw [e1];exact e
       refine ⟨hV.empty e' (d3 hE) _ (Nat.mod_lt _ (by rw [e1];omega)),fun x hx=>?_,?_,fun _=>?_,?_,?_,fun M b=>?_,e3,e4⟩
       · have:=keys_set_none hx
         rw [e1,unU_keys h1] at this
         exact this
       · simp only [List.length_set];rw [e1];exact hl
       · simp only
         rw [List.getElem?_set,if_pos rfl,if_pos (by rw [e1];exact hlt)]
       · have:=cnt_set isPin (l:=q.1.fr) (y:=some f) none e'
         simp only [isPin,hp,Nat.lt_irrefl,decide_false,Bool.false_eq_true,if_false,Nat.add_zero] at this
         show pinN (q.1.fr.set r.2.1 none)=_
         rw [←unU_pin h1,←e1]
         exact this
       · have:=sum_set pinsOf (l:=q.1.fr) (y:=some f) none e'
         simp only [pinsOf,hp,Nat.add_zero] at this
         show sumP (q.1.fr.set r.2.1 none)=_
         rw [←unU_sum h1,←e1]
         exact this
       · exact Bnd.set (by rw [e1];exact unU_bnd h1.symm b) _ (fun f h=>by cases h)
theorem PstOk.disk {p:Pst} (h:PstOk p) (d:Ds):PstOk {p with d:=d}:=⟨h.n,h.hand,h.one,h.dl,h.held,h.names,h.mostR,h.mostP⟩
theorem name_open {s:Ds} {nm:List UInt8} (h:openE s nm=0):nm.length≤24:=by
 have h1:(sizeS s nm).2=0:=by
  unfold openE at h
  split at h
  · assumption
  · rename_i h2;omega
 unfold sizeS at h1
 split at h1
 · simp at h1
 · split at h1
   · simp at h1
   · rename_i h2
     unfold nameOk at h2
     simp only [Bool.and_eq_false_imp,decide_eq_true_eq] at h2
     by_cases h3:nm.length≤24
     · exact h3
     · exact absurd (fun h4:1≤nm.length∧nm.length≤24=>absurd h4.2 h3) h2
theorem onFr_set {p:Pst} {i:Nat} {f:Frm} (h:p.fr[i]? = some (some f)) (g:Frm→Frm):(onFr p i g).fr=p.fr.set i (some (g f)):=modify_set (Option.map g) h
theorem PstOk.on {p:Pst} (h:PstOk p) {g:Frm→Frm} (h1:∀ f,(g f).name=f.name) (h2:∀ f,(g f).k=f.k) (i:Nat) (m:Nat) (hm:pinN (onFr p i g).fr≤m):PstOk {onFr p i g with mostP:=m}:=by
 have hk:keysOf (onFr p i g).fr=keysOf p.fr:=keys_modify h1 h2 i
 refine ⟨?_,?_,?_,h.dl,?_,?_,?_,hm⟩
 · show 1≤(onFr p i g).fr.length∧_
   rw [←keys_len,hk,keys_len];exact h.n
 · show p.hand<(onFr p i g).fr.length
   rw [←keys_len,hk,keys_len];exact h.hand
 · show One (onFr p i g).fr
   unfold One;rw [hk];exact h.one
 · show ∀ nm k,k∈dirtyOf p.dl nm→some (nm,k)∈keysOf (onFr p i g).fr
   rw [hk];exact h.held
 · show ∀ x,some x∈keysOf (onFr p i g).fr→_
   rw [hk];exact h.names
 · show resN (onFr p i g).fr≤p.mostR
   rw [resN_keys,hk,←resN_keys];exact h.mostR
theorem on_bnd {M:Nat} {p:Pst} (b:Bnd M p.fr) {g:Frm→Frm} (i:Nat) {M':Nat} (hM:M≤M') (hg:∀ f,f.k≤M→f.pins≤M→(g f).k≤M'∧(g f).pins≤M'):Bnd M' (onFr p i g).fr:=by
 intro j f hf
 have e:(onFr p i g).fr[j]? = (p.fr.modify i (Option.map g))[j]?:=rfl
 rw [e,List.getElem?_modify] at hf
 cases e2:p.fr[j]? with
 | none=>rw [e2] at hf;cases hf
 | some o=>
  rw [e2] at hf
  cases o with
  | none=>simp at hf
  | some f0=>
   obtain ⟨b1,b2⟩:=b j f0 e2
   simp only [Option.map_eq_map,Option.map_some,Option.some.injEq] at hf
   split at hf
   · simp only [Option.map_some,Option.some.injEq] at hf
     subst hf
     exact hg f0 b1 b2
   · simp only [Option.some.injEq] at hf
     subst hf
     omega
theorem on_sum {p:Pst} {i:Nat} {f:Frm} (h:p.fr[i]? = some (some f)) (g:Frm→Frm):sumP (onFr p i g).fr+f.pins=sumP p.fr+(g f).pins:=by
 rw [onFr_set h]
 exact sum_set pinsOf (some (g f)) h
theorem on_sum_same {p:Pst} (i:Nat) {g:Frm→Frm} (h:∀ f,(g f).pins=f.pins):sumP (onFr p i g).fr=sumP p.fr:=by
 have e:∀ l:List (Option Frm),sumP l=(l.map pinsOf).sum:=fun l=>rfl
 rw [e,e]
 congr 1
 apply List.ext_getElem?
 intro j
 rw [List.getElem?_map,List.getElem?_map,show (onFr p i g).fr[j]? = (p.fr.modify i (Option.map g))[j]? from rfl,List.getElem?_modify]
 cases p.fr[j]? with
 | none=>rfl
 | some o=>
  cases o with
  | none=>simp
  | some f=>
   simp only [Option.map_eq_map,Option.map_some]
   split
   · simp [pinsOf,h]
   · simp
structure Kept (p:Pst) (nm:List UInt8) (k:Nat) (q:Pst):Prop where
 ok:PstOk q
 keys:∀ x,some x∈keysOf q.fr→some x∈keysOf p.fr∨x=(nm,k)
 len:q.fr.length=p.fr.length
 pin:pinN q.fr=pinN p.fr
 sum:sumP q.fr=sumP p.fr
 bnd:∀ M,Bnd M p.fr→k≤M→Bnd M q.fr
 mostP:q.mostP=p.mostP
theorem Took.kept {p:Pst} {q:Pst×Nat×Nat} (h:Took p q) (nm:List UInt8) (k:Nat):Kept p nm k q.1:=⟨h.ok,fun x hx=>.inl (h.keys x hx),h.len,h.pin,h.sum,fun M b _=>h.bnd M b,h.mostP⟩
theorem hold_spec {p:Pst} (h:PstOk p) {nm:List UInt8} {k:Nat} (hk:some (nm,k)∉keysOf p.fr) (hnm:nm.length≤24) (t:List UInt8) :
 Kept p nm k (holdS p nm k t).1∧((holdS p nm k t).2.2=0→(holdS p nm k t).1.fr[(holdS p nm k t).2.1]? = some (some ⟨nm,k,t,0,false⟩)):=by
 have T:=take_spec h
 unfold holdS
 generalize takeS p=q at *
 simp only
 split
 · rename_i hE
   exact ⟨T.kept nm k,fun h0=>absurd h0 hE⟩
 · rename_i hE
   have hE:q.2.2=0:=by omega
   have e:=T.at_ hE
   have hlt:=(List.getElem?_eq_some_iff.1 e).1
   have hk':some (nm,k)∉keysOf q.1.fr:=fun h=>hk (T.keys _ h)
   have hkeys:∀ x,some x∈keysOf (q.1.fr.set q.2.1 (some ⟨nm,k,t,0,false⟩))→some x∈keysOf q.1.fr∨x=(nm,k):=fun x hx=>by
    obtain ⟨j,hj⟩:=List.mem_iff_getElem?.1 hx
    rw [keys_set,List.getElem?_set] at hj
    split at hj
    · split at hj
      · simp only [Option.map_some,Option.some.injEq] at hj
        exact .inr hj.symm
      · cases hj
    · exact .inl (List.mem_of_getElem? hj)
   refine ⟨⟨⟨?_,?_,?_,T.ok.dl,?_,?_,?_,?_⟩,?_,?_,?_,?_,?_,T.mostP⟩,fun _=>?_⟩
   · simp only [List.length_set];exact T.ok.n
   · simp only [List.length_set];exact T.ok.hand
   · intro a b x ha hb
     rw [keys_set,List.getElem?_set] at ha hb
     split at ha
     · rename_i e1
       split at hb
       · rename_i e2;exact e1.symm.trans e2
       · split at ha
         · simp only [Option.map_some,Option.some.injEq] at ha
           subst ha
           exact absurd (List.mem_of_getElem? hb) hk'
         · cases ha
     · split at hb
       · split at hb
         · simp only [Option.map_some,Option.some.injEq] at hb
           subst hb
           exact absurd (List.mem_of_getElem? ha) hk'
         · cases hb
       · exact T.ok.one a b x ha hb
   · intro nm' k' hd
     obtain ⟨j,hj⟩:=List.mem_iff_getElem?.1 (T.ok.held nm' k' hd)
     have hij:q.2.1≠j:=by
      rintro rfl
      rw [keys_get,e] at hj
      simp at hj
     exact List.mem_of_getElem? (i:=j) (by rw [keys_set,List.getElem?_set,if_neg hij];exact hj)
   · intro x hx
     rcases hkeys x hx with h1|rfl
     · exact T.ok.names x h1
     · exact hnm
   · exact Nat.le_max_right _ _
   · have:=cnt_set isPin (l:=q.1.fr) (y:=none) (some ⟨nm,k,t,0,false⟩) e
     simp only [isPin,Nat.lt_irrefl,decide_false,Bool.false_eq_true,if_false,Nat.add_zero] at this
     show pinN (q.1.fr.set q.2.1 _)≤_
     unfold pinN
     rw [this]
     exact T.ok.mostP
   · intro x hx
     rcases hkeys x hx with h1|h1
     · exact .inl (T.keys x h1)
     · exact .inr h1
   · simp only [List.length_set];exact T.len
   · have:=cnt_set isPin (l:=q.1.fr) (y:=none) (some ⟨nm,k,t,0,false⟩) e
     simp only [isPin,Nat.lt_irrefl,decide_false,Bool.false_eq_true,if_false,Nat.add_zero] at this
     rw [←T.pin]
     exact this
   · have:=sum_set pinsOf (l:=q.1.fr) (y:=none) (some ⟨nm,k,t,0,false⟩) e
     simp only [pinsOf,Nat.add_zero] at this
     rw [←T.sum]
     exact this
   · intro M b hM
     exact (T.bnd M b).set _ (fun f hf=>by cases hf;exact ⟨hM,Nat.zero_le _⟩)
   · show (q.1.fr.set q.2.1 _)[q.2.1]? = _
     rw [List.getElem?_set,if_pos rfl,if_pos hlt]
theorem Kept.use {p q:Pst} {nm:List UInt8} {k:Nat} (h:Kept p nm k q) (i:Nat):Kept p nm k (onFr q i useF):=by
 have e:keysOf (onFr q i useF).fr=keysOf q.fr:=keys_modify (g:=useF) (fun _=>rfl) (fun _=>rfl) i
 have ep:pinN (onFr q i useF).fr=pinN q.fr:=pin_modify (g:=useF) (fun _=>rfl) i
 refine ⟨h.ok.on (g:=useF) (fun _=>rfl) (fun _=>rfl) i q.mostP (by rw [ep];exact h.ok.mostP),fun x hx=>h.keys x (by rw [←e];exact hx),?_,ep.trans h.pin,(on_sum_same (g:=useF) i (fun _=>rfl)).trans h.sum,fun M b hM=>on_bnd (h.bnd M b hM) i (Nat.le_refl _) (fun f h1 h2=>⟨h1,h2⟩),h.mostP⟩
 rw [←keys_len,e,keys_len]
 exact h.len
theorem bring_spec {p:Pst} (h:PstOk p) {nm:List UInt8} {k:Nat} (hnm:nm.length≤24) :
 Kept p nm k (bringS p nm k).1∧((bringS p nm k).2.2=0→∃ f,(bringS p nm k).1.fr[(bringS p nm k).2.1]? = some (some f)∧f.name=nm∧f.k=k):=by
 have base:Kept p nm k p:=⟨h,fun x hx=>.inl hx,rfl,rfl,rfl,fun _ b _=>b,rfl⟩
 unfold bringS
 cases e:p.fr.findIdx? (isAt nm k) with
 | some i=>
  obtain ⟨f,hf,h1,h2⟩:=idx_some e
  refine ⟨base.use i,fun _=>⟨useF f,?_,h1,h2⟩⟩
  simp only
  rw [onFr_set hf,List.getElem?_set,if_pos rfl,if_pos (List.getElem?_eq_some_iff.1 hf).1]
 | none=>
  have hk:=idx_none.1 e
  simp only
  split
  · rename_i hE
    exact ⟨base,fun h0=>absurd h0 hE⟩
  · obtain ⟨T,hT⟩:=hold_spec h hk hnm (readP p.d nm (k:Int)).1
    generalize holdS p nm k (readP p.d nm (k:Int)).1=q at *
    split
    · rename_i hE
      exact ⟨T,fun h0=>absurd h0 hE⟩
    · rename_i hE
      have hf:=hT (by omega)
      refine ⟨T.use q.2.1,fun _=>⟨useF ⟨nm,k,(readP p.d nm (k:Int)).1,0,false⟩,?_,rfl,rfl⟩⟩
      · simp only
        rw [onFr_set hf,List.getElem?_set,if_pos rfl,if_pos (List.getElem?_eq_some_iff.1 hf).1]
theorem find_name {p:Pst} {nm:List UInt8} (h:(findP p nm).2=0):openE p.d nm=0∧nm.length≤24:=by
 unfold findP at h
 split at h
 · rename_i h1;exact absurd h h1
 · rename_i h1
   have:openE p.d nm=0:=by omega
   exact ⟨this,name_open this⟩
theorem find_bnd {p:Pst} (hd:DsOk p.d) (h:PstOk p) {M:Nat} (b:Bnd M p.fr) (hM:65536≤M) (nm:List UInt8):(findP p nm).1≤M+1:=by
 unfold findP
 split
 · exact Nat.zero_le _
 · simp only
   have h1:=size_le hd nm
   have h2:(pagesP p.d nm).1≤65536:=by unfold pagesP;simp only;omega
   have h3:((dirtyOf p.dl nm).getLast?.map (· + 1)).getD 0≤M+1:=by
    cases e:(dirtyOf p.dl nm).getLast? with
    | none=>simp
    | some y=>
     simp only [Option.map_some,Option.getD_some]
     obtain ⟨i,f,hf,-,rfl⟩:=mem_keys.1 (h.held nm y (List.mem_of_getLast? e))
     have:=b i f hf
     omega
   omega
theorem get_spec {p:Pst} (h:PstOk p) (nm:List UInt8) (k:Int) :
 Kept p nm k.toNat (getP p nm k).1∧((getP p nm k).2.2=0→0≤k∧k.toNat<(findP p nm).1∧(findP p nm).2=0∧∃ f,(getP p nm k).1.fr[(getP p nm k).2.1]? = some (some f)∧f.name=nm∧f.k=k.toNat)∧
 ((findP p nm).1≤k.toNat→(getP p nm k).1=p):=by
 have base:Kept p nm k.toNat p:=⟨h,fun x hx=>.inl hx,rfl,rfl,rfl,fun _ b _=>b,rfl⟩
 unfold getP
 split
 · rename_i hE;exact ⟨base,fun h0=>absurd h0 hE,fun _=>rfl⟩
 · rename_i hE
   have hE:(findP p nm).2=0:=by omega
   split
   · exact ⟨base,fun h0=>by simp at h0,fun _=>rfl⟩
   · split
     · exact ⟨base,fun h0=>by simp at h0,fun _=>rfl⟩
     · obtain ⟨h1,h2⟩:=bring_spec h (k:=k.toNat) (find_name hE).2
       exact ⟨h1,fun h0=>⟨by omega,by omega,hE,h2 h0⟩,fun h0=>by omega⟩
theorem get_bnd {p:Pst} (hd:DsOk p.d) (h:PstOk p) {M:Nat} (b:Bnd M p.fr) (hM:65536≤M) (nm:List UInt8) (k:Int):Bnd M (getP p nm k).1.fr:=by
 obtain ⟨h1,-,h3⟩:=get_spec h nm k
 have:=find_bnd hd h b hM nm
 by_cases e:(findP p nm).1≤k.toNat
 · rw [h3 e];exact b
 · exact h1.bnd M b (by omega)
structure Well (p q:Pst):Prop where
 ok:PstOk q
 len:q.fr.length=p.fr.length
 bnd:∀ M,Bnd M p.fr→65536≤M→Bnd (M+1) q.fr
theorem Well.refl {p:Pst} (h:PstOk p):Well p p:=⟨h,rfl,fun M b _=>b.more (Nat.le_succ _)⟩
theorem read_well {p:Pst} (hd:DsOk p.d) (h:PstOk p) (nm:List UInt8) (k:Int):Well p (readPl p nm k).1:=by
 obtain ⟨h1,-,-⟩:=get_spec h nm k
 have hb:=fun M b hM=>(get_bnd hd h (M:=M) b hM nm k).more (Nat.le_succ M)
 unfold readPl
 simp only
 split
 · exact ⟨h1.ok,h1.len,hb⟩
 · exact ⟨h1.ok,h1.len,hb⟩
theorem pin_well {p:Pst} (hd:DsOk p.d) (h:PstOk p) (nm:List UInt8) (k:Int):Well p (pinPl p nm k).1:=by
 obtain ⟨h1,-,-⟩:=get_spec h nm k
 have hb:=fun M b hM=>get_bnd hd h (M:=M) b hM nm k
 unfold pinPl
 generalize getP p nm k=q at *
 simp only
 split
 · exact ⟨h1.ok,h1.len,fun M b hM=>(hb M b hM).more (Nat.le_succ _)⟩
 · have e:keysOf (onFr q.1 q.2.1 pinF).fr=keysOf q.1.fr:=keys_modify (g:=pinF) (fun _=>rfl) (fun _=>rfl) _
   refine ⟨h1.ok.on (g:=pinF) (fun _=>rfl) (fun _=>rfl) _ _ (Nat.le_max_right _ _),?_,fun M b hM=>on_bnd (hb M b hM) _ (Nat.le_succ _) (fun f h1 h2=>⟨Nat.le_trans h1 (Nat.le_succ _),Nat.succ_le_succ h2⟩)⟩
   show (onFr q.1 q.2.1 pinF).fr.length=_
   rw [←keys_len,e,keys_len]
   exact h1.len
theorem pin_less {p:Pst} {i:Nat} {f:Frm} (h:p.fr[i]? = some (some f)):pinN (onFr p i unpinF).fr≤pinN p.fr:=by
 rw [onFr_set h]
 have h1:=cnt_set isPin (some (unpinF f)) h
 have h2:isPin (some (unpinF f))=true→isPin (some f)=true:=fun e=>by
  have e1:0<f.pins-1:=of_decide_eq_true e
  exact decide_eq_true (by omega:0<f.pins)
 unfold pinN
 generalize isPin (some (unpinF f))=x at *
 generalize isPin (some f)=y at *
 cases x<;>cases y<;>simp at h1 h2<;>omega
theorem unpin_well {p:Pst} (h:PstOk p) (nm:List UInt8) (k:Int):Well p (unpinPl p nm k).1:=by
 unfold unpinPl
 split
 · exact Well.refl h
 · cases e:p.fr.findIdx? (isAt nm k.toNat) with
   | none=>exact Well.refl h
   | some i=>
    simp only
    split
    · exact Well.refl h
    · obtain ⟨f,hf,-,-⟩:=idx_some e
      have e:keysOf (onFr p i unpinF).fr=keysOf p.fr:=keys_modify (g:=unpinF) (fun _=>rfl) (fun _=>rfl) _
      refine ⟨h.on (g:=unpinF) (fun _=>rfl) (fun _=>rfl) i p.mostP (Nat.le_trans (pin_less hf) h.mostP),?_,fun M b hM=>on_bnd b _ (Nat.le_succ _) (fun f h1 h2=>⟨Nat.le_trans h1 (Nat.le_succ _),by show f.pins-1≤_;omega⟩)⟩
      show (onFr p i unpinF).fr.length=_
      rw [←keys_len,e,keys_len]
theorem PstOk.soil {p:Pst} (h:PstOk p) {nm:List UInt8} {k:Nat} (hk:some (nm,k)∈keysOf p.fr):PstOk {p with dl:=soilD p.dl nm k}:=
 ⟨h.n,h.hand,h.one,h.dl.soil nm k,fun nm' x hx=>by
  rcases (dirtyOf_soil p.dl nm k nm' x).1 hx with ⟨rfl,rfl⟩|h1
  · exact hk
  · exact h.held nm' x h1,h.names,h.mostR,h.mostP⟩
theorem over_ok {p:Pst} (h:PstOk p) {i:Nat} {f:Frm} (hf:p.fr[i]? = some (some f)) (b:List UInt8):PstOk {onFr p i (overF b) with dl:=soilD p.dl f.name f.k}∧(onFr p i (overF b)).fr.length=p.fr.length:=by
 have e:keysOf (onFr p i (overF b)).fr=keysOf p.fr:=keys_modify (g:=(overF b)) (fun _=>rfl) (fun _=>rfl) _
 have h1:PstOk (onFr p i (overF b)):=h.on (g:=overF b) (fun _=>rfl) (fun _=>rfl) i p.mostP (by rw [show pinN (onFr p i (overF b)).fr=pinN p.fr from pin_modify (g:=overF b) (fun _=>rfl) i];exact h.mostP)
 refine ⟨PstOk.soil h1 (by rw [e];exact mem_keys.2 ⟨i,f,hf,rfl,rfl⟩),by rw [←keys_len,e,keys_len]⟩
theorem write_well {p:Pst} (hd:DsOk p.d) (h:PstOk p) (nm:List UInt8) (k:Int) (b:List UInt8):Well p (writePl p nm k b).1:=by
 unfold writePl
 split
 · exact Well.refl h
 · split
   · exact Well.refl h
   · rename_i hE
     have hE:(findP p nm).2=0:=by omega
     split
     · exact Well.refl h
     · rename_i hk
       cases e:p.fr.findIdx? (isAt nm k.toNat) with
       | some i=>
        obtain ⟨f,hf,h1,h2⟩:=idx_some e
        obtain ⟨h3,h4⟩:=over_ok h hf b
        rw [h1,h2] at h3
        exact ⟨h3,h4,fun M bb hM=>on_bnd bb i (Nat.le_succ _) (fun f h1 h2=>⟨Nat.le_trans h1 (Nat.le_succ _),Nat.le_trans h2 (Nat.le_succ _)⟩)⟩
       | none=>
        obtain ⟨T,hT⟩:=hold_spec h (idx_none.1 e) (find_name hE).2 []
        generalize holdS p nm k.toNat []=q at *
        have hb:∀ M,Bnd M p.fr→65536≤M→Bnd (M+1) q.1.fr:=fun M bb hM=>T.bnd (M+1) (bb.more (Nat.le_succ _)) (by have:=find_bnd hd h bb hM nm;omega)
        simp only
        split
        · exact ⟨T.ok,T.len,hb⟩
        · rename_i hq
          have hf:=hT (by omega)
          obtain ⟨h3,h4⟩:=over_ok T.ok hf b
          exact ⟨h3,h4.trans T.len,fun M bb hM=>on_bnd (hb M bb hM) _ (Nat.le_refl _) (fun f h1 h2=>⟨h1,h2⟩)⟩
theorem flush_well {p:Pst} (h:PstOk p) (nm:List UInt8):Well p (flushPl p nm).1:=by
 unfold flushPl
 split
 · exact Well.refl h
 · obtain ⟨e1,e2,e3,e4⟩:=wb_same ((dirtyOf p.dl nm).filterMap (frmOf p.fr nm)) p
   obtain ⟨d1,d2,-⟩:=wb_dl ((dirtyOf p.dl nm).filterMap (frmOf p.fr nm)) p h.dl
   generalize wbS p ((dirtyOf p.dl nm).filterMap (frmOf p.fr nm))=q at *
   have hq:PstOk q.1:=⟨by rw [e1];exact h.n,by rw [e1,e2];exact h.hand,by rw [e1];exact h.one,d1,fun nm k hk=>by rw [e1];exact h.held nm k (d2 nm k hk),by rw [e1];exact h.names,by rw [e1,e3];exact h.mostR,by rw [e1,e4];exact h.mostP⟩
   simp only
   split
   · exact ⟨hq,by rw [e1],fun M b _=>by rw [e1];exact b.more (Nat.le_succ _)⟩
   · exact ⟨hq.disk _,by show q.1.fr.length=_;rw [e1],fun M b _=>by show Bnd _ q.1.fr;rw [e1];exact b.more (Nat.le_succ _)⟩
def dropF (fr:List (Option Frm)) (nm:List UInt8):List (Option Frm):=fr.map fun o=>if isOf nm o then none else o
theorem drop_get (fr:List (Option Frm)) (nm:List UInt8) (i:Nat):(dropF fr nm)[i]? = (fr[i]?).map fun o=>if isOf nm o then none else o:=List.getElem?_map
theorem drop_at {fr:List (Option Frm)} {nm:List UInt8} {i:Nat} {f:Frm}:(dropF fr nm)[i]? = some (some f)↔fr[i]? = some (some f)∧f.name≠nm:=by
 rw [drop_get]
 cases fr[i]? with
 | none=>simp
 | some o=>
  cases o with
  | none=>simp [isOf]
  | some g=>
   simp only [Option.map_some,Option.some.injEq,isOf,decide_eq_true_eq]
   constructor
   · intro h
     split at h
     · cases h
     · rename_i h1
       obtain rfl:=Option.some.inj h
       exact ⟨rfl,h1⟩
   · rintro ⟨rfl,h⟩
     rw [if_neg h]
theorem drop_keys {fr:List (Option Frm)} {nm:List UInt8} {x:List UInt8×Nat}:some x∈keysOf (dropF fr nm)↔some x∈keysOf fr∧x.1≠nm:=by
 obtain ⟨a,k⟩:=x
 rw [mem_keys,mem_keys]
 constructor
 · rintro ⟨i,f,h,rfl,rfl⟩
   obtain ⟨h1,h2⟩:=drop_at.1 h
   exact ⟨⟨i,f,h1,rfl,rfl⟩,h2⟩
 · rintro ⟨⟨i,f,h,rfl,rfl⟩,h2⟩
   exact ⟨i,f,drop_at.2 ⟨h,h2⟩,rfl,rfl⟩
theorem drop_res (fr:List (Option Frm)) (nm:List UInt8):resN (dropF fr nm)≤resN fr:=by
 unfold resN dropF
 rw [List.countP_map]
 refine List.countP_mono_left fun o _ h=>?_
 simp only [Function.comp_apply] at h
 split at h
 · cases h
 · exact h
theorem drop_pin (fr:List (Option Frm)) (nm:List UInt8):pinN (dropF fr nm)≤pinN fr:=by
 unfold pinN dropF
 rw [List.countP_map]
 refine List.countP_mono_left fun o _ h=>?_
 simp only [Function.comp_apply] at h
 split at h
 · cases h
 · exact h
theorem drop_well {p:Pst} (h:PstOk p) (nm:List UInt8):Well p (dropPl p nm).1:=by
 unfold dropPl
 split
 · exact Well.refl h
 · refine ⟨⟨by simpa using h.n,by simpa using h.hand,?_,h.dl.del nm,?_,?_,?_,?_⟩,by simp,?_⟩
   · show One (dropF p.fr nm)
     intro a b x ha hb
     obtain ⟨n1,k1⟩:=x
     have look:∀ a,(keysOf (dropF p.fr nm))[a]? = some (some (n1,k1))→(keysOf p.fr)[a]? = some (some (n1,k1)):=fun a ha=>by
      rw [keys_get,drop_get] at ha
      rw [keys_get]
      cases e:p.fr[a]? with
      | none=>rw [e] at ha;cases ha
      | some o=>
       rw [e] at ha
       simp only [Option.map_some,Option.some.injEq] at ha ⊢
       split at ha
       · cases ha
       · exact ha
     exact h.one a b _ (look a ha) (look b hb)
   · show ∀ nm' k,k∈dirtyOf (delM p.dl nm) nm'→some (nm',k)∈keysOf (dropF p.fr nm)
     intro nm' k hk
     rw [dirtyOf_del] at hk
     split at hk
     · simp at hk
     · rename_i hne
       exact drop_keys.2 ⟨h.held nm' k hk,hne⟩
   · show ∀ x,some x∈keysOf (dropF p.fr nm)→_
     exact fun x hx=>h.names x (drop_keys.1 hx).1
   · exact Nat.le_trans (drop_res p.fr nm) h.mostR
   · exact Nat.le_trans (drop_pin p.fr nm) h.mostP
   · intro M b hM i f hf
     have:=b i f (drop_at.1 (show (dropF p.fr nm)[i]? = some (some f) from hf)).1
     omega
theorem new_ok (d:Ds) {n:Nat} (h:1≤n∧n≤4096):PstOk (newPl d n)∧Bnd 0 (newPl d n).fr∧sumP (newPl d n).fr=0:=by
 have hk:∀ x,some x∉keysOf (List.replicate n (none:Option Frm)):=fun x hx=>by
  unfold keysOf at hx
  rw [List.map_replicate] at hx
  have:=List.eq_of_mem_replicate hx
  cases this
 refine ⟨⟨by simpa [newPl] using h,by simp [newPl];omega,fun i j x hi _=>absurd (List.mem_of_getElem? hi) (hk x),DlOk.nil,fun nm k hd=>by simp [newPl,dirtyOf,lookM] at hd,fun x hx=>absurd hx (hk x),?_,?_⟩,fun i f hf=>absurd (mem_keys.2 ⟨i,f,hf,rfl,rfl⟩) (hk _),?_⟩
 · simp [newPl,resN,List.countP_replicate]
 · simp [newPl,pinN,List.countP_replicate,isPin]
 · simp [newPl,sumP,pinsOf]
def Txt (fr:List (Option Frm)):Prop:=∀ (i:Nat) (f:Frm),fr[i]? = some (some f)→f.b.length≤16777216
theorem readP_long {s:Ds} (h:DsOk s) (nm:List UInt8) (k:Int):(readP s nm k).1.length≤16777216:=by
 have h1:(readS s nm (k*256) 256).1.length≤16777216:=by
  unfold readS
  split
  · simp
  · split
    · simp
    · split
      · simp
      · rename_i f hf
        have:=(h.files f (List.mem_of_find?_eq_some hf)).size
        simp only [List.length_take,List.length_drop]
        omega
 have h2:(saidB (readS s nm (k*256) 256).1).length≤(readS s nm (k*256) 256).1.length:=by
  unfold saidB
  simp only [List.length_take,List.length_drop]
  omega
 unfold readP
 split
 · simp
 split
 · simp
 split
 · simp
 split
 · simp only;omega
 · simp
theorem unU_txt {fr fr':List (Option Frm)} (h:unU fr=unU fr') (b:Txt fr):Txt fr':=fun i f hf=>by
 obtain ⟨u,hu⟩:=unU_at h.symm hf
 have:=b i _ hu
 exact this
theorem Txt.set {fr:List (Option Frm)} (b:Txt fr) (i:Nat) {o:Option Frm} (ho:∀ f,o=some f→f.b.length≤16777216):Txt (fr.set i o):=fun j f hf=>by
 rw [List.getElem?_set] at hf
 split at hf
 · split at hf
   · exact ho f (Option.some.inj hf)
   · cases hf
 · exact b j f hf
theorem on_txt {p:Pst} (b:Txt p.fr) {g:Frm→Frm} (i:Nat) (hg:∀ f,f.b.length≤16777216→(g f).b.length≤16777216):Txt (onFr p i g).fr:=by
 intro j f hf
 have e:(onFr p i g).fr[j]? = (p.fr.modify i (Option.map g))[j]?:=rfl
 rw [e,List.getElem?_modify] at hf
 cases e2:p.fr[j]? with
 | none=>rw [e2] at hf;cases hf
 | some o=>
  rw [e2] at hf
  cases o with
  | none=>simp at hf
  | some f0=>
   have b1:=b j f0 e2
   simp only [Option.map_eq_map,Option.map_some,Option.some.injEq] at hf
   split at hf
   · simp only [Option.map_some,Option.some.injEq] at hf
     subst hf
     exact hg f0 b1
   · simp only [Option.some.injEq] at hf
     subst hf
     exact b1
theorem take_txt {p:Pst} (b:Txt p.fr):Txt (takeS p).1.fr:=by
 unfold takeS
 split
 · exact b
 · obtain ⟨h1,-,-⟩:=seek_all (2*p.fr.length) p.fr p.hand
   generalize seekS (2*p.fr.length) p.fr p.hand=r at *
   have b1:Txt r.1:=unU_txt h1.symm b
   simp only
   split
   · exact b1
   · cases e:r.1[r.2.1]? with
     | none=>exact b1
     | some o=>
      cases o with
      | none=>exact b1
      | some f=>
       simp only
       obtain ⟨e1,-,-,-⟩:=save_same {p with fr:=r.1,hand:=r.2.1} f
       generalize saveS {p with fr:=r.1,hand:=r.2.1} f=q at *
       simp only at e1
       split
       · show Txt q.1.fr
         rw [e1];exact b1
       · exact Txt.set (by rw [e1];exact b1) _ (fun f h=>by cases h)
theorem hold_txt {p:Pst} (b:Txt p.fr) (nm:List UInt8) (k:Nat) {t:List UInt8} (ht:t.length≤16777216):Txt (holdS p nm k t).1.fr:=by
 have T:=take_txt b
 unfold holdS
 generalize takeS p=q at *
 simp only
 split
 · exact T
 · exact T.set _ (fun f h=>by cases h;exact ht)
theorem bring_txt {p:Pst} (hd:DsOk p.d) (b:Txt p.fr) (nm:List UInt8) (k:Nat):Txt (bringS p nm k).1.fr:=by
 unfold bringS
 cases e:p.fr.findIdx? (isAt nm k) with
 | some i=>exact on_txt b i (fun f h=>h)
 | none=>
  simp only
  split
  · exact b
  · have T:=hold_txt b nm k (readP_long hd nm (k:Int))
    generalize holdS p nm k (readP p.d nm (k:Int)).1=q at *
    split
    · exact T
    · exact on_txt T _ (fun f h=>h)
theorem get_txt {p:Pst} (hd:DsOk p.d) (b:Txt p.fr) (nm:List UInt8) (k:Int):Txt (getP p nm k).1.fr:=by
 unfold getP
 split
 · exact b
 · split
   · exact b
   · split
     · exact b
     · exact bring_txt hd b nm _
theorem read_txt {p:Pst} (hd:DsOk p.d) (b:Txt p.fr) (nm:List UInt8) (k:Int):Txt (readPl p nm k).1.fr:=by
 have T:=get_txt hd b nm k
 unfold readPl
 simp only
 split
 · exact T
 · exact T
theorem pin_txt {p:Pst} (hd:DsOk p.d) (b:Txt p.fr) (nm:List UInt8) (k:Int):Txt (pinPl p nm k).1.fr:=by
 have T:=get_txt hd b nm k
 unfold pinPl
 simp only
 split
 · exact T
 · exact on_txt T _ (fun f h=>h)
theorem unpin_txt {p:Pst} (b:Txt p.fr) (nm:List UInt8) (k:Int):Txt (unpinPl p nm k).1.fr:=by
 unfold unpinPl
 split
 · exact b
 · cases e:p.fr.findIdx? (isAt nm k.toNat) with
   | none=>exact b
   | some i=>
    simp only
    split
    · exact b
    · exact on_txt b _ (fun f h=>h)
theorem write_txt {p:Pst} (b:Txt p.fr) (nm:List UInt8) (k:Int) (t:List UInt8):Txt (writePl p nm k t).1.fr:=by
 unfold writePl
 split
 · exact b
 · rename_i ht
   split
   · exact b
   · split
     · exact b
     · cases e:p.fr.findIdx? (isAt nm k.toNat) with
       | some i=>exact on_txt b i (fun f h=>by show t.length≤_;omega)
       | none=>
        have T:=hold_txt b nm k.toNat (t:=[]) (by simp)
        generalize holdS p nm k.toNat []=q at *
        simp only
        split
        · exact T
        · exact on_txt T _ (fun f h=>by show t.length≤_;omega)
theorem flush_txt {p:Pst} (b:Txt p.fr) (nm:List UInt8):Txt (flushPl p nm).1.fr:=by
 unfold flushPl
 split
 · exact b
 · obtain ⟨e1,-,-,-⟩:=wb_same ((dirtyOf p.dl nm).filterMap (frmOf p.fr nm)) p
   generalize wbS p ((dirtyOf p.dl nm).filterMap (frmOf p.fr nm))=q at *
   simp only
   split
   · rw [e1];exact b
   · show Txt q.1.fr
     rw [e1];exact b
theorem drop_txt {p:Pst} (b:Txt p.fr) (nm:List UInt8):Txt (dropPl p nm).1.fr:=by
 unfold dropPl
 split
 · exact b
 · intro i f hf
   exact b i f (drop_at.1 (show (dropF p.fr nm)[i]? = some (some f) from hf)).1
theorem new_txt (d:Ds) (n:Nat):Txt (newPl d n).fr:=fun i f hf=>by
 have:=List.eq_of_mem_replicate (List.mem_of_getElem? (show (List.replicate n (none:Option Frm))[i]? = some (some f) from hf))
 cases this
def dirKeys (dl:List (List UInt8×List Nat)):List (Option (List UInt8×Nat)):=dl.flatMap fun e=>e.2.map fun k=>some (e.1,k)
structure Grow (p q:Pst):Prop where
 len:q.fr.length=p.fr.length
 lo:p.mostR≤q.mostR
 hi:q.mostR≤max p.mostR p.fr.length
 pk:p.mostP≤q.mostP∧q.mostP≤max p.mostP (pinN q.fr)
theorem grow_of {p q:Pst} (h1:q.fr.length=p.fr.length) (h2:q.mostR=p.mostR) (h3:q.mostP=p.mostP):Grow p q:=⟨h1,by omega,by omega,by omega⟩
theorem onFr_len (p:Pst) (i:Nat) (g:Frm→Frm):(onFr p i g).fr.length=p.fr.length:=List.length_modify _ _ _
theorem hold_grow {p:Pst} (h:PstOk p) (nm:List UInt8) (k:Nat) (t:List UInt8):(holdS p nm k t).1.fr.length=p.fr.length∧p.mostR≤(holdS p nm k t).1.mostR∧(holdS p nm k t).1.mostR≤max p.mostR p.fr.length∧(holdS p nm k t).1.mostP=p.mostP:=by
 have T:=take_spec h
 unfold holdS
 generalize takeS p=q at *
 have h1:=T.len
 have h2:=T.mostR
 have h3:=T.mostP
 simp only
 split
 · exact ⟨h1,Nat.le_of_eq h2.symm,Nat.le_trans (Nat.le_of_eq h2) (Nat.le_max_left _ _),h3⟩
 · have h4:=res_le (q.1.fr.set q.2.1 (some ⟨nm,k,t,0,false⟩))
   rw [List.length_set] at h4
   refine ⟨by simp only [List.length_set];exact h1,?_,?_,h3⟩
   · show p.mostR≤max q.1.mostR _
     omega
   · show max q.1.mostR _≤_
     omega
theorem bring_grow {p:Pst} (h:PstOk p) (nm:List UInt8) (k:Nat):(bringS p nm k).1.fr.length=p.fr.length∧p.mostR≤(bringS p nm k).1.mostR∧(bringS p nm k).1.mostR≤max p.mostR p.fr.length∧(bringS p nm k).1.mostP=p.mostP:=by
 unfold bringS
 cases e:p.fr.findIdx? (isAt nm k) with
 | some i=>exact ⟨onFr_len _ _ _,Nat.le_refl _,Nat.le_max_left _ _,rfl⟩
 | none=>
  simp only
  split
  · exact ⟨rfl,Nat.le_refl _,Nat.le_max_left _ _,rfl⟩
  · have T:=hold_grow h nm k (readP p.d nm (k:Int)).1
    generalize holdS p nm k (readP p.d nm (k:Int)).1=q at *
    split
    · exact T
    · exact ⟨(onFr_len _ _ _).trans T.1,T.2.1,T.2.2.1,T.2.2.2⟩
theorem get_grow {p:Pst} (h:PstOk p) (nm:List UInt8) (k:Int):(getP p nm k).1.fr.length=p.fr.length∧p.mostR≤(getP p nm k).1.mostR∧(getP p nm k).1.mostR≤max p.mostR p.fr.length∧(getP p nm k).1.mostP=p.mostP:=by
 unfold getP
 split
 · exact ⟨rfl,Nat.le_refl _,Nat.le_max_left _ _,rfl⟩
 · split
   · exact ⟨rfl,Nat.le_refl _,Nat.le_max_left _ _,rfl⟩
   · split
     · exact ⟨rfl,Nat.le_refl _,Nat.le_max_left _ _,rfl⟩
     · exact bring_grow h nm _
theorem read_grow {p:Pst} (h:PstOk p) (nm:List UInt8) (k:Int):Grow p (readPl p nm k).1:=by
 have T:=get_grow h nm k
 unfold readPl
 simp only
 split
 · exact ⟨T.1,T.2.1,T.2.2.1,Nat.le_of_eq T.2.2.2.symm,Nat.le_trans (Nat.le_of_eq T.2.2.2) (Nat.le_max_left _ _)⟩
 · exact ⟨T.1,T.2.1,T.2.2.1,Nat.le_of_eq T.2.2.2.symm,Nat.le_trans (Nat.le_of_eq T.2.2.2) (Nat.le_max_left _ _)⟩
theorem pin_grow {p:Pst} (h:PstOk p) (nm:List UInt8) (k:Int):Grow p (pinPl p nm k).1:=by
 have T:=get_grow h nm k
 unfold pinPl
 generalize getP p nm k=q at *
 simp only
 split
 · exact ⟨T.1,T.2.1,T.2.2.1,Nat.le_of_eq T.2.2.2.symm,Nat.le_trans (Nat.le_of_eq T.2.2.2) (Nat.le_max_left _ _)⟩
 · refine ⟨(onFr_len _ _ _).trans T.1,T.2.1,T.2.2.1,?_,?_⟩
   · show p.mostP≤max q.1.mostP _
     omega
   · show max q.1.mostP (pinN (onFr q.1 q.2.1 pinF).fr)≤max p.mostP (pinN (onFr q.1 q.2.1 pinF).fr)
     omega
theorem unpin_grow {p:Pst} (nm:List UInt8) (k:Int):Grow p (unpinPl p nm k).1:=by
 unfold unpinPl
 split
 · exact grow_of rfl rfl rfl
 · cases e:p.fr.findIdx? (isAt nm k.toNat) with
   | none=>exact grow_of rfl rfl rfl
   | some i=>
    simp only
    split
    · exact grow_of rfl rfl rfl
    · exact grow_of (onFr_len _ _ _) rfl rfl
theorem write_grow {p:Pst} (h:PstOk p) (nm:List UInt8) (k:Int) (b:List UInt8):Grow p (writePl p nm k b).1:=by
 unfold writePl
 split
 · exact grow_of rfl rfl rfl
 · split
   · exact grow_of rfl rfl rfl
   · split
     · exact grow_of rfl rfl rfl
     · cases e:p.fr.findIdx? (isAt nm k.toNat) with
       | some i=>exact grow_of (onFr_len _ _ _) rfl rfl
       | none=>
        have T:=hold_grow h nm k.toNat []
        generalize holdS p nm k.toNat []=q at *
        simp only
        split
        · exact ⟨T.1,T.2.1,T.2.2.1,Nat.le_of_eq T.2.2.2.symm,Nat.le_trans (Nat.le_of_eq T.2.2.2) (Nat.le_max_left _ _)⟩
        · refine ⟨(onFr_len _ _ _).trans T.1,T.2.1,T.2.2.1,?_,?_⟩
          · show p.mostP≤q.1.mostP
            omega
          · exact Nat.le_trans (Nat.le_of_eq T.2.2.2) (Nat.le_max_left _ _)
theorem flush_grow (p:Pst) (nm:List UInt8):Grow p (flushPl p nm).1:=by
 unfold flushPl
 split
 · exact grow_of rfl rfl rfl
 · obtain ⟨e1,e2,e3,e4⟩:=wb_same ((dirtyOf p.dl nm).filterMap (frmOf p.fr nm)) p
   generalize wbS p ((dirtyOf p.dl nm).filterMap (frmOf p.fr nm))=q at *
   simp only
   split
   · exact grow_of (by rw [e1]) e3 e4
   · exact grow_of (by show q.1.fr.length=_;rw [e1]) e3 e4
theorem drop_grow (p:Pst) (nm:List UInt8):Grow p (dropPl p nm).1:=by
 unfold dropPl
 split
 · exact grow_of rfl rfl rfl
 · exact grow_of (by simp) rfl rfl
theorem sumP_cons (o:Option Frm) (l:List (Option Frm)):sumP (o::l)=pinsOf o+sumP l:=by simp [sumP]
theorem pin_of (o:Option Frm):(isPin o=true↔0<pinsOf o):=by
 cases o with
 | none=>simp [isPin,pinsOf]
 | some f=>simp [isPin,pinsOf]
theorem pin_le_res (fr:List (Option Frm)):pinN fr≤resN fr:=by
 unfold pinN resN
 refine List.countP_mono_left fun o _ h=>?_
 cases o with
 | none=>cases h
 | some f=>rfl
theorem drop_sum (nm:List UInt8):∀ fr:List (Option Frm),(∀ o∈fr,(isOf nm o&&isPin o)=false)→sumP (dropF fr nm)=sumP fr
 | [],_=>rfl
 | o::l,h=>by
  have h1:=drop_sum nm l (fun o ho=>h o (List.mem_cons_of_mem _ ho))
  have h2:=h o (List.mem_cons_self)
  show sumP ((if isOf nm o then none else o)::dropF l nm)=_
  rw [sumP_cons,sumP_cons,h1]
  by_cases h3:isOf nm o=true
  · rw [if_pos h3]
    rw [h3,Bool.true_and] at h2
    have h4:¬ 0<pinsOf o:=fun h4=>by rw [(pin_of o).2 h4] at h2;cases h2
    have h5:pinsOf none=0:=rfl
    omega
  · rw [if_neg h3]
theorem read_sum {p:Pst} (h:PstOk p) (nm:List UInt8) (k:Int):sumP (readPl p nm k).1.fr=sumP p.fr:=by
 obtain ⟨h1,-,-⟩:=get_spec h nm k
 unfold readPl
 simp only
 split
 · exact h1.sum
 · exact h1.sum
theorem pin_sum {p:Pst} (h:PstOk p) (nm:List UInt8) (k:Int):sumP (pinPl p nm k).1.fr=sumP p.fr+(if (pinPl p nm k).2.2=0 then 1 else 0):=by
 obtain ⟨h1,h2,-⟩:=get_spec h nm k
 unfold pinPl
 generalize getP p nm k=q at *
 simp only
 by_cases hE:q.2.2=0
 · rw [if_neg (by omega)]
   obtain ⟨-,-,-,f,hf,-,-⟩:=h2 hE
   have:=on_sum hf pinF
   simp only [pinF] at this
   rw [if_pos rfl,←h1.sum]
   show sumP (onFr q.1 q.2.1 pinF).fr=_
   omega
 · rw [if_pos hE,if_neg hE,Nat.add_zero]
   exact h1.sum
theorem unpin_sum {p:Pst} (nm:List UInt8) (k:Int):sumP (unpinPl p nm k).1.fr+(if (unpinPl p nm k).2=0 then 1 else 0)=sumP p.fr:=by
 unfold unpinPl
 split
 · simp
 · cases e:p.fr.findIdx? (isAt nm k.toNat) with
   | none=>simp
   | some i=>
    obtain ⟨f,hf,n1,n2⟩:=idx_some e
    have hfo:frmOf p.fr nm k.toNat=some f:=by
     unfold frmOf
     rw [e]
     show (p.fr[i]?).getD none=_
     rw [hf]
     rfl
    simp only
    rw [hfo]
    simp only [Option.map_some,Option.some.injEq]
    by_cases hz:f.pins=0
    · rw [if_pos hz];simp
    · rw [if_neg hz]
      simp only [if_true]
      have:=on_sum hf unpinF
      have h2:(unpinF f).pins=f.pins-1:=rfl
      rw [h2] at this
      omega
theorem write_sum {p:Pst} (h:PstOk p) (nm:List UInt8) (k:Int) (b:List UInt8):sumP (writePl p nm k b).1.fr=sumP p.fr:=by
 unfold writePl
 split
 · rfl
 · split
   · rfl
   · rename_i hE
     split
     · rfl
     · cases e:p.fr.findIdx? (isAt nm k.toNat) with
       | some i=>exact on_sum_same (g:=overF b) i (fun _=>rfl)
       | none=>
        have hE:(findP p nm).2=0:=by omega
        obtain ⟨T,-⟩:=hold_spec h (idx_none.1 e) (find_name hE).2 []
        generalize holdS p nm k.toNat []=q at *
        simp only
        split
        · exact T.sum
        · exact (on_sum_same (g:=overF b) q.2.1 (fun _=>rfl)).trans T.sum
theorem flush_sum (p:Pst) (nm:List UInt8):sumP (flushPl p nm).1.fr=sumP p.fr:=by
 unfold flushPl
 split
 · rfl
 · obtain ⟨e1,-,-,-⟩:=wb_same ((dirtyOf p.dl nm).filterMap (frmOf p.fr nm)) p
   generalize wbS p ((dirtyOf p.dl nm).filterMap (frmOf p.fr nm))=q at *
   simp only
   split
   · rw [e1]
   · show sumP q.1.fr=_
     rw [e1]
theorem dropPl_sum (p:Pst) (nm:List UInt8):sumP (dropPl p nm).1.fr=sumP p.fr:=by
 unfold dropPl
 split
 · rfl
 · rename_i h
   exact drop_sum nm p.fr (fun o ho=>by
    cases e:(isOf nm o&&isPin o) with
    | false=>rfl
    | true=>exact absurd (List.any_eq_true.2 ⟨o,ho,e⟩) h)
end Go.Proofs.YtjmkagakdhhigaaGreatDoor
