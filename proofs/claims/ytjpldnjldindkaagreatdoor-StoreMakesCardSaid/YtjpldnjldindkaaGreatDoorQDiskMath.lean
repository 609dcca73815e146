/- Mathematics of no program: a disk of named files, what of them lasts, and what a loss of power leaves. -/
import Derived.Test.YtjpldnjldindkaaGreatDoorQBase
set_option linter.all false
set_option maxRecDepth 100000
namespace Go.Proofs.YtjpldnjldindkaaGreatDoor
structure Fl where
 name:List UInt8
 now:List UInt8
 lasts:List UInt8
 loose:Nat→Bool
structure Ds where
 l:List Fl
 q:Nat
 armed:Nat
 off:Bool
def sect (n:Nat):Nat:=(n+63)/64
def nameC (c:UInt8):Bool:=decide (97≤c.toNat∧c.toNat≤122∨48≤c.toNat∧c.toNat≤57∨c.toNat=46∨c.toNat=45)
def zaf (s:List UInt8):Bool:=decide (1≤s.length∧s.length≤24)&&s.all nameC
def getF (l:List Fl) (nm:List UInt8):Option Fl:=l.find? fun f=>decide (f.name=nm)
def setF (l:List Fl) (f:Fl):List Fl:=l.map fun g=>if g.name=f.name then f else g
def delF (l:List Fl) (nm:List UInt8):List Fl:=l.filter fun f=>decide (f.name≠nm)
def putF:List Fl→Fl→List Fl
 | [],f=>[f]
 | g::l,f=>if g.name<f.name then g::putF l f else f::g::l
def usedL (l:List Fl):Nat:=(l.map fun f=>sect f.now.length).sum
def zbY (f:Fl):List Nat:=(List.range (sect f.now.length)).filter f.loose
def zaO (l:List Fl):List (List UInt8×Nat):=l.flatMap fun f=>(zbY f).map fun k=>(f.name,k)
def layB (now:List UInt8) (off:Nat) (b:List UInt8):List UInt8:=now.take off++b++now.drop (off+b.length)
def zaU (f:Fl) (off:Nat) (b:List UInt8):Fl:=
 {f with now:=layB f.now off b,loose:=fun k=>f.loose k||(decide (0<b.length)&&decide (off/64≤k)&&decide (k≤(off+b.length-1)/64))}
def cutF (f:Fl) (n:Nat):Fl:={f with now:=f.now.take n,lasts:=f.lasts.take n,loose:=fun k=>f.loose k&&decide (k<sect n)}
def syncF (f:Fl):Fl:={f with lasts:=f.now,loose:=fun _=>false}
def flipB (b:List UInt8) (i:Nat) (m:UInt8):List UInt8:=b.set i (b.getD i 0 ^^^ m)
def flipF (f:Fl) (i:Nat) (m:UInt8):Fl:={f with now:=flipB f.now i m,lasts:=flipB f.lasts i m}
def endK (now:Nat) (kept:Nat→Bool):Nat→Nat
 | 0=>0
 | k+1=>if kept k then min (64*(k+1)) now else endK now kept k
def backB (f:Fl) (kept:Nat→Bool):List UInt8:=
 (List.range (max f.lasts.length (endK f.now.length kept (sect f.now.length)))).map fun i=>if kept (i/64)&&decide (i<f.now.length) then f.now.getD i 0 else f.lasts.getD i 0
def keptF (f:Fl) (base:Nat) (keep:List Int) (k:Nat):Bool:=f.loose k&&keep.contains ((base+((List.range k).filter f.loose).length:Nat):Int)
def backF (f:Fl) (base:Nat) (keep:List Int):Fl:=⟨f.name,backB f (keptF f base keep),backB f (keptF f base keep),fun _=>false⟩
def backL (keep:List Int):List Fl→Nat→List Fl
 | [],_=>[]
 | f::l,base=>backF f base keep::backL keep l (base+(zbY f).length)
def goneS (s:Ds):Ds:=if 0<s.armed then {s with armed:=s.armed-1,off:=s.off||decide (s.armed=1)} else s
def zaw (s:Ds) (nm:List UInt8):Ds×Nat:=
 if (goneS s).off then (goneS s,6) else if zaf nm=false then (goneS s,1) else if (getF s.l nm).isSome then (goneS s,4)
 else ({goneS s with l:=putF s.l ⟨nm,[],[],fun _=>false⟩},0)
def zaE (s:Ds) (nm:List UInt8):Ds×Nat:=
 if (goneS s).off then (goneS s,6) else if zaf nm=false then (goneS s,1) else if (getF s.l nm).isNone then (goneS s,3)
 else ({goneS s with l:=delF s.l nm},0)
def zk0 (s:Ds) (a b:List UInt8):Ds×Nat:=
 if (goneS s).off then (goneS s,6) else if zaf a=false∨zaf b=false then (goneS s,1) else
 match getF s.l a with
 | none=>(goneS s,3)
 | some f=>({goneS s with l:=putF (delF (delF s.l a) b) {f with name:=b} },0)
def zaN (s:Ds) (nm:List UInt8) (off:Int) (b:List UInt8):Ds×Nat:=
 if (goneS s).off then (goneS s,6) else if zaf nm=false∨off<0 then (goneS s,1) else
 match getF s.l nm with
 | none=>(goneS s,3)
 | some f=>
  if f.now.length<off.toNat then (goneS s,1) else if 16777216<off.toNat+b.length then (goneS s,9)
  else if sect f.now.length<sect (max f.now.length (off.toNat+b.length))∧s.q<usedL s.l+(sect (max f.now.length (off.toNat+b.length))-sect f.now.length) then (goneS s,5)
  else ({goneS s with l:=setF s.l (zaU f off.toNat b)},0)
def cutS (s:Ds) (nm:List UInt8) (n:Int):Ds×Nat:=
 if (goneS s).off then (goneS s,6) else if zaf nm=false∨n<0 then (goneS s,1) else
 match getF s.l nm with
 | none=>(goneS s,3)
 | some f=>if f.now.length<n.toNat then (goneS s,1) else ({goneS s with l:=setF s.l (cutF f n.toNat)},0)
def syncS (s:Ds) (nm:List UInt8):Ds×Nat:=
 if (goneS s).off then (goneS s,6) else if zaf nm=false then (goneS s,1) else
 match getF s.l nm with
 | none=>(goneS s,3)
 | some f=>({goneS s with l:=setF s.l (syncF f)},0)
def readS (s:Ds) (nm:List UInt8) (off n:Int):List UInt8×Nat:=
 if s.off then ([],6) else if zaf nm=false∨off<0∨n<0 then ([],1) else
 match getF s.l nm with
 | none=>([],3)
 | some f=>((f.now.drop off.toNat).take n.toNat,0)
def sizeS (s:Ds) (nm:List UInt8):Nat×Nat:=
 if s.off then (0,6) else if zaf nm=false then (0,1) else
 match getF s.l nm with
 | none=>(0,3)
 | some f=>(f.now.length,0)
def zgt (s:Ds) (n:Int):Ds×Nat:=if n<0∨1048576<n then (s,1) else ({s with q:=n.toNat},0)
def armS (s:Ds) (n:Int):Ds×Nat:=if n<0 then (s,1) else if s.off then (s,6) else ({s with armed:=n.toNat},0)
def onS (s:Ds) (keep:List Int):Ds×Nat:=if s.off=false then (s,14) else (⟨backL keep s.l 0,s.q,0,false⟩,0)
def flipS (s:Ds) (nm:List UInt8) (i:Int) (m:UInt8):Ds×Nat:=
 if s.off then (s,6) else if zaf nm=false∨m=0∨i<0 then (s,1) else
 match getF s.l nm with
 | none=>(s,3)
 | some f=>if f.now.length≤i.toNat then (s,1) else ({s with l:=setF s.l (flipF f i.toNat m)},0)
structure Opx where
 kind:Int
 name:List UInt8
 to:List UInt8
 off:Int
 n:Int
 b:List UInt8
 mask:UInt8
 keep:List Int
structure Ans where
 b:List UInt8
 n:Nat
 e:Nat
def doS (s:Ds) (o:Opx):Ds×Ans:=
 if o.kind=0 then ((zaw s o.name).1,⟨[],0,(zaw s o.name).2⟩)
 else if o.kind=1 then ((zaE s o.name).1,⟨[],0,(zaE s o.name).2⟩)
 else if o.kind=2 then ((zk0 s o.name o.to).1,⟨[],0,(zk0 s o.name o.to).2⟩)
 else if o.kind=3 then ((zaN s o.name o.off o.b).1,⟨[],0,(zaN s o.name o.off o.b).2⟩)
 else if o.kind=4 then ((cutS s o.name o.off).1,⟨[],0,(cutS s o.name o.off).2⟩)
 else if o.kind=5 then ((syncS s o.name).1,⟨[],0,(syncS s o.name).2⟩)
 else if o.kind=6 then (s,⟨(readS s o.name o.off o.n).1,0,(readS s o.name o.off o.n).2⟩)
 else if o.kind=7 then (s,⟨[],(sizeS s o.name).1,(sizeS s o.name).2⟩)
 else if o.kind=8 then ((zgt s o.n).1,⟨[],0,(zgt s o.n).2⟩)
 else if o.kind=9 then ((armS s o.n).1,⟨[],0,(armS s o.n).2⟩)
 else if o.kind=10 then ((onS s o.keep).1,⟨[],0,(onS s o.keep).2⟩)
 else if o.kind=11 then ((flipS s o.name o.off o.mask).1,⟨[],0,(flipS s o.name o.off o.mask).2⟩)
 else (s,⟨[],0,0⟩)
structure FlOk (f:Fl):Prop where
 name:zaf f.name=true
 size:f.now.length≤16777216
 lasts:f.lasts.length≤f.now.length
 loose:∀ k,f.loose k=true→k<sect f.now.length
structure DsOk (s:Ds):Prop where
 rise:s.l.Pairwise fun f g=>f.name<g.name
 files:∀ f∈s.l,FlOk f
 q:s.q≤1048576
theorem zdO (now:List UInt8) (off:Nat) (b:List UInt8) (h:off≤now.length):(layB now off b).length=max now.length (off+b.length):=by
 unfold layB;simp only [List.length_append,List.length_take,List.length_drop];omega
theorem zi4 (now:List UInt8) (off:Nat) (b:List UInt8) (h:off≤now.length) (i:Nat):(layB now off b)[i]? = if off≤i∧i<off+b.length then b[i-off]? else now[i]?:=by
 unfold layB;by_cases h1:i<off
 ·rw [if_neg (by omega),List.append_assoc,List.getElem?_append_left (by rw [List.length_take];omega),List.getElem?_take,if_pos h1]
 ·by_cases h2:i<off+b.length
  ·rw [if_pos ⟨by omega,h2⟩,List.append_assoc,List.getElem?_append_right (by rw [List.length_take];omega),List.length_take,Nat.min_eq_left h,List.getElem?_append_left (by omega)]
  ·rw [if_neg (by omega),List.getElem?_append_right (by rw [List.length_append,List.length_take];omega),List.length_append,List.length_take,Nat.min_eq_left h,List.getElem?_drop];congr 1
   omega
theorem zhi {a b:Nat} (h:a≤b):sect a≤sect b:=by unfold sect;omega
def D1 (f:Fl):Ds:=⟨[f],4096,0,false⟩
theorem ok_a:zaf [97]=true:=by decide
theorem gone1 (f:Fl):goneS (D1 f)=D1 f:=by simp [goneS,D1]
theorem get1 {f:Fl} (h:f.name=[97]):getF [f] [97]=some f:=by simp [getF,h]
theorem set1 {f g:Fl} (h:f.name=g.name):setF [f] g=[g]:=by simp [setF,h]
theorem cut1 {f:Fl} (hn:f.name=[97]) {n:Nat} (h:n≤f.now.length):cutS (D1 f) [97] (n:Int)=(D1 (cutF f n),0):=by
 have h1:¬ (n:Int)<0:=by omega
 unfold cutS;rw [gone1];have h2:¬ f.now.length<n:=by omega
 have e3:setF [f] (cutF f n)=[cutF f n]:=set1 rfl;simp [D1,ok_a,get1 hn,h1,h2,e3]
def cntP (p:Nat→Bool) (j:Nat):Nat:=((List.range j).filter p).length
theorem zaI (g:Fl) (l:List Fl) (nm:List UInt8):getF (g::l) nm=if g.name=nm then some g else getF l nm:=by
 unfold getF;rw [List.find?_cons];by_cases h:g.name=nm<;>simp [h]
theorem zbq {l:List Fl} {nm:List UInt8} {f:Fl} (h:getF l nm=some f):f.name=nm:=by
 have:=List.find?_some h;simpa using this
theorem zaR {l:List Fl} {nm:List UInt8} {f:Fl} (h:getF l nm=some f):f∈l:=List.mem_of_find?_eq_some h
theorem za6 (l:List Fl) (f:Fl) (nm:List UInt8) (h:f.name≠nm):getF (setF l f) nm=getF l nm:=by
 induction l with
 | nil=>rfl
 | cons g l ih=>
  show getF ((if g.name=f.name then f else g)::setF l f) nm=_;rw [zaI,zaI,ih];by_cases e:g.name=f.name
  ·rw [if_pos e,if_neg h,if_neg (fun e2=>h (by rw [←e,e2]))]
  ·rw [if_neg e]
theorem zfX (l:List Fl) (a nm:List UInt8) (h:a≠nm):getF (delF l a) nm=getF l nm:=by
 induction l with
 | nil=>rfl
 | cons g l ih=>
  unfold delF at *;rw [List.filter_cons];by_cases e:g.name=a
  ·rw [if_neg (by simp [e]),ih,zaI,if_neg (fun e2=>h (by rw [←e,e2]))]
  ·rw [if_pos (by simp [e]),zaI,zaI,ih]
theorem zfY (l:List Fl) (f:Fl) (nm:List UInt8) (h:f.name≠nm):getF (putF l f) nm=getF l nm:=by
 induction l with
 | nil=>simp [putF,getF,h]
 | cons g l ih=>
  unfold putF;by_cases e:g.name<f.name
  ·rw [if_pos e,zaI,zaI,ih]
  ·rw [if_neg e,zaI,if_neg h]
theorem zaM (g:Fl) (l:List Fl):usedL (g::l)=sect g.now.length+usedL l:=by simp [usedL]
theorem zoX (l:List Fl) (f:Fl):usedL (putF l f)=usedL l+sect f.now.length:=by
 induction l with
 | nil=>simp [putF,usedL]
 | cons g l ih=>
  unfold putF;by_cases e:g.name<f.name
  ·rw [if_pos e,zaM,zaM,ih];omega
  ·rw [if_neg e,zaM,zaM];omega
theorem zkm (l:List Fl) (a:List UInt8):usedL (delF l a)≤usedL l:=by
 induction l with
 | nil=>exact Nat.le_refl _
 | cons g l ih=>
  unfold delF at *;rw [List.filter_cons];split
  ·rw [zaM,zaM];omega
  ·rw [zaM];omega
theorem zoY (l:List Fl) (f:Fl) (h:∀ g∈l,g.name≠f.name):setF l f=l:=by
 induction l with
 | nil=>rfl
 | cons g l ih=>
  show (if g.name=f.name then f else g)::setF l f=_;rw [if_neg (h g (by simp)),ih (fun x hx=>h x (by simp [hx]))]
theorem zoZ (l:List Fl) (f' f:Fl) (hr:l.Pairwise fun f g=>f.name<g.name) (h:getF l f'.name=some f):usedL (setF l f')+sect f.now.length=usedL l+sect f'.now.length:=by
 induction l with
 | nil=>simp [getF] at h
 | cons g l ih=>
  rw [List.pairwise_cons] at hr;rw [zaI] at h;show usedL ((if g.name=f'.name then f' else g)::setF l f')+_=_;by_cases e:g.name=f'.name
  ·rw [if_pos e] at h;obtain rfl:=Option.some.inj h;rw [if_pos e,zoY l f' (fun x hx e2=>by have:=hr.1 x hx;rw [e,←e2] at this;exact List.lt_irrefl _ this),zaM,zaM];omega
  ·rw [if_neg e] at h;have:=ih hr.2 h;rw [if_neg e,zaM,zaM];omega
end Go.Proofs.YtjpldnjldindkaaGreatDoor
