/- Mathematics of no program: records of one length, one behind the other, on pages of which each but the last one is full (chapter 11). -/
import Derived.Test.YtjpldnjldindkaaGreatDoorQPoolHeal
set_option linter.all false
set_option maxRecDepth 100000
namespace Go.Proofs.YtjpldnjldindkaaGreatDoor
open Go.RowKit
def zak (per n:Nat):Nat:=(n+per-1)/per
def zay (per:Nat) (rs:List (List UInt8)) (k:Nat):List (List UInt8):=(rs.drop (k*per)).take per
def zae (per:Nat) (rs:List (List UInt8)):List (List UInt8):=(List.range (zak per rs.length)).map fun k=>(zay per rs k).flatten
theorem zaC (per:Nat) (rs:List (List UInt8)):(zae per rs).length=zak per rs.length:=by simp [zae]
theorem zbk {per k:Nat} {rs:List (List UInt8)} (h:k<zak per rs.length):(zae per rs)[k]? = some (zay per rs k).flatten:=by simp [zae,h]
theorem zaB {per n k:Nat} (hp:0<per):k<zak per n↔k*per<n:=by
 unfold zak;rw [Nat.lt_iff_add_one_le,Nat.le_div_iff_mul_le hp,Nat.add_mul];omega
theorem zjz {size:Nat}:∀ {rs:List (List UInt8)},(∀ r∈rs,r.length=size)→rs.flatten.length=rs.length*size
 | [],_=>by simp
 | r::rs,h=>by
  have h1:=h r (List.mem_cons_self);have h2:=zjz (rs:=rs) (fun x hx=>h x (List.mem_cons_of_mem _ hx));rw [List.flatten_cons,List.length_append,h1,h2,List.length_cons,Nat.add_mul,Nat.one_mul,Nat.add_comm]
theorem zmd (per:Nat) (rs:List (List UInt8)) (k:Nat):(zay per rs k).length=min per (rs.length-k*per):=by unfold zay;rw [List.length_take,List.length_drop]
theorem zgO {per k:Nat} {rs:List (List UInt8)} {r:List UInt8} (h:r∈zay per rs k):r∈rs:=List.mem_of_mem_drop (List.mem_of_mem_take h)
theorem zme {per k i:Nat} (rs:List (List UInt8)) (hi:i<per):(zay per rs k)[i]? = rs[k*per+i]?:=by
 unfold zay;rw [List.getElem?_take,if_pos hi,List.getElem?_drop]
section
variable {size per:Nat} {rs:List (List UInt8)}
theorem zjA:∀ {rs:List (List UInt8)} {i:Nat} {r:List UInt8},(∀ r∈rs,r.length=size)→rs[i]? = some r→(rs.flatten.drop (i*size)).take size=r
 | [],i,r,_,h=>by simp at h
 | x::rs,0,r,hs,h=>by
  simp only [List.getElem?_cons_zero,Option.some.injEq] at h;subst h;have h1:=hs x (List.mem_cons_self);rw [Nat.zero_mul,List.drop_zero,List.flatten_cons,←h1,List.take_left]
 | x::rs,i+1,r,hs,h=>by
  simp only [List.getElem?_cons_succ] at h;have h1:=hs x (List.mem_cons_self);have ih:=zjA (rs:=rs) (fun y hy=>hs y (List.mem_cons_of_mem _ hy)) h;rw [List.flatten_cons,show (i+1)*size=x.length+i*size by rw [h1,Nat.add_mul];omega,List.drop_length_add_append];exact ih
theorem zcc (hs:∀ r∈rs,r.length=size) (k:Nat):(zay per rs k).flatten.length=min per (rs.length-k*per)*size:=by
 rw [zjz (fun r hr=>hs r (zgO hr)),zmd]
theorem znH (hs:∀ r∈rs,r.length=size) {k:Nat} (hk:(k+1)*per≤rs.length):(zay per rs k).flatten.length=per*size:=by
 rw [zcc hs,Nat.add_mul] at *;congr 1
 omega
theorem zpQ (hp:0<per) (hs:∀ r∈rs,r.length=size) {i:Nat} {r:List UInt8} (h:rs[i]? = some r):i/per<zak per rs.length∧(((zay per rs (i/per)).flatten).drop (i%per*size)).take size=r:=by
 have hi:=(zI9.1 h).1;have hm:=Nat.div_add_mod i per;have hc:i/per*per=per*(i/per):=Nat.mul_comm _ _;refine ⟨(zaB hp).2 (by omega),zjA (fun r hr=>hs r (zgO hr)) ?_⟩;rw [zme rs (Nat.mod_lt _ hp),show i/per*per+i%per=i by omega];exact h
theorem zpR (hp:0<per) (r:List UInt8) (hn:rs.length%per≠0):zak per rs.length=rs.length/per+1∧zae per (rs++[r])=setP (zae per rs) (rs.length/per) ((zay per rs (rs.length/per)).flatten++r):=by
 have hm:=Nat.div_add_mod rs.length per;have eL:(rs++[r]).length=rs.length+1:=by simp
 have hl:=Nat.mod_lt rs.length hp;have hc:rs.length/per*per=per*(rs.length/per):=Nat.mul_comm _ _;have hN:∀ n q,q*per<n→n≤q*per+per→zak per n=q+1:=fun n q h1 h2=>by
  have a1:=(zaB (k:=q) (n:=n) hp).2 h1;have a2:¬ q+1<zak per n:=fun h=>by
   have:=(zaB (k:=q+1) (n:=n) hp).1 h;rw [Nat.add_mul] at this;omega
  omega
 have e1:=hN rs.length (rs.length/per) (by omega) (by omega);have e2:=hN (rs.length+1) (rs.length/per) (by omega) (by omega);refine ⟨e1,?_⟩;apply List.ext_getElem?;intro k;rw [zdo (by rw [zaC,e1];omega)];by_cases hk:k<rs.length/per+1
 ·rw [zbk (by rw [eL];rw [e2];exact hk)];split
  ·rename_i ek;subst ek;congr 1
   unfold zay;rw [List.drop_append_of_le_length (by omega),List.take_append,List.take_of_length_le (by rw [List.length_drop];omega),List.take_of_length_le (by rw [List.length_drop];simp only [List.length_cons,List.length_nil];omega),List.flatten_append,List.flatten_cons,List.flatten_nil,List.append_nil]
  ·rename_i ek;rw [zbk (by omega)];have hkk:(k+1)*per≤rs.length/per*per:=Nat.mul_le_mul_right _ (by omega);rw [Nat.add_mul] at hkk;congr 2
   unfold zay;rw [List.drop_append_of_le_length (by omega),List.take_append_of_le_length (by rw [List.length_drop];omega)]
 ·rw [if_neg (by omega),List.getElem?_eq_none (by rw [zaC,eL];omega),List.getElem?_eq_none (by rw [zaC];omega)]
theorem zri (hp:0<per) (r:List UInt8) (hn:rs.length%per=0):zak per rs.length=rs.length/per∧zae per (rs++[r])=zae per rs++[r]:=by
 have hm:=Nat.div_add_mod rs.length per;have eL:(rs++[r]).length=rs.length+1:=by simp
 have hc:rs.length/per*per=per*(rs.length/per):=Nat.mul_comm _ _;have e1:zak per rs.length=rs.length/per:=by
  have a1:¬ rs.length/per<zak per rs.length:=fun h=>by
   have:=(zaB (k:=rs.length/per) hp).1 h;omega
  by_cases e:rs.length/per=0
  ·omega
  ·have a2:=(zaB (k:=rs.length/per-1) (n:=rs.length) hp).2 (by
    have:(rs.length/per-1)*per+per=rs.length/per*per:=by rw [←Nat.succ_mul];congr 1;omega
    omega)
   omega
 have e2:zak per (rs.length+1)=rs.length/per+1:=by
  have a1:=(zaB (k:=rs.length/per) (n:=rs.length+1) hp).2 (by omega);have a2:¬ rs.length/per+1<zak per (rs.length+1):=fun h=>by
   have:=(zaB (k:=rs.length/per+1) hp).1 h;rw [Nat.add_mul] at this;omega
  omega
 refine ⟨e1,?_⟩;apply List.ext_getElem?;intro k;by_cases hk:k<rs.length/per
 ·rw [zbk (by rw [eL];omega),List.getElem?_append_left (by rw [zaC];omega),zbk (by omega)];have hkk:(k+1)*per≤rs.length/per*per:=Nat.mul_le_mul_right _ (by omega);rw [Nat.add_mul] at hkk;congr 2
  unfold zay;rw [List.drop_append_of_le_length (by omega),List.take_append_of_le_length (by rw [List.length_drop];omega)]
 ·by_cases hk2:k=rs.length/per
  ·rw [zbk (by rw [eL];omega),List.getElem?_append_right (by rw [zaC];omega),zaC,e1,hk2,Nat.sub_self];unfold zay;rw [show rs.length/per*per=rs.length by omega,List.drop_left,List.take_of_length_le (by simp only [List.length_cons,List.length_nil];omega)];simp
  ·rw [List.getElem?_eq_none (by rw [zaC,eL];omega),List.getElem?_eq_none (by rw [List.length_append,zaC];show _+1≤_;omega)]
end
def lastT (p:Pst) (nm:List UInt8):Pst×Int×List UInt8×Nat:=
 if (findP p nm).2≠0 then (p,-1,[],(findP p nm).2) else if (findP p nm).1=0 then (p,-1,[],0) else
 let q:=zai p nm (((findP p nm).1-1:Nat):Int)
 (q.1,(((findP p nm).1-1:Nat):Int),q.2.1,q.2.2)
def seatT (p:Pst) (nm:List UInt8) (size:Nat) (i:Int):Pst×List UInt8×Nat×Nat:=
 if i<0 then (p,[],0,1) else
 let q:=zai p nm ((i.toNat/(240/size):Nat):Int)
 if q.2.2≠0 then (q.1,[],0,q.2.2) else if q.2.1.length%size≠0 then (q.1,[],0,7) else if q.2.1.length≤i.toNat%(240/size)*size then (q.1,[],0,3)
 else (q.1,q.2.1,i.toNat%(240/size)*size,0)
def openT (p:Pst) (nm:List UInt8) (size:Int):Nat:=if size<1∨240<size then 1 else (findP p nm).2
def lenT (p:Pst) (nm:List UInt8) (size:Nat):Pst×Nat×Nat:=
 let q:=lastT p nm
 if q.2.2.2≠0 then (q.1,0,q.2.2.2) else if q.2.1<0 then (q.1,0,0) else if q.2.2.1.length=0∨q.2.2.1.length%size≠0 then (q.1,0,7)
 else (q.1,q.2.1.toNat*(240/size)+q.2.2.1.length/size,0)
def getT (p:Pst) (nm:List UInt8) (size:Nat) (i:Int):Pst×List UInt8×Nat:=
 let q:=seatT p nm size i
 if q.2.2.2≠0 then (q.1,[],q.2.2.2) else (q.1,(q.2.1.drop q.2.2.1).take size,0)
def addT (p:Pst) (nm:List UInt8) (size:Nat) (rec:List UInt8):Pst×Nat:=
 if rec.length≠size then (p,1) else
 let q:=lastT p nm
 if q.2.2.2≠0 then (q.1,q.2.2.2) else if q.2.1<0∨240<q.2.2.1.length+size then zah q.1 nm (q.2.1+1) rec else zah q.1 nm q.2.1 (q.2.2.1++rec)
def setT (p:Pst) (nm:List UInt8) (size:Nat) (i:Int) (rec:List UInt8):Pst×Nat:=
 if rec.length≠size then (p,1) else
 let q:=seatT p nm size i
 if q.2.2.2≠0 then (q.1,q.2.2.2) else
 zah q.1 nm ((i.toNat/(240/size):Nat):Int) (q.2.1.take q.2.2.1++rec++q.2.1.drop (q.2.2.1+size))
theorem znI {p:Pst} {nm:List UInt8} {size:Nat} {i:Int} (hs:0<size) (h:(seatT p nm size i).2.2.2=0):(seatT p nm size i).2.2.1+size≤(seatT p nm size i).2.1.length:=by
 unfold seatT at h ⊢;split at h<;>rename_i h0
 ·simp at h
 ·rw [if_neg h0];simp only at h ⊢;split at h<;>rename_i h1
  ·exact absurd h h1
  ·rw [if_neg h1];split at h<;>rename_i h2
   ·simp at h
   ·rw [if_neg h2];split at h<;>rename_i h3
    ·simp at h
    ·rw [if_neg h3];simp only;generalize (zai p nm ((i.toNat/(240/size):Nat):Int)).2.1.length=L at *;generalize i.toNat%(240/size)=m at *;have e1:=Nat.div_add_mod L size;have e2:L=size*(L/size):=by omega
     rw [e2] at h3 ⊢;have h4:m<L/size:=by
      rcases Nat.lt_or_ge m (L/size) with h5|h5
      ·exact h5
      ·exfalso;apply h3;rw [Nat.mul_comm];exact Nat.mul_le_mul_right _ h5
     rw [Nat.mul_comm size,←Nat.succ_mul];exact Nat.mul_le_mul_right _ h4
structure IsS (V:Vw) (nm:List UInt8) (size:Nat) (rs:List (List UInt8)):Prop where
 siz:1≤size∧size≤240
 recs:∀ r∈rs,r.length=size
 file:V nm=some (zae (240/size) rs)
theorem zbG {size:Nat} (h:1≤size∧size≤240):0<240/size:=Nat.div_pos h.2 (by omega)
theorem zsj (size:Nat):240/size*size≤240:=Nat.div_mul_le_self 240 size
theorem zjB {size m:Nat} (h:1≤size∧size≤240):m*size+size≤240↔m<240/size:=by
 rw [←Nat.succ_mul,←Nat.le_div_iff_mul_le (by omega)];omega
theorem zci {V:Vw} {nm:List UInt8} {size:Nat} (h:1≤size∧size≤240) (hV:V nm=some []):IsS V nm size []:=
 ⟨h,fun r hr=>by simp at hr,by
  rw [hV];have:zak (240/size) 0=0:=by
   have:=zaB (k:=0) (n:=0) (zbG h);omega
  unfold zae;simp [this]⟩
section
variable {Q:Nat} {PN:List UInt8→Nat→Nat} {p:Pst} {V:Vw} {a b:Nat} {nm:List UInt8} {size:Nat} {rs:List (List UInt8)}
theorem IsS.find (s:IsS V nm size rs) (h:Heal Q PN p V a b):findP p nm=(zak (240/size) rs.length,0):=by
 rw [zbt h s.file,zaC]
theorem IsS.whole (s:IsS V nm size rs) {k:Nat} (hk:k<zak (240/size) rs.length):(zay (240/size) rs k).flatten.length%size=0∧0<(zay (240/size) rs k).flatten.length∧(zay (240/size) rs k).flatten.length/size=min (240/size) (rs.length-k*(240/size)):=by
 have hp:=zbG s.siz;have hl:=zcc (per:=240/size) s.recs k;have hk2:=(zaB hp).1 hk;have e:(zay (240/size) rs k).flatten.length/size=min (240/size) (rs.length-k*(240/size)):=by
  rw [hl];exact Nat.mul_div_cancel _ (by have:=s.siz;omega)
 have h1:0<min (240/size) (rs.length-k*(240/size)):=by omega
 refine ⟨?_,?_,e⟩
 ·rw [hl];exact Nat.mul_mod_left (min (240/size) (rs.length-k*(240/size))) size
 ·rw [hl];exact Nat.mul_pos h1 (show 0<size by have:=s.siz;omega)
theorem IsS.last0 (s:IsS V nm size rs) (h:Heal Q PN p V a b) (h0:rs.length=0):lastT p nm=(p,-1,[],0):=by
 have hp:=zbG s.siz;have:zak (240/size) rs.length=0:=by
  have:=zaB (k:=0) (n:=rs.length) hp;omega
 unfold lastT;rw [s.find h,if_neg (by simp),if_pos this]
end
def sN:List UInt8:=[115]
def HealS (p:Pst) (size:Nat) (rs:List (List UInt8)) (c:Nat):Prop:=∃ V b,b≤c∧Heal 65536 (fun _ _=>0) p V 1 b∧IsS V sN size rs
section
variable {p:Pst} {size c:Nat} {rs:List (List UInt8)}
end
end Go.Proofs.YtjpldnjldindkaaGreatDoor
