/- Mathematics of no program: records of one length, one behind the other, on pages of which each but the last one is full (chapter 11). -/
import Derived.Test.YtjmkagakdhhigaaGreatDoorQPageMath
import Derived.Test.YtjmkagakdhhigaaGreatDoorQPoolHeal
set_option linter.unusedVariables false
set_option linter.unusedSimpArgs false
set_option maxRecDepth 100000
namespace Go.Proofs.YtjmkagakdhhigaaGreatDoor
open Go.RowKit
def pagesN (per n:Nat):Nat:=(n+per-1)/per
def recsAt (per:Nat) (rs:List (List UInt8)) (k:Nat):List (List UInt8):=(rs.drop (k*per)).take per
def pagesS (per:Nat) (rs:List (List UInt8)):List (List UInt8):=(List.range (pagesN per rs.length)).map fun k=>(recsAt per rs k).flatten
theorem pagesS_len (per:Nat) (rs:List (List UInt8)):(pagesS per rs).length=pagesN per rs.length:=by simp [pagesS]
theorem pagesS_get {per k:Nat} {rs:List (List UInt8)} (h:k<pagesN per rs.length):(pagesS per rs)[k]? = some (recsAt per rs k).flatten:=by simp [pagesS,h]
theorem pagesN_lt {per n k:Nat} (hp:0<per):k<pagesN per n↔k*per<n:=by
 unfold pagesN
 rw [Nat.lt_iff_add_one_le,Nat.le_div_iff_mul_le hp,Nat.add_mul]
 omega
theorem flat_len {size:Nat}:∀ {rs:List (List UInt8)},(∀ r∈rs,r.length=size)→rs.flatten.length=rs.length*size
 | [],_=>by simp
 | r::rs,h=>by
  have h1:=h r (List.mem_cons_self)
  have h2:=flat_len (rs:=rs) (fun x hx=>h x (List.mem_cons_of_mem _ hx))
  rw [List.flatten_cons,List.length_append,h1,h2,List.length_cons,Nat.add_mul,Nat.one_mul,Nat.add_comm]
theorem recsAt_len (per:Nat) (rs:List (List UInt8)) (k:Nat):(recsAt per rs k).length=min per (rs.length-k*per):=by unfold recsAt;rw [List.length_take,List.length_drop]
theorem recsAt_mem {per k:Nat} {rs:List (List UInt8)} {r:List UInt8} (h:r∈recsAt per rs k):r∈rs:=List.mem_of_mem_drop (List.mem_of_mem_take h)
theorem recsAt_get {per k i:Nat} (rs:List (List UInt8)) (hi:i<per):(recsAt per rs k)[i]? = rs[k*per+i]?:=by
 unfold recsAt
 rw [List.getElem?_take,if_pos hi,List.getElem?_drop]
section
variable {size per:Nat} {rs:List (List UInt8)}
theorem flat_get:∀ {rs:List (List UInt8)} {i:Nat} {r:List UInt8},(∀ r∈rs,r.length=size)→rs[i]? = some r→(rs.flatten.drop (i*size)).take size=r
 | [],i,r,_,h=>by simp at h
 | x::rs,0,r,hs,h=>by
  simp only [List.getElem?_cons_zero,Option.some.injEq] at h
  subst h
  have h1:=hs x (List.mem_cons_self)
  rw [Nat.zero_mul,List.drop_zero,List.flatten_cons,←h1,List.take_left]
 | x::rs,i+1,r,hs,h=>by
  simp only [List.getElem?_cons_succ] at h
  have h1:=hs x (List.mem_cons_self)
  have ih:=flat_get (rs:=rs) (fun y hy=>hs y (List.mem_cons_of_mem _ hy)) h
  rw [List.flatten_cons,show (i+1)*size=x.length+i*size by rw [h1,Nat.add_mul];omega,List.drop_length_add_append]
  exact ih
theorem flat_set:∀ {rs:List (List UInt8)} {i:Nat} (r:List UInt8),(∀ r∈rs,r.length=size)→i<rs.length→(rs.set i r).flatten=rs.flatten.take (i*size)++r++rs.flatten.drop ((i+1)*size)
 | [],i,r,_,h=>by simp at h
 | x::rs,0,r,hs,h=>by
  have h1:=hs x (List.mem_cons_self)
  rw [List.set_cons_zero,List.flatten_cons,List.flatten_cons,Nat.zero_mul,List.take_zero,List.nil_append,Nat.zero_add,Nat.one_mul,←h1,List.drop_left]
 | x::rs,i+1,r,hs,h=>by
  have h1:=hs x (List.mem_cons_self)
  have ih:=flat_set (rs:=rs) (i:=i) r (fun y hy=>hs y (List.mem_cons_of_mem _ hy)) (by simpa using h)
  have a1:(x++rs.flatten).take ((i+1)*size)=x++rs.flatten.take (i*size):=by
   rw [show (i+1)*size=x.length+i*size by rw [h1,Nat.add_mul];omega,List.take_length_add_append]
  have a2:(x++rs.flatten).drop ((i+1+1)*size)=rs.flatten.drop ((i+1)*size):=by
   rw [show (i+1+1)*size=x.length+(i+1)*size by rw [h1,Nat.add_mul (i+1)];omega,List.drop_length_add_append]
  rw [List.set_cons_succ,List.flatten_cons,List.flatten_cons,ih,a1,a2,List.append_assoc,List.append_assoc,List.append_assoc]
theorem page_len (hs:∀ r∈rs,r.length=size) (k:Nat):(recsAt per rs k).flatten.length=min per (rs.length-k*per)*size:=by
 rw [flat_len (fun r hr=>hs r (recsAt_mem hr)),recsAt_len]
theorem page_full (hs:∀ r∈rs,r.length=size) {k:Nat} (hk:(k+1)*per≤rs.length):(recsAt per rs k).flatten.length=per*size:=by
 rw [page_len hs,Nat.add_mul] at *
 congr 1
 omega
theorem page_le (hs:∀ r∈rs,r.length=size) (k:Nat):(recsAt per rs k).flatten.length≤per*size:=by
 rw [page_len hs]
 exact Nat.mul_le_mul_right _ (Nat.min_le_left _ _)
theorem page_get (hp:0<per) (hs:∀ r∈rs,r.length=size) {i:Nat} {r:List UInt8} (h:rs[i]? = some r):i/per<pagesN per rs.length∧(((recsAt per rs (i/per)).flatten).drop (i%per*size)).take size=r:=by
 have hi:=(List.getElem?_eq_some_iff.1 h).1
 have hm:=Nat.div_add_mod i per
 have hc:i/per*per=per*(i/per):=Nat.mul_comm _ _
 refine ⟨(pagesN_lt hp).2 (by omega),flat_get (fun r hr=>hs r (recsAt_mem hr)) ?_⟩
 rw [recsAt_get rs (Nat.mod_lt _ hp),show i/per*per+i%per=i by omega]
 exact h
theorem add_last (hp:0<per) (r:List UInt8) (hn:rs.length%per≠0):pagesN per rs.length=rs.length/per+1∧pagesS per (rs++[r])=setP (pagesS per rs) (rs.length/per) ((recsAt per rs (rs.length/per)).flatten++r):=by
 have hm:=Nat.div_add_mod rs.length per
 have eL:(rs++[r]).length=rs.length+1:=by simp
 have hl:=Nat.mod_lt rs.length hp
 have hc:rs.length/per*per=per*(rs.length/per):=Nat.mul_comm _ _
 have hN:∀ n q,q*per<n→n≤q*per+per→pagesN per n=q+1:=fun n q h1 h2=>by
  have a1:=(pagesN_lt (k:=q) (n:=n) hp).2 h1
  have a2:¬ q+1<pagesN per n:=fun h=>by
   have:=(pagesN_lt (k:=q+1) (n:=n) hp).1 h
   rw [Nat.add_mul] at this
   omega
  omega
 have e1:=hN rs.length (rs.length/per) (by omega) (by omega)
 have e2:=hN (rs.length+1) (rs.length/per) (by omega) (by omega)
 refine ⟨e1,?_⟩
 apply List.ext_getElem?
 intro k
 rw [setP_get (by rw [pagesS_len,e1];omega)]
 by_cases hk:k<rs.length/per+1
 · rw [pagesS_get (by rw [eL];rw [e2];exact hk)]
   split
   · rename_i ek
     subst ek
     congr 1
     unfold recsAt
     rw [List.drop_append_of_le_length (by omega),List.take_append,List.take_of_length_le (by rw [List.length_drop];omega),List.take_of_length_le (by rw [List.length_drop];simp only [List.length_cons,List.length_nil];omega),List.flatten_append,List.flatten_cons,List.flatten_nil,List.append_nil]
   · rename_i ek
     rw [pagesS_get (by omega)]
     have hkk:(k+1)*per≤rs.length/per*per:=Nat.mul_le_mul_right _ (by omega)
     rw [Nat.add_mul] at hkk
     congr 2
     unfold recsAt
     rw [List.drop_append_of_le_length (by omega),List.take_append_of_le_length (by rw [List.length_drop];omega)]
 · rw [if_neg (by omega),List.getElem?_eq_none (by rw [pagesS_len,eL];omega),List.getElem?_eq_none (by rw [pagesS_len];omega)]
theorem add_new (hp:0<per) (r:List UInt8) (hn:rs.length%per=0):pagesN per rs.length=rs.length/per∧pagesS per (rs++[r])=pagesS per rs++[r]:=by
 have hm:=Nat.div_add_mod rs.length per
 have eL:(rs++[r]).length=rs.length+1:=by simp
 have hc:rs.length/per*per=per*(rs.length/per):=Nat.mul_comm _ _
 have e1:pagesN per rs.length=rs.length/per:=by
  have a1:¬ rs.length/per<pagesN per rs.length:=fun h=>by
   have:=(pagesN_lt (k:=rs.length/per) hp).1 h
   omega
  by_cases e:rs.length/per=0
  · omega
  · have a2:=(pagesN_lt (k:=rs.length/per-1) (n:=rs.length) hp).2 (by
     have:(rs.length/per-1)*per+per=rs.length/per*per:=by rw [←Nat.succ_mul];congr 1;omega
     omega)
    omega
 have e2:pagesN per (rs.length+1)=rs.length/per+1:=by
  have a1:=(pagesN_lt (k:=rs.length/per) (n:=rs.length+1) hp).2 (by omega)
  have a2:¬ rs.length/per+1<pagesN per (rs.length+1):=fun h=>by
   have:=(pagesN_lt (k:=rs.length/per+1) hp).1 h
   rw [Nat.add_mul] at this
   omega
  omega
 refine ⟨e1,?_⟩
 apply List.ext_getElem?
 intro k
 by_cases hk:k<rs.length/per
 · rw [pagesS_get (by rw [eL];omega),List.getElem?_append_left (by rw [pagesS_len];omega),pagesS_get (by omega)]
   have hkk:(k+1)*per≤rs.length/per*per:=Nat.mul_le_mul_right _ (by omega)
   rw [Nat.add_mul] at hkk
   congr 2
   unfold recsAt
   rw [List.drop_append_of_le_length (by omega),List.take_append_of_le_length (by rw [List.length_drop];omega)]
 · by_cases hk2:k=rs.length/per
   · rw [pagesS_get (by rw [eL];omega),List.getElem?_append_right (by rw [pagesS_len];omega),pagesS_len,e1,hk2,Nat.sub_self]
     unfold recsAt
     rw [show rs.length/per*per=rs.length by omega,List.drop_left,List.take_of_length_le (by simp only [List.length_cons,List.length_nil];omega)]
     simp
   · rw [List.getElem?_eq_none (by rw [pagesS_len,eL];omega),List.getElem?_eq_none (by rw [List.length_append,pagesS_len];show _+1≤_;omega)]
theorem set_one (hp:0<per) (hs:∀ r∈rs,r.length=size) {i:Nat} (hi:i<rs.length) (r:List UInt8) :
 pagesS per (rs.set i r)=setP (pagesS per rs) (i/per) ((recsAt per rs (i/per)).flatten.take (i%per*size)++r++(recsAt per rs (i/per)).flatten.drop ((i%per+1)*size)):=by
 have hm:=Nat.div_add_mod i per
 have hl:=Nat.mod_lt i hp
 have hc:i/per*per=per*(i/per):=Nat.mul_comm _ _
 have hlt:=(pagesN_lt (k:=i/per) (n:=rs.length) hp).2 (by omega)
 apply List.ext_getElem?
 intro k
 rw [setP_get (by rw [pagesS_len];omega)]
 by_cases hk:k<pagesN per rs.length
 · rw [pagesS_get (by rw [List.length_set];exact hk)]
   have key:recsAt per (rs.set i r) k=if k=i/per then (recsAt per rs k).set (i%per) r else recsAt per rs k:=by
    apply List.ext_getElem?
    intro j
    by_cases hj:j<per
    · rw [recsAt_get _ hj,List.getElem?_set]
      by_cases ek:k=i/per
      · rw [if_pos ek,List.getElem?_set,recsAt_get _ hj,recsAt_len]
        by_cases ej:i%per=j
        · rw [if_pos (by rw [ek];omega),if_pos hi,if_pos ej,if_pos (by rw [ek];omega)]
        · rw [if_neg (by rw [ek];omega),if_neg ej]
      · rw [if_neg ek,recsAt_get _ hj]
        have hne:¬ i=k*per+j:=fun e=>by
         apply ek
         rw [e,Nat.mul_comm,Nat.mul_add_div hp,Nat.div_eq_of_lt hj,Nat.add_zero]
        rw [if_neg hne]
    · have l1:(recsAt per (rs.set i r) k).length≤j:=by rw [recsAt_len];omega
      have l2:(recsAt per rs k).length≤j:=by rw [recsAt_len];omega
      rw [List.getElem?_eq_none l1]
      split
      · rw [List.getElem?_eq_none (by rw [List.length_set];exact l2)]
      · rw [List.getElem?_eq_none l2]
   rw [key]
   split
   · rename_i ek
     subst ek
     rw [flat_set r (fun r hr=>hs r (recsAt_mem hr)) (by rw [recsAt_len];omega)]
   · rw [pagesS_get hk]
 · rw [if_neg (by omega),List.getElem?_eq_none (by rw [pagesS_len,List.length_set];omega),List.getElem?_eq_none (by rw [pagesS_len];omega)]
end
def lastT (p:Pst) (nm:List UInt8):Pst×Int×List UInt8×Nat:=
 if (findP p nm).2≠0 then (p,-1,[],(findP p nm).2) else if (findP p nm).1=0 then (p,-1,[],0) else
 let q:=readPl p nm (((findP p nm).1-1:Nat):Int)
 (q.1,(((findP p nm).1-1:Nat):Int),q.2.1,q.2.2)
def seatT (p:Pst) (nm:List UInt8) (size:Nat) (i:Int):Pst×List UInt8×Nat×Nat:=
 if i<0 then (p,[],0,1) else
 let q:=readPl p nm ((i.toNat/(240/size):Nat):Int)
 if q.2.2≠0 then (q.1,[],0,q.2.2) else if q.2.1.length%size≠0 then (q.1,[],0,7) else if q.2.1.length≤i.toNat%(240/size)*size then (q.1,[],0,3)
 else (q.1,q.2.1,i.toNat%(240/size)*size,0)
def openT (p:Pst) (nm:List UInt8) (size:Int):Nat:=if size<1∨240<size then 1 else (findP p nm).2
def lenT (p:Pst) (nm:List UInt8) (size:Nat):Pst×Nat×Nat:=
 let q:=lastT p nm
 if q.2.2.2≠0 then (q.1,0,q.2.2.2) else if q.2.1<0 then (q.1,0,0) else if q.2.2.1.length=0∨q.2.2.1.length%size≠0 then (q.1,0,7)
 else (q.1,q.2.1.toNat*(240/size)+q.2.2.1.length/size,0)
def getT (p:Pst) (nm:List UInt8) (size:Nat) (i:Int):Pst×List UInt8×Nat:=
 let q:=seatT p nm size i
 if q.2.2.2≠0 then (q.1,[],q.2.2.2) else (q.1,(q.2.1.drop q.2.2.1).take size,0)
def addT (p:Pst) (nm:List UInt8) (size:Nat) (rec:List UInt8):Pst×Nat:=
 if rec.length≠size then (p,1) else
 let q:=lastT p nm
 if q.2.2.2≠0 then (q.1,q.2.2.2) else if q.2.1<0∨240<q.2.2.1.length+size then writePl q.1 nm (q.2.1+1) rec else writePl q.1 nm q.2.1 (q.2.2.1++rec)
def setT (p:Pst) (nm:List UInt8) (size:Nat) (i:Int) (rec:List UInt8):Pst×Nat:=
 if rec.length≠size then (p,1) else
 let q:=seatT p nm size i
 if q.2.2.2≠0 then (q.1,q.2.2.2) else
 writePl q.1 nm ((i.toNat/(240/size):Nat):Int) (q.2.1.take q.2.2.1++rec++q.2.1.drop (q.2.2.1+size))
theorem seat_fits {p:Pst} {nm:List UInt8} {size:Nat} {i:Int} (hs:0<size) (h:(seatT p nm size i).2.2.2=0):(seatT p nm size i).2.2.1+size≤(seatT p nm size i).2.1.length:=by
 unfold seatT at h ⊢
 split at h<;>rename_i h0
 · simp at h
 · rw [if_neg h0]
   simp only at h ⊢
   split at h<;>rename_i h1
   · exact absurd h h1
   · rw [if_neg h1]
     split at h<;>rename_i h2
     · simp at h
     · rw [if_neg h2]
       split at h<;>rename_i h3
       · simp at h
       · rw [if_neg h3]
         simp only
         generalize (readPl p nm ((i.toNat/(240/size):Nat):Int)).2.1.length=L at *
         generalize i.toNat%(240/size)=m at *
         have e1:=Nat.div_add_mod L size
         have e2:L=size*(L/size):=by omega
         rw [e2] at h3 ⊢
         have h4:m<L/size:=by
          rcases Nat.lt_or_ge m (L/size) with h5|h5
          · exact h5
          · exfalso
            apply h3
            rw [Nat.mul_comm]
            exact Nat.mul_le_mul_right _ h5
         rw [Nat.mul_comm size,←Nat.succ_mul]
         exact Nat.mul_le_mul_right _ h4
structure IsS (V:Vw) (nm:List UInt8) (size:Nat) (rs:List (List UInt8)):Prop where
 siz:1≤size∧size≤240
 recs:∀ r∈rs,r.length=size
 file:V nm=some (pagesS (240/size) rs)
theorem per_pos {size:Nat} (h:1≤size∧size≤240):0<240/size:=Nat.div_pos h.2 (by omega)
theorem per_le (size:Nat):240/size*size≤240:=Nat.div_mul_le_self 240 size
theorem per_room {size m:Nat} (h:1≤size∧size≤240):m*size+size≤240↔m<240/size:=by
 rw [←Nat.succ_mul,←Nat.le_div_iff_mul_le (by omega)]
 omega
theorem isS_first {V:Vw} {nm:List UInt8} {size:Nat} (h:1≤size∧size≤240) (hV:V nm=some []):IsS V nm size []:=
 ⟨h,fun r hr=>by simp at hr,by
  rw [hV]
  have:pagesN (240/size) 0=0:=by
   have:=pagesN_lt (k:=0) (n:=0) (per_pos h)
   omega
  unfold pagesS
  simp [this]⟩
section
variable {Q:Nat} {PN:List UInt8→Nat→Nat} {p:Pst} {V:Vw} {a b:Nat} {nm:List UInt8} {size:Nat} {rs:List (List UInt8)}
theorem IsS.find (s:IsS V nm size rs) (h:Heal Q PN p V a b):findP p nm=(pagesN (240/size) rs.length,0):=by
 rw [find_heal h s.file,pagesS_len]
theorem IsS.read (s:IsS V nm size rs) (h:Heal Q PN p V a b) (hz:∀ x y,PN x y=0) (hab:4*(a*b)+4≤Q) (hb:b≤1000) {k:Nat} (hk:k<pagesN (240/size) rs.length) :
 (readPl p nm (k:Int)).2=((recsAt (240/size) rs k).flatten,0)∧Heal Q PN (readPl p nm (k:Int)).1 V a b:=by
 obtain ⟨h1,h2⟩:=read_heal h hab hb nm (k:Int) (fun _=>⟨hz _ _,h.free hz⟩)
 refine ⟨h1.trans ?_,h2⟩
 unfold readV
 rw [s.file]
 simp only
 rw [if_neg (by omega),Int.toNat_natCast,pagesS_get hk]
theorem IsS.whole (s:IsS V nm size rs) {k:Nat} (hk:k<pagesN (240/size) rs.length):(recsAt (240/size) rs k).flatten.length%size=0∧0<(recsAt (240/size) rs k).flatten.length∧(recsAt (240/size) rs k).flatten.length/size=min (240/size) (rs.length-k*(240/size)):=by
 have hp:=per_pos s.siz
 have hl:=page_len (per:=240/size) s.recs k
 have hk2:=(pagesN_lt hp).1 hk
 have e:(recsAt (240/size) rs k).flatten.length/size=min (240/size) (rs.length-k*(240/size)):=by
  rw [hl]
  exact Nat.mul_div_cancel _ (by have:=s.siz;omega)
 have h1:0<min (240/size) (rs.length-k*(240/size)):=by omega
 refine ⟨?_,?_,e⟩
 · rw [hl]
   exact Nat.mul_mod_left (min (240/size) (rs.length-k*(240/size))) size
 · rw [hl]
   exact Nat.mul_pos h1 (show 0<size by have:=s.siz;omega)
theorem IsS.last0 (s:IsS V nm size rs) (h:Heal Q PN p V a b) (h0:rs.length=0):lastT p nm=(p,-1,[],0):=by
 have hp:=per_pos s.siz
 have:pagesN (240/size) rs.length=0:=by
  have:=pagesN_lt (k:=0) (n:=rs.length) hp
  omega
 unfold lastT
 rw [s.find h,if_neg (by simp),if_pos this]
theorem IsS.last (s:IsS V nm size rs) (h:Heal Q PN p V a b) (hz:∀ x y,PN x y=0) (hab:4*(a*b)+4≤Q) (hb:b≤1000) (h0:rs.length≠0) :
 (lastT p nm).2=(((pagesN (240/size) rs.length-1:Nat):Int),(recsAt (240/size) rs (pagesN (240/size) rs.length-1)).flatten,0)∧Heal Q PN (lastT p nm).1 V a b∧0<pagesN (240/size) rs.length:=by
 have hp:=per_pos s.siz
 have hN:0<pagesN (240/size) rs.length:=(pagesN_lt (k:=0) hp).2 (by omega)
 unfold lastT
 rw [s.find h,if_neg (by simp),if_neg (by simp only;omega)]
 obtain ⟨r1,r2⟩:=s.read h hz hab hb (k:=pagesN (240/size) rs.length-1) (by omega)
 exact ⟨by simp only;rw [r1],r2,hN⟩
theorem IsS.len (s:IsS V nm size rs) (h:Heal Q PN p V a b) (hz:∀ x y,PN x y=0) (hab:4*(a*b)+4≤Q) (hb:b≤1000):(lenT p nm size).2=(rs.length,0)∧Heal Q PN (lenT p nm size).1 V a b:=by
 have hp:=per_pos s.siz
 unfold lenT
 by_cases h0:rs.length=0
 · rw [s.last0 h h0,h0]
   exact ⟨rfl,h⟩
 · obtain ⟨r1,r2,hN⟩:=s.last h hz hab hb h0
   have hk:pagesN (240/size) rs.length-1<pagesN (240/size) rs.length:=by omega
   obtain ⟨w1,w0,w2⟩:=s.whole hk
   generalize lastT p nm=q at *
   obtain ⟨q1,q2,q3,q4⟩:=q
   simp only at r1 r2 ⊢
   injection r1 with e1 e2
   injection e2 with e2 e3
   subst e1
   subst e2
   subst e3
   rw [if_neg (by simp),if_neg (by omega),if_neg (by omega),w2]
   refine ⟨?_,r2⟩
   simp only
   congr 1
   rw [Int.toNat_natCast]
   have h1:=(pagesN_lt hp).1 hk
   have h2:¬ pagesN (240/size) rs.length*(240/size)<rs.length:=fun e=>by
    have:=(pagesN_lt (k:=pagesN (240/size) rs.length) hp).2 e
    omega
   have h3:(pagesN (240/size) rs.length-1)*(240/size)+240/size=pagesN (240/size) rs.length*(240/size):=by
    rw [←Nat.succ_mul];congr 1;omega
   omega
theorem IsS.seat (s:IsS V nm size rs) (h:Heal Q PN p V a b) (hz:∀ x y,PN x y=0) (hab:4*(a*b)+4≤Q) (hb:b≤1000) {i:Nat} (hi:i<rs.length) :
 (seatT p nm size (i:Int)).2=((recsAt (240/size) rs (i/(240/size))).flatten,i%(240/size)*size,0)∧Heal Q PN (seatT p nm size (i:Int)).1 V a b∧i/(240/size)<pagesN (240/size) rs.length:=by
 have hp:=per_pos s.siz
 have hm:=Nat.div_add_mod i (240/size)
 have hl:=Nat.mod_lt i hp
 have hc:i/(240/size)*(240/size)=(240/size)*(i/(240/size)):=Nat.mul_comm _ _
 have g1:i/(240/size)<pagesN (240/size) rs.length:=(pagesN_lt hp).2 (by omega)
 refine ⟨?_,?_,g1⟩<;>unfold seatT<;>rw [if_neg (by omega)]<;>simp only [Int.toNat_natCast]
 all_goals
  obtain ⟨r1,r2⟩:=s.read h hz hab hb g1
  obtain ⟨w1,w0,w2⟩:=s.whole g1
  have hle:¬ (recsAt (240/size) rs (i/(240/size))).flatten.length≤i%(240/size)*size:=by
   rw [page_len (per:=240/size) s.recs]
   intro h5
   have h6:(i%(240/size)+1)*size≤min (240/size) (rs.length-i/(240/size)*(240/size))*size:=Nat.mul_le_mul_right _ (by omega)
   rw [Nat.succ_mul] at h6
   have:=s.siz
   omega
  generalize readPl p nm ((i/(240/size):Nat):Int)=q at *
  obtain ⟨q1,q2,q3⟩:=q
  simp only at r1 r2 ⊢
  injection r1 with e1 e2
  subst e1
  subst e2
  rw [if_neg (by simp),if_neg (by omega),if_neg hle]
 exact r2
theorem IsS.seat_no (s:IsS V nm size rs) (h:Heal Q PN p V a b) (hz:∀ x y,PN x y=0) (hab:4*(a*b)+4≤Q) (hb:b≤1000) {i:Int} (hi:i<0∨rs.length≤i.toNat) :
 (seatT p nm size i).2.2.2≠0∧Heal Q PN (seatT p nm size i).1 V a b:=by
 have hp:=per_pos s.siz
 unfold seatT
 by_cases h0:i<0
 · rw [if_pos h0]
   exact ⟨by simp,h⟩
 · rw [if_neg h0]
   simp only
   have hi:rs.length≤i.toNat:=by omega
   obtain ⟨h1,h2⟩:=read_heal h hab hb nm ((i.toNat/(240/size):Nat):Int) (fun _=>⟨hz _ _,h.free hz⟩)
   by_cases hk:pagesN (240/size) rs.length≤i.toNat/(240/size)
   · have e:readV V nm ((i.toNat/(240/size):Nat):Int)=([],3):=by
      unfold readV
      rw [s.file]
      simp only
      rw [if_neg (by omega),Int.toNat_natCast,List.getElem?_eq_none (by rw [pagesS_len];exact hk)]
     rw [e] at h1
     generalize readPl p nm ((i.toNat/(240/size):Nat):Int)=q at *
     obtain ⟨q1,q2,q3⟩:=q
     simp only at h1 h2 ⊢
     injection h1 with e1 e2
     subst e1
     subst e2
     rw [if_pos (by decide)]
     exact ⟨by simp,h2⟩
   · have hk:i.toNat/(240/size)<pagesN (240/size) rs.length:=by omega
     obtain ⟨r1,r2⟩:=s.read h hz hab hb hk
     obtain ⟨w1,w0,w2⟩:=s.whole hk
     have hm:=Nat.div_add_mod i.toNat (240/size)
     have hc:i.toNat/(240/size)*(240/size)=(240/size)*(i.toNat/(240/size)):=Nat.mul_comm _ _
     have hle:(recsAt (240/size) rs (i.toNat/(240/size))).flatten.length≤i.toNat%(240/size)*size:=by
      rw [page_len (per:=240/size) s.recs]
      exact Nat.mul_le_mul_right _ (by omega)
     generalize readPl p nm ((i.toNat/(240/size):Nat):Int)=q at *
     obtain ⟨q1,q2,q3⟩:=q
     simp only at r1 r2 ⊢
     injection r1 with e1 e2
     subst e1
     subst e2
     rw [if_neg (by simp),if_neg (by omega),if_pos hle]
     exact ⟨by simp,r2⟩
theorem IsS.get (s:IsS V nm size rs) (h:Heal Q PN p V a b) (hz:∀ x y,PN x y=0) (hab:4*(a*b)+4≤Q) (hb:b≤1000) {i:Nat} {r:List UInt8} (hr:rs[i]? = some r) :
 (getT p nm size (i:Int)).2=(r,0)∧Heal Q PN (getT p nm size (i:Int)).1 V a b:=by
 obtain ⟨g1,g2⟩:=page_get (per_pos s.siz) s.recs hr
 have hi:=(List.getElem?_eq_some_iff.1 hr).1
 obtain ⟨r1,r2,-⟩:=s.seat h hz hab hb hi
 unfold getT
 generalize seatT p nm size (i:Int)=q at *
 obtain ⟨q1,q2,q3,q4⟩:=q
 simp only at r1 r2 ⊢
 injection r1 with e1 e2
 injection e2 with e2 e3
 subst e1
 subst e2
 subst e3
 rw [if_neg (by simp),g2]
 exact ⟨rfl,r2⟩
theorem IsS.get_no (s:IsS V nm size rs) (h:Heal Q PN p V a b) (hz:∀ x y,PN x y=0) (hab:4*(a*b)+4≤Q) (hb:b≤1000) {i:Int} (hi:i<0∨rs.length≤i.toNat) :
 ∃ E,(getT p nm size i).2=([],E)∧E≠0∧Heal Q PN (getT p nm size i).1 V a b:=by
 obtain ⟨h1,h2⟩:=s.seat_no h hz hab hb hi
 unfold getT
 simp only
 rw [if_pos h1]
 exact ⟨_,rfl,h1,h2⟩
theorem IsS.write (s:IsS V nm size rs) (h:Heal Q PN p V a b) (hz:∀ x y,PN x y=0) (hab:4*(a*b)+4≤Q) (hb:b≤1000) {k:Nat} (hk:k≤pagesN (240/size) rs.length) {t:List UInt8} (ht:t.length≤240) :
 (writePl p nm (k:Int) t).2=0∧Heal Q PN (writePl p nm (k:Int) t).1 (upV V nm (some (setP (pagesS (240/size) rs) k t))) a (b+1):=by
 obtain ⟨h1,h2⟩:=write_heal h hab hb nm (k:Int) t (fun _=>⟨hz _ _,h.free hz⟩)
 have e:writeV V nm (k:Int) t=(upV V nm (some (setP (pagesS (240/size) rs) k t)),0):=by
  unfold writeV
  rw [if_neg (by omega),s.file]
  simp only
  rw [if_neg (by rw [pagesS_len];omega),Int.toNat_natCast]
 rw [e] at h1 h2
 exact ⟨h1,h2⟩
theorem IsS.add (s:IsS V nm size rs) (h:Heal Q PN p V a b) (hz:∀ x y,PN x y=0) (hab:4*(a*b)+4≤Q) (hb:b≤1000) {r:List UInt8} (hr:r.length=size) :
 (addT p nm size r).2=0∧Heal Q PN (addT p nm size r).1 (upV V nm (some (pagesS (240/size) (rs++[r])))) a (b+1)∧IsS (upV V nm (some (pagesS (240/size) (rs++[r])))) nm size (rs++[r]):=by
 have hp:=per_pos s.siz
 have hsz:=s.siz
 have hS:IsS (upV V nm (some (pagesS (240/size) (rs++[r])))) nm size (rs++[r]):=⟨s.siz,fun x hx=>by
  rcases List.mem_append.1 hx with hx|hx
  · exact s.recs x hx
  · rw [List.mem_singleton] at hx;rw [hx];exact hr,upV_self _ _ _⟩
 suffices hh:(addT p nm size r).2=0∧Heal Q PN (addT p nm size r).1 (upV V nm (some (pagesS (240/size) (rs++[r])))) a (b+1) from ⟨hh.1,hh.2,hS⟩
 unfold addT
 rw [if_neg (by omega)]
 have hm:=Nat.div_add_mod rs.length (240/size)
 have hlm:=Nat.mod_lt rs.length hp
 have hc:rs.length/(240/size)*(240/size)=(240/size)*(rs.length/(240/size)):=Nat.mul_comm _ _
 by_cases hmod:rs.length%(240/size)=0
 · obtain ⟨n1,n2⟩:=add_new hp r hmod
   have n3:pagesS (240/size) (rs++[r])=setP (pagesS (240/size) rs) (pagesN (240/size) rs.length) r:=by
    have:=setP_end (pagesS (240/size) rs) r
    rw [pagesS_len] at this
    rw [n2,this]
   rw [n3]
   by_cases h0:rs.length=0
   · rw [s.last0 h h0]
     simp only
     rw [if_neg (by simp),if_pos (.inl (by decide))]
     have e0:pagesN (240/size) rs.length=0:=by rw [n1,h0,Nat.zero_div]
     rw [e0]
     exact s.write h hz hab hb (k:=0) (Nat.zero_le _) (by omega)
   · obtain ⟨r1,r2,hN⟩:=s.last h hz hab hb h0
     have hlen:=page_full (per:=240/size) s.recs (k:=pagesN (240/size) rs.length-1) (by rw [n1,show rs.length/(240/size)-1+1=rs.length/(240/size) by omega];omega)
     generalize lastT p nm=q at *
     obtain ⟨q1,q2,q3,q4⟩:=q
     simp only at r1 r2 ⊢
     injection r1 with e1 e2
     injection e2 with e2 e3
     subst e1
     subst e2
     subst e3
     have hroom:=per_room (m:=240/size) s.siz
     rw [if_neg (by simp),hlen,if_pos (.inr (by omega)),show ((pagesN (240/size) rs.length-1:Nat):Int)+1=(pagesN (240/size) rs.length:Int) by omega]
     exact s.write r2 hz hab hb (Nat.le_refl _) (by omega)
 · obtain ⟨n1,n2⟩:=add_last hp r hmod
   obtain ⟨r1,r2,hN⟩:=s.last h hz hab hb (fun e=>hmod (by rw [e,Nat.zero_mod]))
   have hk:rs.length/(240/size)<pagesN (240/size) rs.length:=by omega
   have hlen:=page_len (per:=240/size) s.recs (rs.length/(240/size))
   have e8:min (240/size) (rs.length-rs.length/(240/size)*(240/size))=rs.length%(240/size):=by omega
   rw [e8] at hlen
   have hroom:=(per_room (m:=rs.length%(240/size)) s.siz).2 hlm
   rw [n2]
   have n4:pagesN (240/size) rs.length-1=rs.length/(240/size):=by omega
   rw [n4] at r1
   generalize lastT p nm=q at *
   obtain ⟨q1,q2,q3,q4⟩:=q
   simp only at r1 r2 ⊢
   injection r1 with e1 e2
   injection e2 with e2 e3
   subst e1
   subst e2
   subst e3
   rw [if_neg (by simp),hlen,if_neg (by omega)]
   exact s.write r2 hz hab hb (Nat.le_of_lt hk) (by rw [List.length_append,hlen,hr];exact hroom)
theorem IsS.set (s:IsS V nm size rs) (h:Heal Q PN p V a b) (hz:∀ x y,PN x y=0) (hab:4*(a*b)+4≤Q) (hb:b≤1000) {i:Nat} (hi:i<rs.length) {r:List UInt8} (hr:r.length=size) :
 (setT p nm size (i:Int) r).2=0∧Heal Q PN (setT p nm size (i:Int) r).1 (upV V nm (some (pagesS (240/size) (rs.set i r)))) a (b+1)∧IsS (upV V nm (some (pagesS (240/size) (rs.set i r)))) nm size (rs.set i r):=by
 have hp:=per_pos s.siz
 have hS:IsS (upV V nm (some (pagesS (240/size) (rs.set i r)))) nm size (rs.set i r):=⟨s.siz,fun x hx=>by
  rcases List.mem_or_eq_of_mem_set hx with hx|rfl
  · exact s.recs x hx
  · exact hr,upV_self _ _ _⟩
 suffices hh:(setT p nm size (i:Int) r).2=0∧Heal Q PN (setT p nm size (i:Int) r).1 (upV V nm (some (pagesS (240/size) (rs.set i r)))) a (b+1) from ⟨hh.1,hh.2,hS⟩
 unfold setT
 rw [if_neg (by omega)]
 obtain ⟨g1,g2,hk⟩:=s.seat h hz hab hb hi
 generalize seatT p nm size (i:Int)=q at *
 obtain ⟨q1,q2,q3,q4⟩:=q
 simp only at g1 g2 ⊢
 injection g1 with e1 e2
 injection e2 with e2 e3
 subst e1
 subst e2
 subst e3
 rw [if_neg (by simp),set_one hp s.recs hi r]
 simp only [Int.toNat_natCast]
 have h5:i%(240/size)*size+size=(i%(240/size)+1)*size:=(Nat.succ_mul _ _).symm
 rw [h5]
 have hm:=Nat.div_add_mod i (240/size)
 have hl:=Nat.mod_lt i hp
 have hc:i/(240/size)*(240/size)=(240/size)*(i/(240/size)):=Nat.mul_comm _ _
 refine s.write g2 hz hab hb (Nat.le_of_lt hk) ?_
 have h1:=page_len (per:=240/size) s.recs (i/(240/size))
 have h2:=page_le (per:=240/size) s.recs (i/(240/size))
 have h3:=per_le size
 have h4:(i%(240/size)+1)*size≤min (240/size) (rs.length-i/(240/size)*(240/size))*size:=Nat.mul_le_mul_right _ (by omega)
 rw [List.length_append,List.length_append,List.length_take,List.length_drop,hr]
 omega
theorem IsS.set_no (s:IsS V nm size rs) (h:Heal Q PN p V a b) (hz:∀ x y,PN x y=0) (hab:4*(a*b)+4≤Q) (hb:b≤1000) {i:Int} {r:List UInt8} (hi:r.length≠size∨i<0∨rs.length≤i.toNat) :
 (setT p nm size i r).2≠0∧Heal Q PN (setT p nm size i r).1 V a b:=by
 unfold setT
 by_cases hr:r.length=size
 · rw [if_neg (by omega)]
   obtain ⟨g1,g2⟩:=s.seat_no h hz hab hb (i:=i) (hi.resolve_left (fun h0=>h0 hr))
   simp only
   rw [if_pos g1]
   exact ⟨g1,g2⟩
 · rw [if_pos hr]
   exact ⟨by simp,h⟩
end
def sN:List UInt8:=[115]
def HealS (p:Pst) (size:Nat) (rs:List (List UInt8)) (c:Nat):Prop:=∃ V b,b≤c∧Heal 65536 (fun _ _=>0) p V 1 b∧IsS V sN size rs
section
variable {p:Pst} {size c:Nat} {rs:List (List UInt8)}
theorem HealS.siz (h:HealS p size rs c):1≤size∧size≤240:=by
 obtain ⟨V,b,hb,h,s⟩:=h
 exact s.siz
theorem HealS.recs (h:HealS p size rs c):∀ r∈rs,r.length=size:=by
 obtain ⟨V,b,hb,h,s⟩:=h
 exact s.recs
theorem HealS.more (h:HealS p size rs c) {c':Nat} (hc:c≤c'):HealS p size rs c':=by
 obtain ⟨V,b,hb,h,s⟩:=h
 exact ⟨V,b,by omega,h,s⟩
theorem HealS.find (h:HealS p size rs c):findP p sN=(pagesN (240/size) rs.length,0):=by
 obtain ⟨V,b,hb,h,s⟩:=h
 exact s.find h
theorem HealS.read (h:HealS p size rs c) (hc:c≤1000) {k:Nat} (hk:k<pagesN (240/size) rs.length):(readPl p sN (k:Int)).2=((recsAt (240/size) rs k).flatten,0)∧HealS (readPl p sN (k:Int)).1 size rs c:=by
 obtain ⟨V,b,hb,h,s⟩:=h
 obtain ⟨h1,h2⟩:=s.read h (fun _ _=>rfl) (by omega) (by omega) hk
 exact ⟨h1,V,b,hb,h2,s⟩
theorem HealS.len (h:HealS p size rs c) (hc:c≤1000):(lenT p sN size).2=(rs.length,0)∧HealS (lenT p sN size).1 size rs c:=by
 obtain ⟨V,b,hb,h,s⟩:=h
 obtain ⟨h1,h2⟩:=s.len h (fun _ _=>rfl) (by omega) (by omega)
 exact ⟨h1,V,b,hb,h2,s⟩
theorem HealS.get (h:HealS p size rs c) (hc:c≤1000) {i:Nat} {r:List UInt8} (hr:rs[i]? = some r):(getT p sN size (i:Int)).2=(r,0)∧HealS (getT p sN size (i:Int)).1 size rs c:=by
 obtain ⟨V,b,hb,h,s⟩:=h
 obtain ⟨h1,h2⟩:=s.get h (fun _ _=>rfl) (by omega) (by omega) hr
 exact ⟨h1,V,b,hb,h2,s⟩
theorem HealS.get_no (h:HealS p size rs c) (hc:c≤1000) {i:Int} (hi:i<0∨rs.length≤i.toNat):∃ E,(getT p sN size i).2=([],E)∧E≠0∧HealS (getT p sN size i).1 size rs c:=by
 obtain ⟨V,b,hb,h,s⟩:=h
 obtain ⟨E,h1,h3,h2⟩:=s.get_no h (fun _ _=>rfl) (by omega) (by omega) hi
 exact ⟨E,h1,h3,V,b,hb,h2,s⟩
theorem HealS.add (h:HealS p size rs c) (hc:c≤999) {r:List UInt8} (hr:r.length=size):(addT p sN size r).2=0∧HealS (addT p sN size r).1 size (rs++[r]) (c+1):=by
 obtain ⟨V,b,hb,h,s⟩:=h
 obtain ⟨h1,h2,h3⟩:=s.add h (fun _ _=>rfl) (by omega) (by omega) hr
 exact ⟨h1,_,b+1,by omega,h2,h3⟩
theorem HealS.set (h:HealS p size rs c) (hc:c≤999) {i:Nat} (hi:i<rs.length) {r:List UInt8} (hr:r.length=size):(setT p sN size (i:Int) r).2=0∧HealS (setT p sN size (i:Int) r).1 size (rs.set i r) (c+1):=by
 obtain ⟨V,b,hb,h,s⟩:=h
 obtain ⟨h1,h2,h3⟩:=s.set h (fun _ _=>rfl) (by omega) (by omega) hi hr
 exact ⟨h1,_,b+1,by omega,h2,h3⟩
theorem HealS.set_no (h:HealS p size rs c) (hc:c≤1000) {i:Int} {r:List UInt8} (hi:r.length≠size∨i<0∨rs.length≤i.toNat):(setT p sN size i r).2≠0∧HealS (setT p sN size i r).1 size rs c:=by
 obtain ⟨V,b,hb,h,s⟩:=h
 obtain ⟨h1,h2⟩:=s.set_no h (fun _ _=>rfl) (by omega) (by omega) hi
 exact ⟨h1,V,b,hb,h2,s⟩
theorem HealS.flush (h:HealS p size rs c) (hc:c≤1000):(flushPl p sN).2=0∧HealS (flushPl p sN).1 size rs c:=by
 obtain ⟨V,b,hb,h,s⟩:=h
 obtain ⟨h1,h2,-⟩:=flush_heal h (by omega) (by omega) sN
 refine ⟨?_,V,b,hb,h2,s⟩
 rw [h1]
 unfold flushE
 rw [s.file]
end
end Go.Proofs.YtjmkagakdhhigaaGreatDoor
