/- Chapter 7 as functions of lists: what a page is, and what its bytes say. -/
import Derived.Test.YtjmkagakdhhigaaGreatDoorQCrcMath
import Derived.Test.YtjmkagakdhhigaaGreatDoorQDiskMath
set_option linter.unusedVariables false
set_option linter.unusedSimpArgs false
set_option maxRecDepth 100000
namespace Go.Proofs.YtjmkagakdhhigaaGreatDoor
open Go.RowKit
def noughts (k:Nat):List UInt8:=List.replicate k 0
theorem noughts_length (k:Nat):(noughts k).length=k:=by simp [noughts]
def headB (t n s:Nat):List UInt8:=nb 4 t++nb 4 n++nb 4 s
theorem headB_length (t n s:Nat):(headB t n s).length=12:=by simp [headB,nb_length]
def bodyB (t n:Nat) (b:List UInt8):List UInt8:=headB t n b.length++(b++noughts (240-b.length))
theorem bodyB_length {b:List UInt8} (t n:Nat) (h:b.length≤240):(bodyB t n b).length=252:=by
 simp only [bodyB,List.length_append,headB_length,noughts_length];omega
def pageB (t n:Nat) (b:List UInt8):List UInt8:=bodyB t n b++nb 4 (extC 0 (bodyB t n b))
theorem pageB_length {b:List UInt8} (t n:Nat) (h:b.length≤240):(pageB t n b).length=256:=by
 rw [pageB,List.length_append,bodyB_length t n h,nb_length]
def saidB (p:List UInt8):List UInt8:=(p.drop 12).take (numAt p 8 4)
def IsPage (p:List UInt8) (t n:Nat):Prop:=p.length=256∧numAt p 8 4≤240∧p=pageB t n (saidB p)
theorem numAt_append (l m:List UInt8) (a s:Nat) (h:a+s≤l.length):numAt (l++m) a s=numAt l a s:=by
 unfold numAt
 rw [List.drop_append_of_le_length (by omega),List.take_append_of_le_length (by rw [List.length_drop];omega)]
theorem numAt_behind (l m:List UInt8) (a s:Nat) (h:a=l.length):numAt (l++m) a s=le (m.take s):=by
 unfold numAt
 subst h
 rw [List.drop_left]
theorem mod4 {x:Nat} (h:x<4294967296):x%256^4=x:=Nat.mod_eq_of_lt (by omega)
theorem size_bodyB (t n:Nat) (b:List UInt8) (h:b.length≤240):numAt (bodyB t n b) 8 4=b.length:=by
 rw [bodyB,numAt_append _ _ _ _ (by rw [headB_length];omega),headB,numAt_behind _ _ _ _ (by simp [nb_length]),List.take_of_length_le (by rw [nb_length];omega),le_nb,mod4 (by omega)]
theorem size_pageB (t n:Nat) (b:List UInt8) (h:b.length≤240):numAt (pageB t n b) 8 4=b.length:=by
 rw [pageB,numAt_append _ _ _ _ (by rw [bodyB_length t n h];omega),size_bodyB t n b h]
theorem tag_pageB (t n:Nat) (b:List UInt8):numAt (pageB t n b) 0 4=t%256^4:=by
 rw [pageB,bodyB,headB,List.append_assoc,List.append_assoc,List.append_assoc,numAt_append _ _ _ _ (by rw [nb_length];omega)]
 unfold numAt
 rw [List.drop_zero,List.take_of_length_le (by rw [nb_length];omega),le_nb]
theorem number_pageB (t n:Nat) (b:List UInt8):numAt (pageB t n b) 4 4=n%256^4:=by
 rw [pageB,bodyB,headB,List.append_assoc,List.append_assoc,numAt_append _ _ _ _ (by simp [nb_length]),numAt_behind _ _ _ _ (by rw [nb_length]),List.take_of_length_le (by rw [nb_length];omega),le_nb]
theorem saidB_pageB (t n:Nat) (b:List UInt8) (h:b.length≤240):saidB (pageB t n b)=b:=by
 unfold saidB
 rw [size_pageB t n b h,pageB,bodyB,List.append_assoc,List.append_assoc]
 rw [show (12:Nat)=(headB t n b.length).length from (headB_length _ _ _).symm,List.drop_left,List.take_left]
theorem saidB_length {p:List UInt8} (h1:p.length=256) (h2:numAt p 8 4≤240):(saidB p).length=numAt p 8 4:=by
 unfold saidB
 rw [List.length_take,List.length_drop];omega
theorem isPage_pageB (t n:Nat) (b:List UInt8) (h:b.length≤240):IsPage (pageB t n b) t n:=
 ⟨pageB_length t n h,by rw [size_pageB t n b h];exact h,by rw [saidB_pageB t n b h]⟩
instance isPageDec (p:List UInt8) (t n:Nat):Decidable (IsPage p t n):=by unfold IsPage;infer_instance
def tagN (nm:List UInt8):Nat:=extC 0 nm
theorem tagN_lt (nm:List UInt8):tagN nm<4294967296:=extC_lt (by decide) nm
def pagesP (s:Ds) (nm:List UInt8):Nat×Nat:=((sizeS s nm).1/256,(sizeS s nm).2)
def readP (s:Ds) (nm:List UInt8) (k:Int):List UInt8×Nat:=
 if k<0 then ([],1) else if (sizeS s nm).2≠0 then ([],(sizeS s nm).2) else if (sizeS s nm).1/256≤k.toNat then ([],3)
 else if IsPage (readS s nm (k*256) 256).1 (tagN nm) k.toNat then (saidB (readS s nm (k*256) 256).1,0) else ([],7)
def writeP (s:Ds) (nm:List UInt8) (k:Int) (b:List UInt8):Ds×Nat:=
 if k<0 then (s,1) else if 240<b.length then (s,9) else if (sizeS s nm).2≠0 then (s,(sizeS s nm).2) else if (sizeS s nm).1/256<k.toNat then (s,1)
 else writeS s nm (k*256) (pageB (tagN nm) k.toNat b)
def openE (s:Ds) (nm:List UInt8):Nat:=if (sizeS s nm).2≠0 then (sizeS s nm).2 else if (sizeS s nm).1%256≠0 then 7 else 0
def rotten (s:Ds) (nm:List UInt8) (n:Nat):List Nat:=(List.range n).filter fun k=>decide ((readP s nm (k:Int)).2≠0)
def badP (s:Ds) (nm:List UInt8):List Nat×Nat:=if openE s nm≠0 then ([],openE s nm) else (rotten s nm ((sizeS s nm).1/256),0)
theorem size_le {s:Ds} (h:DsOk s) (nm:List UInt8):(sizeS s nm).1≤16777216:=by
 unfold sizeS
 split
 · simp
 · split
   · simp
   · cases e:getF s.l nm with
     | none=>simp
     | some f=>exact (h.files f (List.mem_of_find?_eq_some e)).size
theorem size_ok {s:Ds} {nm:List UInt8} (h:(sizeS s nm).2=0):∃ f,getF s.l nm=some f∧(sizeS s nm).1=f.now.length∧∀ off n:Int,0≤off→0≤n→readS s nm off n=((f.now.drop off.toNat).take n.toNat,0):=by
 unfold sizeS at h ⊢
 unfold readS
 by_cases h1:s.off=true
 · rw [if_pos h1] at h;simp at h
 · rw [if_neg h1] at h ⊢
   by_cases h2:nameOk nm=false
   · rw [if_pos h2] at h;simp at h
   · rw [if_neg h2] at h ⊢
     cases e:getF s.l nm with
     | none=>rw [e] at h;simp at h
     | some f=>
      refine ⟨f,rfl,rfl,fun off n h3 h4=>?_⟩
      rw [if_neg h1,if_neg (by rintro (h5|h5|h5);exact h2 h5;omega;omega)]
def pageAt (f:Fl) (k:Nat):List UInt8:=(f.now.drop (256*k)).take 256
theorem pageAt_get (f:Fl) (k j:Nat):(pageAt f k)[j]? = if j<256 then f.now[256*k+j]? else none:=by
 unfold pageAt
 rw [List.getElem?_take]
 split
 · rw [List.getElem?_drop]
 · rfl
theorem pageAt_ext {f:Fl} {k:Nat} {p:List UInt8} (hl:p.length=256) (h:∀ j,j<256→f.now[256*k+j]? = p[j]?):pageAt f k=p:=by
 apply List.ext_getElem?
 intro j
 rw [pageAt_get]
 split
 · rename_i hj;exact h j hj
 · rw [List.getElem?_eq_none (by omega)]
theorem pageAt_eq {f g:Fl} {k:Nat} (h:∀ j,j<256→f.now[256*k+j]? = g.now[256*k+j]?):pageAt f k=pageAt g k:=by
 apply List.ext_getElem?
 intro j
 rw [pageAt_get,pageAt_get]
 split
 · rename_i hj;exact h j hj
 · rfl
def tA:Nat:=tagN [97]
def setP (ps:List (List UInt8)) (k:Nat) (b:List UInt8):List (List UInt8):=ps.take k++b::ps.drop (k+1)
theorem setP_get {ps:List (List UInt8)} {k:Nat} {b:List UInt8} (h:k≤ps.length) (i:Nat):(setP ps k b)[i]? = if i=k then some b else ps[i]?:=by
 unfold setP
 by_cases h1:i<k
 · rw [List.getElem?_append_left (by rw [List.length_take];omega),List.getElem?_take,if_pos h1,if_neg (by omega)]
 · rw [List.getElem?_append_right (by rw [List.length_take];omega),List.length_take,Nat.min_eq_left h]
   by_cases h2:i=k
   · subst h2;simp
   · rw [if_neg h2,show i-k=(i-k-1)+1 by omega,List.getElem?_cons_succ,List.getElem?_drop]
     congr 1
     omega
theorem setP_length {ps:List (List UInt8)} {k:Nat} {b:List UInt8} (h:k≤ps.length):(setP ps k b).length=max ps.length (k+1):=by
 unfold setP
 simp only [List.length_append,List.length_take,List.length_cons,List.length_drop]
 omega
theorem setP_end (ps:List (List UInt8)) (b:List UInt8):setP ps ps.length b=ps++[b]:=by
 unfold setP
 rw [List.take_length,List.drop_eq_nil_of_le (by omega)]
structure IsF (f:Fl) (ps:List (List UInt8)):Prop where
 name:f.name=[97]
 len:f.now.length=256*ps.length
 page:∀ k p,ps[k]? = some p→p.length≤240∧pageAt f k=pageB tA k p
theorem writeF_len {f:Fl} {k:Nat} {b:List UInt8} (hk:256*k≤f.now.length) (hb:b.length=256):(writeF f (256*k) b).now.length=max f.now.length (256*k+256):=by
 rw [show (writeF f (256*k) b).now=layB f.now (256*k) b from rfl,layB_length _ _ _ hk,hb]
theorem writeF_page {f:Fl} {k:Nat} {b:List UInt8} (hk:256*k≤f.now.length) (hb:b.length=256) (i:Nat):pageAt (writeF f (256*k) b) i=if i=k then b else pageAt f i:=by
 by_cases h:i=k
 · subst h
   rw [if_pos rfl]
   refine pageAt_ext hb fun j hj=>?_
   rw [show (writeF f (256*i) b).now=layB f.now (256*i) b from rfl,layB_get _ _ _ hk,if_pos ⟨by omega,by omega⟩]
   congr 1
   omega
 · rw [if_neg h]
   refine pageAt_eq fun j hj=>?_
   rw [show (writeF f (256*k) b).now=layB f.now (256*k) b from rfl,layB_get _ _ _ hk,if_neg (by omega)]
end Go.Proofs.YtjmkagakdhhigaaGreatDoor
