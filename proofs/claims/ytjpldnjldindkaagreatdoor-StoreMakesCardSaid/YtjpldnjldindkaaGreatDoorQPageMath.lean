/- Chapter 7 as functions of lists: what a page is, and what its bytes say. -/
import Derived.Test.YtjpldnjldindkaaGreatDoorQCrcMath
import Derived.Test.YtjpldnjldindkaaGreatDoorQDiskMath
set_option linter.all false
set_option maxRecDepth 100000
namespace Go.Proofs.YtjpldnjldindkaaGreatDoor
open Go.RowKit
def zar (k:Nat):List UInt8:=List.replicate k 0
theorem zhj (k:Nat):(zar k).length=k:=by simp [zar]
def headB (t n s:Nat):List UInt8:=nb 4 t++nb 4 n++nb 4 s
theorem zaP (t n s:Nat):(headB t n s).length=12:=by simp [headB,zad]
def bodyB (t n:Nat) (b:List UInt8):List UInt8:=headB t n b.length++(b++zar (240-b.length))
theorem zbn {b:List UInt8} (t n:Nat) (h:b.length≤240):(bodyB t n b).length=252:=by
 simp only [bodyB,List.length_append,zaP,zhj];omega
def pageB (t n:Nat) (b:List UInt8):List UInt8:=bodyB t n b++nb 4 (extC 0 (bodyB t n b))
theorem zaF {b:List UInt8} (t n:Nat) (h:b.length≤240):(pageB t n b).length=256:=by
 rw [pageB,List.length_append,zbn t n h,zad]
def saidB (p:List UInt8):List UInt8:=(p.drop 12).take (numAt p 8 4)
def zaS (p:List UInt8) (t n:Nat):Prop:=p.length=256∧numAt p 8 4≤240∧p=pageB t n (saidB p)
theorem zcl (l m:List UInt8) (a s:Nat) (h:a+s≤l.length):numAt (l++m) a s=numAt l a s:=by
 unfold numAt;rw [List.drop_append_of_le_length (by omega),List.take_append_of_le_length (by rw [List.length_drop];omega)]
theorem zdm (l m:List UInt8) (a s:Nat) (h:a=l.length):numAt (l++m) a s=le (m.take s):=by
 unfold numAt;subst h;rw [List.drop_left]
theorem mod4 {x:Nat} (h:x<4294967296):x%256^4=x:=Nat.mod_eq_of_lt (by omega)
theorem zls (t n:Nat) (b:List UInt8) (h:b.length≤240):numAt (bodyB t n b) 8 4=b.length:=by
 rw [bodyB,zcl _ _ _ _ (by rw [zaP];omega),headB,zdm _ _ _ _ (by simp [zad]),List.take_of_length_le (by rw [zad];omega),le_nb,mod4 (by omega)]
theorem zgu (t n:Nat) (b:List UInt8) (h:b.length≤240):numAt (pageB t n b) 8 4=b.length:=by
 rw [pageB,zcl _ _ _ _ (by rw [zbn t n h];omega),zls t n b h]
theorem zmV (t n:Nat) (b:List UInt8):numAt (pageB t n b) 0 4=t%256^4:=by
 rw [pageB,bodyB,headB,List.append_assoc,List.append_assoc,List.append_assoc,zcl _ _ _ _ (by rw [zad];omega)];unfold numAt;rw [List.drop_zero,List.take_of_length_le (by rw [zad];omega),le_nb]
theorem zi5 (t n:Nat) (b:List UInt8):numAt (pageB t n b) 4 4=n%256^4:=by
 rw [pageB,bodyB,headB,List.append_assoc,List.append_assoc,zcl _ _ _ _ (by simp [zad]),zdm _ _ _ _ (by rw [zad]),List.take_of_length_le (by rw [zad];omega),le_nb]
theorem zdP (t n:Nat) (b:List UInt8) (h:b.length≤240):saidB (pageB t n b)=b:=by
 unfold saidB;rw [zgu t n b h,pageB,bodyB,List.append_assoc,List.append_assoc];rw [show (12:Nat)=(headB t n b.length).length from (zaP _ _ _).symm,List.drop_left,List.take_left]
theorem zdn {p:List UInt8} (h1:p.length=256) (h2:numAt p 8 4≤240):(saidB p).length=numAt p 8 4:=by
 unfold saidB;rw [List.length_take,List.length_drop];omega
theorem zi6 (t n:Nat) (b:List UInt8) (h:b.length≤240):zaS (pageB t n b) t n:=
 ⟨zaF t n h,by rw [zgu t n b h];exact h,by rw [zdP t n b h]⟩
instance isPageDec (p:List UInt8) (t n:Nat):Decidable (zaS p t n):=by unfold zaS;infer_instance
def tagN (nm:List UInt8):Nat:=extC 0 nm
theorem zk1 (nm:List UInt8):tagN nm<4294967296:=zcA (by decide) nm
def zas (s:Ds) (nm:List UInt8):Nat×Nat:=((sizeS s nm).1/256,(sizeS s nm).2)
def readP (s:Ds) (nm:List UInt8) (k:Int):List UInt8×Nat:=
 if k<0 then ([],1) else if (sizeS s nm).2≠0 then ([],(sizeS s nm).2) else if (sizeS s nm).1/256≤k.toNat then ([],3)
 else if zaS (readS s nm (k*256) 256).1 (tagN nm) k.toNat then (saidB (readS s nm (k*256) 256).1,0) else ([],7)
def zaG (s:Ds) (nm:List UInt8) (k:Int) (b:List UInt8):Ds×Nat:=
 if k<0 then (s,1) else if 240<b.length then (s,9) else if (sizeS s nm).2≠0 then (s,(sizeS s nm).2) else if (sizeS s nm).1/256<k.toNat then (s,1)
 else zaN s nm (k*256) (pageB (tagN nm) k.toNat b)
def openE (s:Ds) (nm:List UInt8):Nat:=if (sizeS s nm).2≠0 then (sizeS s nm).2 else if (sizeS s nm).1%256≠0 then 7 else 0
def zsc (s:Ds) (nm:List UInt8) (n:Nat):List Nat:=(List.range n).filter fun k=>decide ((readP s nm (k:Int)).2≠0)
def badP (s:Ds) (nm:List UInt8):List Nat×Nat:=if openE s nm≠0 then ([],openE s nm) else (zsc s nm ((sizeS s nm).1/256),0)
theorem zdZ {s:Ds} (h:DsOk s) (nm:List UInt8):(sizeS s nm).1≤16777216:=by
 unfold sizeS;split
 ·simp
 ·split
  ·simp
  ·cases e:getF s.l nm with
   | none=>simp
   | some f=>exact (h.files f (List.mem_of_find?_eq_some e)).size
theorem zqT {s:Ds} {nm:List UInt8} (h:(sizeS s nm).2=0):∃ f,getF s.l nm=some f∧(sizeS s nm).1=f.now.length∧∀ off n:Int,0≤off→0≤n→readS s nm off n=((f.now.drop off.toNat).take n.toNat,0):=by
 unfold sizeS at h ⊢;unfold readS;by_cases h1:s.off=true
 ·rw [if_pos h1] at h;simp at h
 ·rw [if_neg h1] at h ⊢;by_cases h2:zaf nm=false
  ·rw [if_pos h2] at h;simp at h
  ·rw [if_neg h2] at h ⊢;cases e:getF s.l nm with
   | none=>rw [e] at h;simp at h
   | some f=>
    refine ⟨f,rfl,rfl,fun off n h3 h4=>?_⟩;rw [if_neg h1,if_neg (by rintro (h5|h5|h5);exact h2 h5;omega;omega)]
def za1 (f:Fl) (k:Nat):List UInt8:=(f.now.drop (256*k)).take 256
theorem zei (f:Fl) (k j:Nat):(za1 f k)[j]? = if j<256 then f.now[256*k+j]? else none:=by
 unfold za1;rw [List.getElem?_take];split
 ·rw [List.getElem?_drop]
 ·rfl
theorem zlt {f:Fl} {k:Nat} {p:List UInt8} (hl:p.length=256) (h:∀ j,j<256→f.now[256*k+j]? = p[j]?):za1 f k=p:=by
 apply List.ext_getElem?;intro j;rw [zei];split
 ·rename_i hj;exact h j hj
 ·rw [List.getElem?_eq_none (by omega)]
theorem zmW {f g:Fl} {k:Nat} (h:∀ j,j<256→f.now[256*k+j]? = g.now[256*k+j]?):za1 f k=za1 g k:=by
 apply List.ext_getElem?;intro j;rw [zei,zei];split
 ·rename_i hj;exact h j hj
 ·rfl
def tA:Nat:=tagN [97]
def setP (ps:List (List UInt8)) (k:Nat) (b:List UInt8):List (List UInt8):=ps.take k++b::ps.drop (k+1)
theorem zdo {ps:List (List UInt8)} {k:Nat} {b:List UInt8} (h:k≤ps.length) (i:Nat):(setP ps k b)[i]? = if i=k then some b else ps[i]?:=by
 unfold setP;by_cases h1:i<k
 ·rw [List.getElem?_append_left (by rw [List.length_take];omega),List.getElem?_take,if_pos h1,if_neg (by omega)]
 ·rw [List.getElem?_append_right (by rw [List.length_take];omega),List.length_take,Nat.min_eq_left h];by_cases h2:i=k
  ·subst h2;simp
  ·rw [if_neg h2,show i-k=(i-k-1)+1 by omega,List.getElem?_cons_succ,List.getElem?_drop];congr 1
   omega
theorem zdQ {ps:List (List UInt8)} {k:Nat} {b:List UInt8} (h:k≤ps.length):(setP ps k b).length=max ps.length (k+1):=by
 unfold setP;simp only [List.length_append,List.length_take,List.length_cons,List.length_drop];omega
theorem zo0 (ps:List (List UInt8)) (b:List UInt8):setP ps ps.length b=ps++[b]:=by
 unfold setP;rw [List.take_length,List.drop_eq_nil_of_le (by omega)]
structure IsF (f:Fl) (ps:List (List UInt8)):Prop where
 name:f.name=[97]
 len:f.now.length=256*ps.length
 page:∀ k p,ps[k]? = some p→p.length≤240∧za1 f k=pageB tA k p
theorem zgv {f:Fl} {k:Nat} {b:List UInt8} (hk:256*k≤f.now.length) (hb:b.length=256):(zaU f (256*k) b).now.length=max f.now.length (256*k+256):=by
 rw [show (zaU f (256*k) b).now=layB f.now (256*k) b from rfl,zdO _ _ _ hk,hb]
theorem zfC {f:Fl} {k:Nat} {b:List UInt8} (hk:256*k≤f.now.length) (hb:b.length=256) (i:Nat):za1 (zaU f (256*k) b) i=if i=k then b else za1 f i:=by
 by_cases h:i=k
 ·subst h;rw [if_pos rfl];refine (zlt hb fun j hj=>?_);rw [show (zaU f (256*i) b).now=layB f.now (256*i) b from rfl,zi4 _ _ _ hk,if_pos ⟨by omega,by omega⟩];congr 1
  omega
 ·rw [if_neg h];refine (zmW fun j hj=>?_);rw [show (zaU f (256*k) b).now=layB f.now (256*k) b from rfl,zi4 _ _ _ hk,if_neg (by omega)]
end Go.Proofs.YtjpldnjldindkaaGreatDoor
