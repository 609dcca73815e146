/- A stream of a view asked for what is not there. -/
import Derived.Test.YtjmkagakdhhigaaGreatDoorQPoolFull
import Derived.Test.YtjmkagakdhhigaaGreatDoorQWeightMath
import Derived.Test.YtjmkagakdhhigaaGreatDoorQDiskMath
import Derived.Lib.ItoaNum
import Derived.Test.YtjmkagakdhhigaaGreatDoorQEdges
import Derived.Test.YtjmkagakdhhigaaGreatDoorQOctetRows
import Derived.Test.YtjmkagakdhhigaaGreatDoorQFrame
import Derived.Test.YtjmkagakdhhigaaGreatDoorQBase
set_option linter.unusedVariables false
set_option linter.unusedSimpArgs false
set_option maxRecDepth 100000
namespace Go.Proofs.YtjmkagakdhhigaaGreatDoor
open Go.RowKit
section
variable {Q A B:Nat} {p q:Pst} {V:Vw} {ns:List (List UInt8)} {nm:List UInt8} {size:Nat} {rs:List (List UInt8)}
end
def valD (l:List UInt8):Nat:=l.foldl (fun a c=>a*10+(c.toNat-48)) 0
theorem valD_snoc (l:List UInt8) (c:UInt8):valD (l++[c])=valD l*10+(c.toNat-48):=by simp [valD]
theorem digit_nat (d:Nat) (h:d<10):(UInt8.ofNat (48+d)).toNat=48+d:=by
 rw [UInt8.toNat_ofNat']
 omega
theorem valD_dec:∀ u:Nat,valD (Lib.decDigits u)=u:=by
 intro u
 induction u using Nat.strongRecOn with
 | ind u ih=>
  rw [Lib.decDigits]
  split
  · rename_i h
    simp only [valD,List.foldl_cons,List.foldl_nil]
    rw [digit_nat u h]
    omega
  · rename_i h
    rw [valD_snoc,ih (u/10) (by omega),digit_nat (u%10) (by omega)]
    omega
theorem dec_inj {a b:Nat} (h:Lib.decDigits a=Lib.decDigits b):a=b:=by rw [←valD_dec a,←valD_dec b,h]
theorem dec_chars:∀ u:Nat,∀ c∈Lib.decDigits u,48≤c.toNat∧c.toNat≤57:=by
 intro u
 induction u using Nat.strongRecOn with
 | ind u ih=>
  intro c hc
  rw [Lib.decDigits] at hc
  split at hc
  · rename_i h
    rw [List.mem_singleton] at hc
    rw [hc,digit_nat u h]
    omega
  · rename_i h
    rcases List.mem_append.1 hc with hc|hc
    · exact ih (u/10) (by omega) c hc
    · rw [List.mem_singleton] at hc
      rw [hc,digit_nat (u%10) (by omega)]
      omega
theorem dec_len:∀ (k u:Nat),u<10^(k+1)→1≤(Lib.decDigits u).length∧(Lib.decDigits u).length≤k+1
 | 0,u,h=>by
  rw [Lib.decDigits,dif_pos (by simpa using h)]
  simp
 | k+1,u,h=>by
  rw [Lib.decDigits]
  split
  · simp
  · obtain ⟨h1,h2⟩:=dec_len k (u/10) (by rw [Nat.pow_succ] at h;omega)
    rw [List.length_append,List.length_singleton]
    omega
def nmG (k:UInt8) (g:Nat):List UInt8:=[k,46]++Lib.decDigits g
theorem nmG_len (k:UInt8) {g:Nat} (hg:g≤1048576):(nmG k g).length≤9∧3≤(nmG k g).length:=by
 have:=dec_len 6 g (by omega)
 simp only [nmG,List.length_append,List.length_cons,List.length_nil]
 omega
theorem nmG_ok {k:UInt8} (hk:nameC k=true) {g:Nat} (hg:g≤1048576):nameOk (nmG k g)=true:=by
 have:=nmG_len k hg
 unfold nameOk
 rw [Bool.and_eq_true,decide_eq_true_eq,List.all_eq_true]
 refine ⟨by omega,fun c hc=>?_⟩
 simp only [nmG,List.cons_append,List.nil_append,List.mem_cons] at hc
 rcases hc with rfl|rfl|hc
 · exact hk
 · rfl
 · have:=dec_chars g c hc
   unfold nameC
   rw [decide_eq_true_eq]
   omega
theorem nmG_ne {k k':UInt8} (h:k≠k') (g g':Nat):nmG k g≠nmG k' g':=fun e=>by
 simp only [nmG,List.cons_append,List.nil_append,List.cons.injEq] at e
 exact h e.1
theorem nmG_inj {k k':UInt8} {g g':Nat} (e:nmG k g=nmG k' g'):g=g':=by
 simp only [nmG,List.cons_append,List.nil_append,List.cons.injEq] at e
 exact dec_inj e.2.2
theorem nmG_dot {k:UInt8} (h:k≠116) (g:Nat):(nmG k g).take 2≠[116,46]:=fun e=>by
 simp only [nmG,List.cons_append,List.nil_append,List.take_succ_cons,List.take_zero,List.cons.injEq] at e
 exact h e.1
theorem nmG_len1 (k:UInt8) (g:Nat) (c:UInt8):nmG k g≠[c]:=fun e=>by
 simp only [nmG,List.cons_append,List.nil_append,List.cons.injEq] at e
 exact absurd e.2 (by simp)
def endE (hd:Bool) (e:Ed):Nat:=if hd=true then e.h else e.t
theorem end_rise {hd:Bool} {a b:Ed} (h:ahB hd a b=true):endE hd a≤endE hd b:=by
 rw [ahB_true] at h
 unfold endE
 cases hd
 · simp only [Bool.false_eq_true,if_false] at h ⊢
   omega
 · simp only [if_true] at h ⊢
   omega
def outE (hd:Bool) (v:Nat) (a:List Ed):List Ed:=a.filter fun e=>decide (endE hd e=v)
theorem outE_none {hd:Bool} {v:Nat} {a:List Ed} (h:∀ e∈a,endE hd e≠v):outE hd v a=[]:=by
 unfold outE
 rw [List.filter_eq_nil_iff]
 intro e he
 simp [h e he]
theorem outE_next {hd:Bool} {v:Nat} {a:List Ed} {j:Nat} {x:Ed} (hx:a[j]? = some x) (h:endE hd x=v):outE hd v (a.take (j+1))=outE hd v (a.take j)++[x]:=by
 obtain ⟨h1,h2⟩:=List.getElem?_eq_some_iff.1 hx
 rw [List.take_succ_eq_append_getElem h1,h2]
 unfold outE
 rw [List.filter_append,List.filter_cons,if_pos (by simp [h]),List.filter_nil]
theorem rise_at {hd:Bool} {a:List Ed} (h:RiseB hd a) {i j:Nat} (hij:i≤j) {x y:Ed} (hx:a[i]? = some x) (hy:a[j]? = some y):endE hd x≤endE hd y:=by
 by_cases e:i=j
 · subst e
   rw [hx] at hy
   rw [Option.some.inj hy]
   exact Nat.le_refl _
 · obtain ⟨h1,e1⟩:=List.getElem?_eq_some_iff.1 hx
   obtain ⟨h2,e2⟩:=List.getElem?_eq_some_iff.1 hy
   have:=(List.pairwise_iff_getElem.1 h) i j h1 h2 (by omega)
   rw [e1,e2] at this
   exact end_rise this
structure LowE (hd:Bool) (v:Nat) (a:List Ed) (b e:Nat):Prop where
 le:b≤e
 top:e≤a.length
 lo:∀ i x,i<b→a[i]? = some x→endE hd x<v
 hi:∀ i x,e≤i→a[i]? = some x→v≤endE hd x
section
variable {hd:Bool} {v:Nat} {a:List Ed} {b e m:Nat} {x:Ed}
theorem LowE.start (hd:Bool) (v:Nat) (a:List Ed):LowE hd v a 0 a.length:=⟨Nat.zero_le _,Nat.le_refl _,fun i x h=>by omega,fun i x h hx=>by
 have:=(List.getElem?_eq_some_iff.1 hx).1
 omega⟩
theorem LowE.up (h:LowE hd v a b e) (r:RiseB hd a) (hm:b≤m∧m<e) (hx:a[m]? = some x) (ht:¬ v≤endE hd x):LowE hd v a (m+1) e:=
 ⟨by omega,h.top,fun i y hi hy=>by
  have:=rise_at r (show i≤m by omega) hy hx
  omega,h.hi⟩
theorem LowE.down (h:LowE hd v a b e) (r:RiseB hd a) (hm:b≤m∧m<e) (hx:a[m]? = some x) (ht:v≤endE hd x):LowE hd v a b m:=
 ⟨by omega,by have:=h.top;omega,h.lo,fun i y hi hy=>Nat.le_trans ht (rise_at r hi hx hy)⟩
theorem LowE.begin (h:LowE hd v a b b):outE hd v (a.take b)=[]:=outE_none fun y hy=>by
 obtain ⟨i,hi⟩:=List.getElem?_of_mem hy
 rw [List.getElem?_take] at hi
 split at hi
 · rename_i hb
   have:=h.lo i y hb hi
   omega
 · cases hi
theorem LowE.stop (h:LowE hd v a b b) (r:RiseB hd a) (hm:b≤m) (hx:a[m]? = some x) (ht:endE hd x≠v):outE hd v a=outE hd v (a.take m):=by
 conv=>lhs;rw [←List.take_append_drop m a]
 unfold outE
 rw [List.filter_append]
 have:(a.drop m).filter (fun e=>decide (endE hd e=v))=[]:=outE_none fun y hy=>by
  obtain ⟨i,hi⟩:=List.getElem?_of_mem hy
  rw [List.getElem?_drop] at hi
  have h1:=h.hi m x hm hx
  have h2:=rise_at r (show m≤m+i by omega) hx hi
  omega
 rw [this,List.append_nil]
end
theorem outE_len (hd:Bool) (v:Nat) (a:List Ed):(outE hd v a).length≤a.length:=List.length_filter_le _ _
structure Vt where
 r:Nat
 l:Nat
 g:Nat
structure VtOk (x:Vt):Prop where
 r:x.r<4294967296
 l:x.l<4294967296
 g:x.g<4294967296
section
variable {K:DiskOk} {w0 w w':World} {B:PB} {S S':Nat→Prop} {p q:Pst} {N Q A C sb size:Nat} {V:Vw} {ns:List (List UInt8)} {nm:List UInt8} {rs:List (List UInt8)}
def Stays (K:DiskOk) (w0:World) (B:PB) (N Q A C:Nat) (p:Pst) (V:Vw) (ns:List (List UInt8)) (S:Nat→Prop) (w w':World):Prop:=
 ∃ (q:Pst) (S':Nat→Prop),ExS K w0 B N Q A C q V ns S' w'∧Turns w w' S S'∧Still p q none
theorem y_open (h:ExS K w0 B N Q A C p V ns S w) (hZ:K.Z w0) (s:IsS V nm size rs) :
 Calls Tryz.prog 13 #[.pointer (some ⟨B.pb,0,none⟩), .string (str nm), .int .i64 (size:Int)] w fun e w'=>∃ sb,e = .returned (.tuple #[.pointer (some ⟨sb,0,none⟩), .int .i64 0])∧StrAt w' sb B.pb nm size∧w.heap.size≤sb∧Keeps w w':=by
 have e0:openT p nm size=0:=by
  have:=s.siz
  unfold openT
  rw [if_neg (by omega),h.tid.find s.file]
 have OP:=sopen_any h.pj hZ h.runs (by omega) (h.len24 s) size
 rw [e0] at OP
 refine OP.mono ?_
 rintro e w' ⟨k,⟨-,-,-,sb,rfl,hs,hl⟩|⟨hne,-⟩⟩
 · exact ⟨sb,rfl,hs,hl,k⟩
 · exact absurd rfl hne
theorem y_len (PK:PageOk) (h:ExS K w0 B N Q A C p V ns S w) (hZ:K.Z w0) (hS:Sizes w0) (hN:N≤4096) (hQ:4*(A*C)+4≤Q) (b:StrAt w sb B.pb nm size) (hb:¬ S sb) (s:IsS V nm size rs) :
 Calls Tryz.prog 14 #[.pointer (some ⟨sb,0,none⟩)] w fun e w'=>e = .returned (.tuple #[.int .i64 (rs.length:Int), .int .i64 0])∧Stays K w0 B N Q A C p V ns S w w':=by
 refine (x_len PK h hZ hS hN b hb s).mono ?_
 rintro e w' ⟨E,n,q,S',rfl,hx,t,st,⟨rfl,rfl⟩|⟨-,-,hbad⟩⟩
 · exact ⟨rfl,q,S',hx,t,st⟩
 · omega
theorem y_get (PK:PageOk) (h:ExS K w0 B N Q A C p V ns S w) (hZ:K.Z w0) (hS:Sizes w0) (hN:N≤4096) (hQ:4*(A*C)+4≤Q) (b:StrAt w sb B.pb nm size) (hb:¬ S sb) (s:IsS V nm size rs) (i:Nat) (hi:IsI (i:Int)) {r:List UInt8} (hr:rs[i]? = some r) :
 Calls Tryz.prog 15 #[.pointer (some ⟨sb,0,none⟩), .int .i64 (i:Int)] w fun e w'=>∃ v,e = .returned (.tuple #[v, .int .i64 0])∧Own w' w.heap.size 5 1 v r.length (cel r)∧Stays K w0 B N Q A C p V ns S w w':=by
 refine (x_get PK h hZ hS hN b hb s i hi hr).mono ?_
 rintro e w' ⟨E,t,q,v,S',rfl,o,-,hx,tu,st,⟨rfl,rfl⟩|⟨-,-,hbad⟩⟩
 · exact ⟨v,rfl,o,q,S',hx,tu,st⟩
 · omega
theorem y_add (PK:PageOk) (h:ExS K w0 B N Q A C p V ns S w) (hZ:K.Z w0) (hS:Sizes w0) (hN:N≤4096) (hQ:4*(A*C)+4≤Q) (b:StrAt w sb B.pb nm size) (hb:¬ S sb) (s:IsS V nm size rs) {Ar:Option Addr} {nr cr:Nat} {r:List UInt8} (hr:Bs w Ar r) (hF:∀ ad,Ar=some ad→¬ S ad.block) (hnr:nr=r.length) (hrl:r.length=size) (hC:rs.length<C*(240/size)) :
 Calls Tryz.prog 44 #[.pointer (some ⟨sb,0,none⟩), .slice Ar nr cr] w fun e w'=>∃ q V' S',e = .returned (.int .i64 0)∧ExS K w0 B N Q A C q V' ns S' w'∧Turns w w' S S'∧Still p q (some nm)∧V'=upV V nm (some (pagesS (240/size) (rs++[r])))∧IsS V' nm size (rs++[r]):=by
 refine (x_add PK h hZ hS hN b hb s hr hF hnr hrl hC).mono ?_
 rintro e w' ⟨E,q,V',S',rfl,hx,tu,st,⟨rfl,hV,hs⟩|⟨-,hbad,-⟩⟩
 · exact ⟨q,V',S',rfl,hx,tu,st,hV,hs⟩
 · omega
theorem y_flush (PK:PageOk) (h:ExS K w0 B N Q A C p V ns S w) (hZ:K.Z w0) (hS:Sizes w0) (hQ:4*(A*C)+4≤Q) (hm:nm∈ns) :
 Calls Tryz.prog 46 #[.pointer (some ⟨B.pb,0,none⟩), .string (str nm)] w fun e w'=>∃ q S',e = .returned (.int .i64 0)∧ExS K w0 B N Q A C q V ns S' w'∧Turns w w' S S'∧Still p q (some nm)∧Tidy q nm:=by
 refine (x_flush PK h hZ hS hm).mono ?_
 rintro e w' ⟨E,q,S',rfl,hx,tu,st,⟨rfl,ht⟩|⟨-,hbad⟩⟩
 · exact ⟨q,S',rfl,hx,tu,st,ht⟩
 · omega
end
def vtC (x:Vt):List Value:=[.int .u32 (x.r:Int), .int .u32 (x.l:Int), .int .u32 (x.g:Int)]
def vtsC (l:List Vt):List Value:=l.flatMap vtC
def vtA (x:Vt):Array Value:=#[.int .u32 (x.r:Int), .int .u32 (x.l:Int), .int .u32 (x.g:Int)]
def vtB (x:Vt):List UInt8:=vertB x.r x.l x.g
theorem vtB_len (x:Vt):(vtB x).length=12:=vertB_length _ _ _
def VtIn (W:World) (p:Addr) (x:Vt):Prop:=W.cell? p=some (.int .u32 (x.r:Int))∧W.cell? ⟨p.block,p.off+1,none⟩=some (.int .u32 (x.l:Int))∧W.cell? ⟨p.block,p.off+2,none⟩=some (.int .u32 (x.g:Int))
theorem vtC_length (x:Vt):(vtC x).length=3:=rfl
theorem vts_at {W:World} {B:Nat} {A:Option Addr} {l:List Vt} (h:At W B A (vtsC l)) {k:Nat} {x:Vt} (hk:l[k]? = some x):∃ ad,A=some ad∧ad.block<B∧VtIn W (ad.add (k*3)) x:=by
 have hl:k<l.length:=(List.getElem?_eq_some_iff.1 hk).1
 have g:∀ j,j<3→(vtsC l)[k*3+j]? = (vtC x)[j]?:=fun j hj=>by
  unfold vtsC
  rw [flatMap_get vtC 3 vtC_length l hj,hk]
  rfl
 rcases h with h|⟨ad,rfl,hb,hc⟩
 · have:=flatMap_length vtC 3 vtC_length l
   unfold vtsC at h
   rw [h] at this
   simp at this
   omega
 · refine ⟨ad,rfl,hb,hc _ _ (g 0 (by decide)),?_,?_⟩
   · rw [←add_pos _ 1 (by decide),addr_add];exact hc _ _ (g 1 (by decide))
   · rw [←add_pos _ 2 (by decide),addr_add];exact hc _ _ (g 2 (by decide))
open Go.ChangeShapes Go.WideShapes Go.ChangeAt
theorem flat_vert:flat Tryz.prog 6 74=some [39,39,39]:=by kernel_rfl
theorem cells_vert:Tryz.prog.cellsOf 74=[39,39,39].length:=by kernel_rfl
theorem verts_of {H:Type} {enc:TypeId×Value→H} {W:World} {A:Option Addr} {n c:Nat} {d:DataW H} {p:List MemPlace} (hT:DataW.Trod enc Tryz.prog W 0 (fun _=>true) true 47 (.slice A n c) d p) :
 ∃ l:List Vt,n=l.length∧n≤c∧c≤maxLen∧At W W.heap.size A (l.flatMap vtC)∧∀ e∈l,VtOk e:=by
 obtain ⟨fuel,hf⟩:=hT
 obtain ⟨h1,h2,h3,h4⟩:=flat_slice Tryz.underlying47 flat_vert cells_vert ⟨fuel,_,hf⟩
 obtain ⟨l,hl,hq⟩:=list_of (Q:=fun i (e:Vt)=>VtOk e∧∃ ad,A=some ad∧∀ j u,(vtC e)[j]? = some u→W.cell? (ad.add (i*3+j))=some u) n fun i hi=>by
  obtain ⟨ad,rfl,hc⟩:=h4 i hi
  obtain ⟨c0,hc0,lf0⟩:=hc 0 39 rfl
  obtain ⟨z0,rfl,q0⟩:=lf0.int Tryz.underlying39
  obtain ⟨x0,rfl,m0⟩:=nat_u32 q0
  obtain ⟨c1,hc1,lf1⟩:=hc 1 39 rfl
  obtain ⟨z1,rfl,q1⟩:=lf1.int Tryz.underlying39
  obtain ⟨x1,rfl,m1⟩:=nat_u32 q1
  obtain ⟨c2,hc2,lf2⟩:=hc 2 39 rfl
  obtain ⟨z2,rfl,q2⟩:=lf2.int Tryz.underlying39
  obtain ⟨x2,rfl,m2⟩:=nat_u32 q2
  refine ⟨⟨x0,x1,x2⟩,⟨m0,m1,m2⟩,ad,rfl,fun j u hu=>?_⟩
  have hj:j<3:=by have:=(List.getElem?_eq_some_iff.1 hu).1;simpa [vtC] using this
  rcases (show j=0∨j=1∨j=2 by omega) with rfl|rfl|rfl
  · obtain rfl:=Option.some.inj hu;exact hc0
  · obtain rfl:=Option.some.inj hu;exact hc1
  · obtain rfl:=Option.some.inj hu;exact hc2
 refine ⟨l,hl.symm,h1,h2,?_,fun e he=>?_⟩
 · rcases A with _|ad
   · obtain ⟨rfl,_⟩:=h3 rfl
     left
     have:l=[]:=List.eq_nil_of_length_eq_zero hl
     subst this
     rfl
   · refine at_rows vtC 3 (fun _=>rfl) (by decide) l hl ad (fun _=>rfl) fun i x hx=>?_
     obtain ⟨_,ad',e',hc⟩:=hq i x hx
     obtain rfl:=Option.some.inj e'
     exact hc
 · obtain ⟨i,hi⟩:=List.getElem?_of_mem he
   exact (hq i e hi).1
end Go.Proofs.YtjmkagakdhhigaaGreatDoor
