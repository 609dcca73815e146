/- A stream of a view asked for what is not there. -/
import Derived.Test.YtjpldnjldindkaaGreatDoorQPoolFull
import Derived.Test.YtjpldnjldindkaaGreatDoorQFrame
set_option linter.all false
set_option maxRecDepth 100000
namespace Go.Proofs.YtjpldnjldindkaaGreatDoor
open Go.RowKit
section
variable {Q A B:Nat} {p q:Pst} {V:Vw} {ns:List (List UInt8)} {nm:List UInt8} {size:Nat} {rs:List (List UInt8)}
theorem znU (h:Tid Q A B p V ns) {ps:List (List UInt8)} (hV:V nm=some ps) {k:Nat} (hk:ps.length≤k):zai p nm (k:Int)=(p,[],3):=by
 have e:getP p nm (k:Int)=(p,0,3):=by
  unfold getP;rw [h.find hV];simp only;rw [if_neg (by simp),if_neg (by omega),if_pos (by rw [Int.toNat_natCast];exact hk)]
 unfold zai;rw [e];simp
theorem Tid.seat_no (h:Tid Q A B p V ns) (hQ:4*(A*B)+4≤Q) (s:IsS V nm size rs) {i:Int} (hi:i<0∨rs.length≤i.toNat) :
 (seatT p nm size i).2.2.2=(if i<0 then 1 else 3)∧Tid Q A B (seatT p nm size i).1 V ns∧Still p (seatT p nm size i).1 none:=by
 have hp:=zbG s.siz;unfold seatT;by_cases h0:i<0
 ·rw [if_pos h0,if_pos h0];exact ⟨rfl,h,Still.refl _ _⟩
 ·rw [if_neg h0,if_neg h0];simp only;have hi:rs.length≤i.toNat:=(by omega);by_cases hk:zak (240/size) rs.length≤i.toNat/(240/size)
  ·rw [znU h s.file (by rw [zaC];exact hk)];simp only;rw [if_pos (by decide)];exact ⟨rfl,h,Still.refl _ _⟩
  ·have hk:i.toNat/(240/size)<zak (240/size) rs.length:=(by omega);obtain ⟨r1,r2,r3⟩:=h.page s hk;obtain ⟨w1,w0,w2⟩:=s.whole hk;have hm:=Nat.div_add_mod i.toNat (240/size);have hc:i.toNat/(240/size)*(240/size)=(240/size)*(i.toNat/(240/size)):=Nat.mul_comm _ _;have hle:(zay (240/size) rs (i.toNat/(240/size))).flatten.length≤i.toNat%(240/size)*size:=by
    rw [zcc (per:=240/size) s.recs];exact Nat.mul_le_mul_right _ (by omega)
   generalize zai p nm ((i.toNat/(240/size):Nat):Int)=q at *;obtain ⟨q1,q2,q3⟩:=q;simp only at r1 r2 r3 ⊢;rcases r1 with r1|⟨-,hbad⟩
   ·injection r1 with e1 e2;subst e1;subst e2;rw [if_neg (by simp),if_neg (by omega),if_pos hle];exact ⟨rfl,r2,r3⟩
   ·omega
theorem Tid.get_no (h:Tid Q A B p V ns) (hQ:4*(A*B)+4≤Q) (s:IsS V nm size rs) {i:Int} (hi:i<0∨rs.length≤i.toNat) :
 (getT p nm size i).2=([],if i<0 then 1 else 3)∧Tid Q A B (getT p nm size i).1 V ns∧Still p (getT p nm size i).1 none:=by
 obtain ⟨h1,h2,h3⟩:=h.seat_no hQ s hi;unfold getT;simp only;have hne:(seatT p nm size i).2.2.2≠0:=by
  rw [h1];split<;>decide
 rw [if_pos hne,h1];exact ⟨rfl,h2,h3⟩
end
def valD (l:List UInt8):Nat:=l.foldl (fun a c=>a*10+(c.toNat-48)) 0
theorem zih (d:Nat) (h:d<10):(UInt8.ofNat (48+d)).toNat=48+d:=by
 rw [UInt8.toNat_ofNat'];omega
theorem znV:∀ u:Nat,∀ c∈Lib.decDigits u,48≤c.toNat∧c.toNat≤57:=by
 intro u;induction u using Nat.strongRecOn with
 | ind u ih=>
  intro c hc;rw [Lib.decDigits] at hc;split at hc
  ·rename_i h;rw [List.mem_singleton] at hc;rw [hc,zih u h];omega
  ·rename_i h;rcases List.mem_append.1 hc with hc|hc
   ·exact ih (u/10) (by omega) c hc
   ·rw [List.mem_singleton] at hc;rw [hc,zih (u%10) (by omega)];omega
theorem zea:∀ (k u:Nat),u<10^(k+1)→1≤(Lib.decDigits u).length∧(Lib.decDigits u).length≤k+1
 | 0,u,h=>by
  rw [Lib.decDigits,dif_pos (by simpa using h)];simp
 | k+1,u,h=>by
  rw [Lib.decDigits];split
  ·simp
  ·obtain ⟨h1,h2⟩:=zea k (u/10) (by rw [Nat.pow_succ] at h;omega);rw [List.length_append,List.length_singleton];omega
def nmG (k:UInt8) (g:Nat):List UInt8:=[k,46]++Lib.decDigits g
theorem zfw (k:UInt8) {g:Nat} (hg:g≤1048576):(nmG k g).length≤9∧3≤(nmG k g).length:=by
 have:=zea 6 g (by omega);simp only [nmG,List.length_append,List.length_cons,List.length_nil];omega
theorem zjJ {k:UInt8} (hk:nameC k=true) {g:Nat} (hg:g≤1048576):zaf (nmG k g)=true:=by
 have:=zfw k hg;unfold zaf;rw [Bool.and_eq_true,decide_eq_true_eq,List.all_eq_true];refine ⟨by omega,fun c hc=>?_⟩;simp only [nmG,List.cons_append,List.nil_append,List.mem_cons] at hc;rcases hc with rfl|rfl|hc
 ·exact hk
 ·rfl
 ·have:=znV g c hc;unfold nameC;rw [decide_eq_true_eq];omega
theorem zjK {k k':UInt8} (h:k≠k') (g g':Nat):nmG k g≠nmG k' g':=fun e=>by
 simp only [nmG,List.cons_append,List.nil_append,List.cons.injEq] at e;exact h e.1
theorem zhw {k:UInt8} (h:k≠116) (g:Nat):(nmG k g).take 2≠[116,46]:=fun e=>by
 simp only [nmG,List.cons_append,List.nil_append,List.take_succ_cons,List.take_zero,List.cons.injEq] at e;exact h e.1
theorem zcL (k:UInt8) (g:Nat) (c:UInt8):nmG k g≠[c]:=fun e=>by
 simp only [nmG,List.cons_append,List.nil_append,List.cons.injEq] at e;exact absurd e.2 (by simp)
def endE (hd:Bool) (e:Ed):Nat:=if hd=true then e.h else e.t
theorem zp6 {hd:Bool} {a b:Ed} (h:ahB hd a b=true):endE hd a≤endE hd b:=by
 rw [zcz] at h;unfold endE;cases hd
 ·simp only [Bool.false_eq_true,if_false] at h ⊢;omega
 ·simp only [if_true] at h ⊢;omega
def outE (hd:Bool) (v:Nat) (a:List Ed):List Ed:=a.filter fun e=>decide (endE hd e=v)
theorem zii {hd:Bool} {v:Nat} {a:List Ed} (h:∀ e∈a,endE hd e≠v):outE hd v a=[]:=by
 unfold outE;rw [List.filter_eq_nil_iff];intro e he;simp [h e he]
theorem zdH {hd:Bool} {v:Nat} {a:List Ed} {j:Nat} {x:Ed} (hx:a[j]? = some x) (h:endE hd x=v):outE hd v (a.take (j+1))=outE hd v (a.take j)++[x]:=by
 obtain ⟨h1,h2⟩:=zI9.1 hx;rw [List.take_succ_eq_append_getElem h1,h2];unfold outE;rw [List.filter_append,List.filter_cons,if_pos (by simp [h]),List.filter_nil]
theorem zhx {hd:Bool} {a:List Ed} (h:RiseB hd a) {i j:Nat} (hij:i≤j) {x y:Ed} (hx:a[i]? = some x) (hy:a[j]? = some y):endE hd x≤endE hd y:=by
 by_cases e:i=j
 ·subst e;rw [hx] at hy;rw [Option.some.inj hy];exact Nat.le_refl _
 ·obtain ⟨h1,e1⟩:=zI9.1 hx;obtain ⟨h2,e2⟩:=zI9.1 hy;have:=(List.pairwise_iff_getElem.1 h) i j h1 h2 (by omega);rw [e1,e2] at this;exact zp6 this
structure LowE (hd:Bool) (v:Nat) (a:List Ed) (b e:Nat):Prop where
 le:b≤e
 top:e≤a.length
 lo:∀ i x,i<b→a[i]? = some x→endE hd x<v
 hi:∀ i x,e≤i→a[i]? = some x→v≤endE hd x
section
variable {hd:Bool} {v:Nat} {a:List Ed} {b e m:Nat} {x:Ed}
theorem LowE.start (hd:Bool) (v:Nat) (a:List Ed):LowE hd v a 0 a.length:=⟨Nat.zero_le _,Nat.le_refl _,fun i x h=>by omega,fun i x h hx=>by
 have:=(zI9.1 hx).1;omega⟩
theorem LowE.up (h:LowE hd v a b e) (r:RiseB hd a) (hm:b≤m∧m<e) (hx:a[m]? = some x) (ht:¬ v≤endE hd x):LowE hd v a (m+1) e:=
 ⟨by omega,h.top,fun i y hi hy=>by
  have:=zhx r (show i≤m by omega) hy hx;omega,h.hi⟩
theorem LowE.down (h:LowE hd v a b e) (r:RiseB hd a) (hm:b≤m∧m<e) (hx:a[m]? = some x) (ht:v≤endE hd x):LowE hd v a b m:=
 ⟨by omega,by have:=h.top;omega,h.lo,fun i y hi hy=>Nat.le_trans ht (zhx r hi hx hy)⟩
theorem LowE.begin (h:LowE hd v a b b):outE hd v (a.take b)=[]:=zii fun y hy=>by
 obtain ⟨i,hi⟩:=List.getElem?_of_mem hy;rw [List.getElem?_take] at hi;split at hi
 ·rename_i hb;have:=h.lo i y hb hi;omega
 ·cases hi
theorem LowE.stop (h:LowE hd v a b b) (r:RiseB hd a) (hm:b≤m) (hx:a[m]? = some x) (ht:endE hd x≠v):outE hd v a=outE hd v (a.take m):=by
 conv=>lhs;rw [←List.take_append_drop m a]
 unfold outE;rw [List.filter_append];have:(a.drop m).filter (fun e=>decide (endE hd e=v))=[]:=zii fun y hy=>by
  obtain ⟨i,hi⟩:=List.getElem?_of_mem hy;rw [List.getElem?_drop] at hi;have h1:=h.hi m x hm hx;have h2:=zhx r (show m≤m+i by omega) hx hi;omega
 rw [this,List.append_nil]
end
theorem outE_mem {hd:Bool} {v:Nat} {a:List Ed} {x:Ed}:x∈outE hd v a↔x∈a∧endE hd x=v:=by
 unfold outE;rw [List.mem_filter,decide_eq_true_eq]
theorem zij {hd hd':Bool} {v:Nat} {a:List Ed} (h:RiseB hd a):RiseB hd (outE hd' v a):=h.sublist List.filter_sublist
theorem zcM (hd:Bool) (v:Nat) (a:List Ed):(outE hd v a).length≤a.length:=List.length_filter_le _ _
structure Vt where
 r:Nat
 l:Nat
 g:Nat
structure VtOk (x:Vt):Prop where
 r:x.r<4294967296
 l:x.l<4294967296
 g:x.g<4294967296
section
variable {K:DiskOk} {w0 w w':World} {B:PB} {S S':Nat→Prop} {p q:Pst} {N Q A C sb size:Nat} {V:Vw} {ns:List (List UInt8)} {nm:List UInt8} {rs:List (List UInt8)}
def Stays (K:DiskOk) (w0:World) (B:PB) (N Q A C:Nat) (p:Pst) (V:Vw) (ns:List (List UInt8)) (S:Nat→Prop) (w w':World):Prop:=
 ∃ (q:Pst) (S':Nat→Prop),ExS K w0 B N Q A C q V ns S' w'∧Turns w w' S S'∧Still p q none
theorem zgR (h:ExS K w0 B N Q A C p V ns S w) (hZ:K.Z w0) (s:IsS V nm size rs) :
 Calls Tryz.prog 48 #[.pointer (some ⟨B.pb,0,none⟩), .string (str nm), .int .i64 (size:Int)] w fun e w'=>∃ sb,e = .returned (.tuple #[.pointer (some ⟨sb,0,none⟩), .int .i64 0])∧StrAt w' sb B.pb nm size∧w.heap.size≤sb∧Keeps w w':=by
 have e0:openT p nm size=0:=by
  have:=s.siz;unfold openT;rw [if_neg (by omega),h.tid.find s.file]
 have OP:=zcZ h.pj hZ h.runs (by omega) (h.len24 s) size;rw [e0] at OP;refine OP.mono ?_;rintro e w' ⟨k,⟨-,-,-,sb,rfl,hs,hl⟩|⟨hne,-⟩⟩
 ·exact ⟨sb,rfl,hs,hl,k⟩
 ·exact absurd rfl hne
theorem y_len (PK:PageOk) (h:ExS K w0 B N Q A C p V ns S w) (hZ:K.Z w0) (hS:Sizes w0) (hN:N≤4096) (hQ:4*(A*C)+4≤Q) (b:StrAt w sb B.pb nm size) (hb:¬ S sb) (s:IsS V nm size rs) :
 Calls Tryz.prog 43 #[.pointer (some ⟨sb,0,none⟩)] w fun e w'=>e = .returned (.tuple #[.int .i64 (rs.length:Int), .int .i64 0])∧Stays K w0 B N Q A C p V ns S w w':=by
 refine (x_len PK h hZ hS hN b hb s).mono ?_;rintro e w' ⟨E,n,q,S',rfl,hx,t,st,⟨rfl,rfl⟩|⟨-,-,hbad⟩⟩
 ·exact ⟨rfl,q,S',hx,t,st⟩
 ·omega
theorem y_get (PK:PageOk) (h:ExS K w0 B N Q A C p V ns S w) (hZ:K.Z w0) (hS:Sizes w0) (hN:N≤4096) (hQ:4*(A*C)+4≤Q) (b:StrAt w sb B.pb nm size) (hb:¬ S sb) (s:IsS V nm size rs) (i:Nat) (hi:IsI (i:Int)) {r:List UInt8} (hr:rs[i]? = some r) :
 Calls Tryz.prog 41 #[.pointer (some ⟨sb,0,none⟩), .int .i64 (i:Int)] w fun e w'=>∃ v,e = .returned (.tuple #[v, .int .i64 0])∧Own w' w.heap.size 5 1 v r.length (cel r)∧Stays K w0 B N Q A C p V ns S w w':=by
 refine (x_get PK h hZ hS hN b hb s i hi hr).mono ?_;rintro e w' ⟨E,t,q,v,S',rfl,o,-,hx,tu,st,⟨rfl,rfl⟩|⟨-,-,hbad⟩⟩
 ·exact ⟨v,rfl,o,q,S',hx,tu,st⟩
 ·omega
theorem zp7 (PK:PageOk) (h:ExS K w0 B N Q A C p V ns S w) (hZ:K.Z w0) (hS:Sizes w0) (hN:N≤4096) (hQ:4*(A*C)+4≤Q) (b:StrAt w sb B.pb nm size) (hb:¬ S sb) (s:IsS V nm size rs) (i:Int) (hi:IsI i) (hr:i<0∨rs.length≤i.toNat) :
 Calls Tryz.prog 41 #[.pointer (some ⟨sb,0,none⟩), .int .i64 i] w fun e w'=>∃ v,e = .returned (.tuple #[v, .int .i64 ((if i<0 then 1 else 3:Nat):Int)])∧Own w' w.heap.size 5 1 v 0 []∧Stays K w0 B N Q A C p V ns S w w':=by
 have R:=h.runs.getS h.pj.dok nm size i;refine (zjG PK h.pj hZ hS h.runs hN (by omega) b hb (h.len24 s) s.siz i hi).mono ?_;rintro e w' ⟨v,he,ho,S',h1,h2,h3⟩;obtain ⟨h4,t1,h5⟩:=h.tid.get_no hQ s hr;rw [h4] at he ho;exact ⟨v,he,ho,_,S',⟨h1,R.flat t1,t1,(zhv _ _ _ _).trans h.pk⟩,h2,h5⟩
theorem y_add (PK:PageOk) (h:ExS K w0 B N Q A C p V ns S w) (hZ:K.Z w0) (hS:Sizes w0) (hN:N≤4096) (hQ:4*(A*C)+4≤Q) (b:StrAt w sb B.pb nm size) (hb:¬ S sb) (s:IsS V nm size rs) {Ar:Option Addr} {nr cr:Nat} {r:List UInt8} (hr:Bs w Ar r) (hF:∀ ad,Ar=some ad→¬ S ad.block) (hnr:nr=r.length) (hrl:r.length=size) (hC:rs.length<C*(240/size)) :
 Calls Tryz.prog 49 #[.pointer (some ⟨sb,0,none⟩), .slice Ar nr cr] w fun e w'=>∃ q V' S',e = .returned (.int .i64 0)∧ExS K w0 B N Q A C q V' ns S' w'∧Turns w w' S S'∧Still p q (some nm)∧V'=upV V nm (some (zae (240/size) (rs++[r])))∧IsS V' nm size (rs++[r]):=by
 refine (x_add PK h hZ hS hN b hb s hr hF hnr hrl hC).mono ?_;rintro e w' ⟨E,q,V',S',rfl,hx,tu,st,⟨rfl,hV,hs⟩|⟨-,hbad,-⟩⟩
 ·exact ⟨q,V',S',rfl,hx,tu,st,hV,hs⟩
 ·omega
theorem zrt (PK:PageOk) (h:ExS K w0 B N Q A C p V ns S w) (hZ:K.Z w0) (hS:Sizes w0) (hQ:4*(A*C)+4≤Q) (hm:nm∈ns) :
 Calls Tryz.prog 121 #[.pointer (some ⟨B.pb,0,none⟩), .string (str nm)] w fun e w'=>∃ q S',e = .returned (.int .i64 0)∧ExS K w0 B N Q A C q V ns S' w'∧Turns w w' S S'∧Still p q (some nm)∧Tidy q nm:=by
 refine (zlb PK h hZ hS hm).mono ?_;rintro e w' ⟨E,q,S',rfl,hx,tu,st,⟨rfl,ht⟩|⟨-,hbad⟩⟩
 ·exact ⟨q,S',rfl,hx,tu,st,ht⟩
 ·omega
end
def vtC (x:Vt):List Value:=[.int .u32 (x.r:Int), .int .u32 (x.l:Int), .int .u32 (x.g:Int)]
def vtsC (l:List Vt):List Value:=l.flatMap vtC
def vtA (x:Vt):Array Value:=#[.int .u32 (x.r:Int), .int .u32 (x.l:Int), .int .u32 (x.g:Int)]
def vtB (x:Vt):List UInt8:=vertB x.r x.l x.g
theorem zcN (x:Vt):(vtB x).length=12:=ziZ _ _ _
theorem zp8 {x:Vt} (h:VtOk x):numAt (vtB x) 0 4=x.r∧numAt (vtB x) 4 4=x.l∧numAt (vtB x) 8 4=x.g:=⟨zqM _ _ _ h.r,zqN _ _ _ h.l,zqO _ _ _ h.g⟩
def VtIn (W:World) (p:Addr) (x:Vt):Prop:=W.cell? p=some (.int .u32 (x.r:Int))∧W.cell? ⟨p.block,p.off+1,none⟩=some (.int .u32 (x.l:Int))∧W.cell? ⟨p.block,p.off+2,none⟩=some (.int .u32 (x.g:Int))
theorem VtIn.keep {W V:World} {p:Addr} {x:Vt} (h:VtIn W p x) (k:Keeps W V):VtIn V p x:=⟨k.cellOf h.1,k.cellOf h.2.1,k.cellOf h.2.2⟩
theorem zex (x:Vt):(vtC x).length=3:=rfl
theorem zjL {W:World} {B:Nat} {A:Option Addr} {l:List Vt} (h:At W B A (vtsC l)) {k:Nat} {x:Vt} (hk:l[k]? = some x):∃ ad,A=some ad∧ad.block<B∧VtIn W (ad.add (k*3)) x:=by
 have hl:k<l.length:=(zI9.1 hk).1;have g:∀ j,j<3→(vtsC l)[k*3+j]? = (vtC x)[j]?:=fun j hj=>by
  unfold vtsC;rw [zaZ vtC 3 zex l hj,hk];rfl
 rcases h with h|⟨ad,rfl,hb,hc⟩
 ·have:=zcy vtC 3 zex l;unfold vtsC at h;rw [h] at this;simp at this;omega
 ·refine ⟨ad,rfl,hb,hc _ _ (g 0 (by decide)),?_,?_⟩
  ·rw [←zdY _ 1 (by decide),zcw];exact hc _ _ (g 1 (by decide))
  ·rw [←zdY _ 2 (by decide),zcw];exact hc _ _ (g 2 (by decide))
open Go.ChangeShapes Go.WideShapes Go.ChangeAt
theorem znW:flat Tryz.prog 6 55=some [26,26,26]:=by kernel_rfl
theorem zmj:Tryz.prog.cellsOf 55=[26,26,26].length:=by kernel_rfl
theorem zp9 {H:Type} {enc:TypeId×Value→H} {W:World} {A:Option Addr} {n c:Nat} {d:DataW H} {p:List MemPlace} (hT:DataW.Trod enc Tryz.prog W 0 (fun _=>true) true 23 (.slice A n c) d p) :
 ∃ l:List Vt,n=l.length∧n≤c∧c≤maxLen∧At W W.heap.size A (l.flatMap vtC)∧∀ e∈l,VtOk e:=by
 obtain ⟨fuel,hf⟩:=hT;obtain ⟨h1,h2,h3,h4⟩:=zgf Tryz.underlying23 znW zmj ⟨fuel,_,hf⟩;obtain ⟨l,hl,hq⟩:=zkR (Q:=fun i (e:Vt)=>VtOk e∧∃ ad,A=some ad∧∀ j u,(vtC e)[j]? = some u→W.cell? (ad.add (i*3+j))=some u) n fun i hi=>by
  obtain ⟨ad,rfl,hc⟩:=h4 i hi;obtain ⟨c0,hc0,lf0⟩:=hc 0 26 rfl;obtain ⟨z0,rfl,q0⟩:=lf0.int Tryz.underlying26;obtain ⟨x0,rfl,m0⟩:=zcC q0;obtain ⟨c1,hc1,lf1⟩:=hc 1 26 rfl;obtain ⟨z1,rfl,q1⟩:=lf1.int Tryz.underlying26;obtain ⟨x1,rfl,m1⟩:=zcC q1;obtain ⟨c2,hc2,lf2⟩:=hc 2 26 rfl;obtain ⟨z2,rfl,q2⟩:=lf2.int Tryz.underlying26;obtain ⟨x2,rfl,m2⟩:=zcC q2;refine ⟨⟨x0,x1,x2⟩,⟨m0,m1,m2⟩,ad,rfl,fun j u hu=>?_⟩;have hj:j<3:=by have:=(zI9.1 hu).1;simpa [vtC] using this
  rcases (show j=0∨j=1∨j=2 by omega) with rfl|rfl|rfl
  ·obtain rfl:=Option.some.inj hu;exact hc0
  ·obtain rfl:=Option.some.inj hu;exact hc1
  ·obtain rfl:=Option.some.inj hu;exact hc2
 refine ⟨l,hl.symm,h1,h2,?_,fun e he=>?_⟩
 ·rcases A with _|ad
  ·obtain ⟨rfl,_⟩:=h3 rfl;left;have:l=[]:=List.eq_nil_of_length_eq_zero hl;subst this;rfl
  ·refine (zkS vtC 3 (fun _=>rfl) (by decide) l hl ad (fun _=>rfl) fun i x hx=>?_);obtain ⟨_,ad',e',hc⟩:=hq i x hx;obtain rfl:=Option.some.inj e';exact hc
 ·obtain ⟨i,hi⟩:=List.getElem?_of_mem he;exact (hq i e hi).1
end Go.Proofs.YtjpldnjldindkaaGreatDoor
