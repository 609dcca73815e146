/- Package extsort: advance; slices.IndexFunc and DeleteFunc over sources of which one is over. -/
import Derived.Test.YtjpldnjldindkaaGreatDoorQExtK
set_option linter.all false
set_option maxHeartbeats 0
set_option maxRecDepth 100000
namespace Go.Proofs.YtjpldnjldindkaaGreatDoor
open Go.RowKit Go.Sort
section
variable {w w':World}
def zec (w:World) (b:Nat) (left:Bool):Prop:=∃ cs,Box w b 235 cs∧cs[7]? = some (.bool left)
theorem ziK {bs:List Nat} {A:Option Addr} {n c i:Nat} (hn:n=bs.length) (hm:n≤100000) (hR:At w w.heap.size A (bs.map ptrS)) (hi:i<n) (h1:∀ j b,j<i→bs[j]? = some b→zec w b true) (h2:∀ b,bs[i]? = some b→zec w b false) :
 Calls Tryz.prog 199 #[.slice A n c, .func (.func 160) #[] #[]] w fun e w'=>e = .returned (.int .i64 (i:Int))∧w=w':=by
 have GET:=zH (show ∀ m,m<n→∃ b ad,bs[m]? = some b∧A=some ad∧w.cell? (ad.add m)=some (ptrS b) from fun m hmn=>by
  have hml:m<bs.length:=by omega
  obtain ⟨ad,e,-,hc⟩:=At.get hR (k:=m) (by rw [List.length_map];exact hml);refine ⟨bs[m],ad,zG9 hml,e,?_⟩;rw [hc,List.getElem?_map,zG9 hml];rfl)
 have H1:=zH h1;have H2:=zH h2;have hni:(n:Int)≤100000:=by omega
 obtain ⟨-,ad,-,rfl,-⟩:=GET.out i hi;clear hR h1 h2 hn;go_enter Tryz.func199,Tryz.ntmps199;go_wp2;go_loopw [8] (fun s8 wr=>∃ k:Nat,s8 = .int .i64 (k:Int)∧k≤i∧wr=w) (fun s8 _=>n-(intOf s8).toNat)
 case atStart=>exact ⟨0,rfl,Nat.zero_le _,rfl⟩
 case round=>
  obtain ⟨k,rfl,hk,rfl⟩:=hrel;have hlt':(k:Int)<(n:Int):=by omega
  obtain ⟨b,ad2,hb,e,cb⟩:=GET.out k (by omega);obtain rfl:=Option.some.inj e;by_cases hki:k=i
  ·have hL:=H2.out b (by rw [←hki];exact hb);obtain ⟨cs,hbx,hc⟩:=hL;have IO:=zH (zcs hbx hc);have HKI:=zH hki;unfold ptrS at *;clear hbx hc hki hb hk;go_wp2_with fail
   refine IO.out.mono ?_;rintro e w2 ⟨rfl,rfl⟩;go_wp2;go_ret;exact ⟨by rw [←HKI.out];rfl,rfl⟩
  ·have hL:=H1.out k b (by omega) hb;obtain ⟨cs,hbx,hc⟩:=hL;have IO:=zH (zcs hbx hc);have HKI:=zH (show k+1≤i by omega);unfold ptrS at *;clear hbx hc hki hb hk;go_wp2_with fail
   refine IO.out.mono ?_;rintro e w2 ⟨rfl,rfl⟩;go_wp2;go_roundw
   case rel=>exact ⟨k+1,rfl,HKI.out,trivial⟩
   case measure=>simp [intOf];omega
theorem Own.cutX {base n c k:Nat} {e:TypeId} {A:Option Addr} {xs:List Value} (h:Own w base e 1 (.slice A n c) n xs) (hk:k≤n):Own w base e 1 (.slice A k c) k (xs.take k):=by
 refine ⟨by rw [List.length_take,h.1];omega,?_⟩;rcases h.2 with ⟨hv,rfl⟩|⟨g',cap,cur,fz,hv,h1,h2,h3,h4,h5,h6,h7⟩
 ·injection hv with h1 h2 h3;subst h1;subst h3;obtain rfl:k=0:=(by omega);exact .inl ⟨rfl,rfl⟩
 ·injection hv with e1 e2 e3;subst e1;subst e3;exact .inr ⟨g',c,cur,fz,rfl,h1,h2,h3,by omega,h5,h6,by rw [←h7,List.take_take];congr 1;omega⟩
def delR (bs:List Nat) (i j:Nat):List Nat:=(bs.eraseIdx i).take (j-1)++bs.drop (j-1)
theorem zjT {bs:List Nat} {i j:Nat} (hi:i<bs.length) (hj:i+1≤j) (hjn:j≤bs.length):(delR bs i j).length=bs.length:=by
 unfold delR;rw [List.length_append,List.length_take,List.length_drop,List.length_eraseIdx_of_lt hi];omega
theorem zmn {bs:List Nat} {i:Nat} (hi:i<bs.length):delR bs i (i+1)=bs:=by
 unfold delR;have hl:(bs.take i).length=i:=by rw [List.length_take];omega
 rw [Nat.add_sub_cancel,List.eraseIdx_eq_take_drop_succ,List.take_append_of_le_length (by omega),List.take_of_length_le (by omega),List.take_append_drop]
theorem zqg {bs:List Nat} {i j:Nat} (hi:i<bs.length) (hj:i+1≤j) (hjn:j<bs.length):(delR bs i j)[j]? = bs[j]?:=by
 unfold delR;have hl:((bs.eraseIdx i).take (j-1)).length=j-1:=by rw [List.length_take,List.length_eraseIdx_of_lt hi];omega
 rw [List.getElem?_append_right (by rw [hl];omega),hl,List.getElem?_drop];congr 1
 omega
theorem zn7 {bs:List Nat} {i j b:Nat} (hi:i<bs.length) (hj:i+1≤j) (hjn:j<bs.length) (hb:bs[j]? = some b):(delR bs i j).set (j-1) b=delR bs i (j+1):=by
 have hl:((bs.eraseIdx i).take (j-1)).length=j-1:=by rw [List.length_take,List.length_eraseIdx_of_lt hi];omega
 have hle:(bs.eraseIdx i).length=bs.length-1:=List.length_eraseIdx_of_lt hi;have e1:(bs.eraseIdx i)[j-1]? = some b:=by
  rw [List.getElem?_eraseIdx_of_ge (by omega),show j-1+1=j by omega,hb]
 unfold delR;rw [List.set_append_right _ _ (by rw [hl];exact Nat.le_refl _),hl,Nat.sub_self];obtain ⟨y,hy⟩:∃ y,bs[j-1]? = some y:=⟨_,zG9 (by omega)⟩
 have e2:bs.drop (j-1)=y::bs.drop j:=by
  rw [List.drop_eq_getElem_cons (show j-1<bs.length by omega)];rw [zG9 (by omega)] at hy;rw [Option.some.inj hy,show j-1+1=j by omega]
 rw [e2,List.set_cons_zero,Nat.add_sub_cancel];have e3:(bs.eraseIdx i).take j=(bs.eraseIdx i).take (j-1)++[b]:=by
  have hlt:j-1<(bs.eraseIdx i).length:=by omega
  have:=List.take_succ_eq_append_getElem hlt;rw [zG9 hlt] at e1;rw [Option.some.inj e1,show j-1+1=j by omega] at this;exact this
 rw [e3,List.append_assoc];rfl
theorem zqh {bs:List Nat} {i:Nat} (hi:i<bs.length):(delR bs i bs.length).take (bs.length-1)=bs.eraseIdx i:=by
 have hle:(bs.eraseIdx i).length=bs.length-1:=List.length_eraseIdx_of_lt hi;unfold delR;rw [List.take_of_length_le (l:=bs.eraseIdx i) (by omega),List.take_append_of_le_length (by omega),List.take_of_length_le (by omega)]
theorem zhy {bs:List Nat} {base g n c i:Nat} (hn:n=bs.length) (hm:n≤100000) (hO:Own w base 232 1 (.slice (some ⟨g,0,none⟩) n c) n (bs.map ptrS)) (hi:i<n) (h1:∀ j b,j≠i→bs[j]? = some b→zec w b true) (h2:∀ b,bs[i]? = some b→zec w b false) :
 Calls Tryz.prog 161 #[.slice (some ⟨g,0,none⟩) n c, .func (.func 160) #[] #[]] w fun e w'=>e = .returned (.slice (some ⟨g,0,none⟩) (n-1) c)∧Own w' base 232 1 (.slice (some ⟨g,0,none⟩) (n-1) c) (n-1) ((bs.eraseIdx i).map ptrS)∧Only w w' (fun k=>k=g):=by
 have IX:=zH (ziK hn hm (Own.at_ hO) hi (fun j b hj hb=>h1 j b (by omega) hb) h2 (c:=c));have H1:=zH h1;have O:=zH hO;have HN:=zH hn;have HI:=zH hi;have hni:(n:Int)≤100000:=by omega
 have hii:(i:Int)<(n:Int):=by omega
 have hne:((i:Int) == -1)=false:=by rw [beq_eq_false_iff_ne];omega
 have hgt:∀ j b,bs[j]? = some b→b≠g:=fun j b hb e=>by
  have hL:zec w b true∨zec w b false:=by
   by_cases hji:j=i
   ·exact .inr (h2 b (by rw [←hji];exact hb))
   ·exact .inl (h1 j b hji hb)
  rcases hL with ⟨cs,hbx,-⟩|⟨cs,hbx,-⟩
  ·exact zbh hO hbx (by decide) (by rw [e];rfl)
  ·exact zbh hO hbx (by decide) (by rw [e];rfl)
 have GT:=zH hgt;clear hO h1 h2 hn hgt;go_enter Tryz.func161,Tryz.ntmps161;go_wp2_with fail
 refine IX.out.mono ?_;rintro e w' ⟨rfl,rfl⟩;go_wp2;go_loopw [5,6] (fun s5 s6 wr=>∃ j:Nat,s6 = .int .i64 (j:Int)∧s5 = .int .i64 ((j:Int)-1)∧i+1≤j∧j≤n∧Own wr base 232 1 (.slice (some ⟨g,0,none⟩) n c) n ((delR bs i j).map ptrS)∧Only w wr (fun k=>k=g)) (fun _ s6 _=>n-(intOf s6).toNat)
 case atStart=>exact ⟨i+1,by go_num,by simp,Nat.le_refl _,HI.out,by rw [zmn (by have:=HN.out;have:=HI.out;omega)];exact O.out,Only.refl _ _⟩
 case round=>
  obtain ⟨j,rfl,rfl,hj,hjn,ho,hon⟩:=hrel;have HO:=zH ho;have HON:=zH hon;have HJ:=zH (And.intro hj hjn);by_cases hlt:j<n
  ·have hlt':(j:Int)<(n:Int):=(by omega);obtain ⟨b,hb⟩:∃ b,bs[j]? = some b:=⟨_,zG9 (by have:=HN.out;omega)⟩
   have hdl:(delR bs i j).length=bs.length:=zjT (by have:=HN.out;omega) hj (by have:=HN.out;omega);have hdg:(delR bs i j)[j]? = some b:=by rw [zqg (by have:=HN.out;omega) hj (by have:=HN.out;omega)];exact hb
   obtain ⟨g',hg',hc,-,-⟩:=Own.cell ho (j:=j) (by rw [List.length_map,hdl];have:=HN.out;omega);have hgg:g=g':=by
    have:=Option.some.inj hg';injection this
   subst hgg;rw [List.getElem?_map,hdg] at hc;obtain ⟨g'',hg'',hc2,hf2,-⟩:=Own.cell ho (j:=j-1) (by rw [List.length_map,hdl];have:=HN.out;omega);have hgg:g=g'':=by
    have:=Option.some.inj hg'';injection this
   subst hgg;obtain ⟨k,hk⟩:∃ k,j=k+1:=(⟨j-1,by omega⟩);subst hk;rw [Nat.add_sub_cancel] at hc2 hf2;have hcv:∃ v,wr.cell? ⟨g,k,none⟩=some v∧v.oneCell'=true:=by
    have hl2:k<((delR bs i (k+1)).map ptrS).length:=by rw [List.length_map,hdl];have:=HN.out;omega
    rw [hc2,zG9 hl2];refine ⟨_,rfl,?_⟩;rw [List.getElem_map];rfl
   obtain ⟨v,hcv,-⟩:=hcv;have hb1:=H1.out (k+1) b (by omega) hb;obtain ⟨cs,hbx,h7⟩:=hb1;have IO:=zH (zcs (show Box wr b 235 cs from (hon.block b hbx.lt (GT.out _ b hb)).trans hbx) h7);have NX:=zH (show Own (wr.setCell ⟨g,k,none⟩ (ptrS b)) base 232 1 (.slice (some ⟨g,0,none⟩) n c) n ((delR bs i (k+1+1)).map ptrS) from by
    have:=ho.store (j:=k) (by rw [List.length_map,hdl];have:=HN.out;omega) (ptrS b);rw [←zn7 (by have:=HN.out;omega) hj (by have:=HN.out;omega) hb,Nat.add_sub_cancel,List.map_set];exact this)
   have NO:=zH (show Only w (wr.setCell ⟨g,k,none⟩ (ptrS b)) (fun k=>k=g) from hon.trans (za7 wr ⟨g,k,none⟩ (ptrS b)) (fun i e=>.inl e));have hk0:(0:Int)≤(k:Int):=(by omega);have hki:(k:Int)≤100000:=by omega
   have hcj:wr.cell? ⟨g,k+1,none⟩=some (ptrS b):=hc;clear ho hon hj hjn hb hdl hdg hg' hg'' hc hc2 hbx h7 hlt;unfold ptrS at *;go_wp2_with fail
   refine IO.out.mono ?_;rintro e w2 ⟨rfl,rfl⟩;go_wp2;go_roundw
   case rel=>exact ⟨k+1+1,by go_num,by go_num,by have:=HJ.out.1;omega,by omega,NX.out,NO.out⟩
   case measure=>simp [intOf];omega
  ·have hlt':¬ (j:Int)<(n:Int):=(by omega);obtain rfl:j=n:=by omega
   obtain ⟨q,hq⟩:∃ q,j=q+1:=(⟨j-1,by omega⟩);have hdl:(delR bs i j).length=bs.length:=zjT (by have:=HN.out;omega) hj (by have:=HN.out;omega);obtain ⟨g'',hg'',hc2,hf2,-⟩:=Own.cell ho (j:=q) (by rw [List.length_map,hdl];have:=HN.out;omega);have hgg:g=g'':=by
    have:=Option.some.inj hg'';injection this
   subst hgg;have hjc:j≤c:=by
    rcases ho.2 with ⟨hv,_⟩|⟨g',cap,cur,fz,hv,_,_,_,h4,_⟩
    ·cases hv
    ·injection hv with _ _ e3;rw [e3];exact h4
   have hcv:∃ v,wr.cell? ⟨g,q,none⟩=some v:=by
    have hl2:q<((delR bs i j).map ptrS).length:=by rw [List.length_map,hdl];have:=HN.out;omega
    rw [hc2,zG9 hl2];exact ⟨_,rfl⟩
   have CL:=zH (show ∀ ty sc,(Builtin.clear_ #[229] ty #[.slice (some ⟨g,q,none⟩) (j-q) sc]).run Tryz.prog wr = .ok (.tuple #[]) (wr.setCell ⟨g,q,none⟩ (.pointer none)) from fun ty sc=>by
    have h:=Lib.run_clear_slice (P:=Tryz.prog) wr 229 232 ty (.pointer none) Tryz.underlying229 Tryz.zeroValue232 rfl rfl g q 1 sc (by decide) (fun k hk=>by
     obtain rfl:k=0:=(by omega);obtain ⟨v,hv⟩:=hcv;rw [Nat.add_zero,hv];rfl) (fun k hk=>by
     obtain rfl:k=0:=(by omega);rw [Nat.add_zero];exact hf2)
    rw [show j-q=1 by omega];exact h)
   have NX:=zH (show Own (wr.setCell ⟨g,q,none⟩ (.pointer none)) base 232 1 (.slice (some ⟨g,0,none⟩) (j-1) c) (j-1) ((bs.eraseIdx i).map ptrS) from by
    have h:=(ho.store (j:=q) (by rw [List.length_map,hdl];have:=HN.out;omega) (.pointer none)).cutX (k:=j-1) (by omega);have e1:(((delR bs i j).map ptrS).set q (.pointer none)).take (j-1)=(bs.eraseIdx i).map ptrS:=by
     rw [List.take_set,List.set_eq_of_length_le (by rw [List.length_take];omega),←List.map_take,HN.out,zqh (by have:=HN.out;have:=HI.out;omega)]
    rw [e1] at h;exact h)
   have NO:=zH (show Only w (wr.setCell ⟨g,q,none⟩ (.pointer none)) (fun k=>k=g) from hon.trans (za7 wr ⟨g,q,none⟩ (.pointer none)) (fun i e=>.inl e));have hq1:(j:Int)-1=(q:Int):=(by omega);have hqc:¬ (c=q):=by omega
   have hqi:(q:Int)≤(j:Int):=(by omega);have hqc2:(q:Int)≤(c:Int):=by omega
   have hq0:(0:Int)≤(q:Int):=(by omega);have hqcc:q≤c:=by omega
   have hjq:j-1=q:=(by omega);rw [hjq] at NX;have HJQ:=zH hjq;have cl:=CL.out 0;clear ho hon hj hjn hdl hg'' hc2 hf2 hlt hcv hq CL hjq HJ;go_wp2;go_ret;rw [HJQ.out];exact ⟨rfl,NX.out,NO.out⟩
end
section
variable {K:DiskOk} {w0 w w':World} {B:PB} {S S' T:Nat→Prop} {p q:Pst} {N Q A C:Nat} {V:Vw} {ns:List (List UInt8)} {nm:List UInt8} {fb b i n:Nat} {e:Ed} {left:Bool}
def SrcBox (w:World) (b fb i n:Nat) (e:Ed) (left:Bool):Prop:=Box w b 235 (srcC fb i n e left)
theorem SrcBox.rd (h:SrcBox w b fb i n e left):RdAt w b 235 (srcC fb i n e left) fb i n:=⟨h,rfl,rfl,rfl⟩
theorem SrcBox.store (h:SrcBox w b fb i n e left) (x:Ed) (lf:Bool):SrcBox (((((w.setCell ⟨b,3,none⟩ (.int .u32 (x.t:Int))).setCell ⟨b,4,none⟩ (.int .u32 (x.h:Int))).setCell ⟨b,5,none⟩ (.int .u64 (x.x:Int))).setCell ⟨b,6,none⟩ (.int .u32 (x.m:Int))).setCell ⟨b,7,none⟩ (.bool lf)) b fb i n x lf:=by
 have:=((((Box.set h 3 (.int .u32 (x.t:Int))).set 4 (.int .u32 (x.h:Int))).set 5 (.int .u64 (x.x:Int))).set 6 (.int .u32 (x.m:Int))).set 7 (.bool lf);simpa [SrcBox,srcC] using this
theorem SrcBox.cells (h:SrcBox w b fb i n e left):(∃ v,w.cell? ⟨b,3,none⟩=some v)∧w.cell? ⟨b,3,none⟩=some (.int .u32 (e.t:Int))∧w.cell? ⟨b,4,none⟩=some (.int .u32 (e.h:Int))∧w.cell? ⟨b,5,none⟩=some (.int .u64 (e.x:Int))∧w.cell? ⟨b,6,none⟩=some (.int .u32 (e.m:Int))∧w.cell? ⟨b,7,none⟩=some (.bool left)∧
 w.frozen? ⟨b,3,none⟩=false∧w.frozen? ⟨b,4,none⟩=false∧w.frozen? ⟨b,5,none⟩=false∧w.frozen? ⟨b,6,none⟩=false∧w.frozen? ⟨b,7,none⟩=false:=
 ⟨⟨_,Box.cell h 3 rfl⟩,Box.cell h 3 rfl,Box.cell h 4 rfl,Box.cell h 5 rfl,Box.cell h 6 rfl,Box.cell h 7 rfl,Box.frozen h 3,Box.frozen h 4,Box.frozen h 5,Box.frozen h 6,Box.frozen h 7⟩
theorem ExS.put5 (h:ExS K w0 B N Q A C p V ns S w) (h1:w0.heap.size≤b) (h2:¬ S b) (x:Ed) (lf:Bool):ExS K w0 B N Q A C p V ns S (((((w.setCell ⟨b,3,none⟩ (.int .u32 (x.t:Int))).setCell ⟨b,4,none⟩ (.int .u32 (x.h:Int))).setCell ⟨b,5,none⟩ (.int .u64 (x.x:Int))).setCell ⟨b,6,none⟩ (.int .u32 (x.m:Int))).setCell ⟨b,7,none⟩ (.bool lf)):=
 ((((h.put ⟨b,3,none⟩ _ h1 h2).put ⟨b,4,none⟩ _ h1 h2).put ⟨b,5,none⟩ _ h1 h2).put ⟨b,6,none⟩ _ h1 h2).put ⟨b,7,none⟩ _ h1 h2
theorem Moves.put5 {w2:World} (h:Moves T w w2 S S') (hb:T b∨w.heap.size≤b) (x:Ed) (lf:Bool):Moves T w (((((w2.setCell ⟨b,3,none⟩ (.int .u32 (x.t:Int))).setCell ⟨b,4,none⟩ (.int .u32 (x.h:Int))).setCell ⟨b,5,none⟩ (.int .u64 (x.x:Int))).setCell ⟨b,6,none⟩ (.int .u32 (x.m:Int))).setCell ⟨b,7,none⟩ (.bool lf)) S S':=
 ((((h.put ⟨b,3,none⟩ _ hb).put ⟨b,4,none⟩ _ hb).put ⟨b,5,none⟩ _ hb).put ⟨b,6,none⟩ _ hb).put ⟨b,7,none⟩ _ hb
def AdvV (K:DiskOk) (w0:World) (B:PB) (N Q A C:Nat) (p:Pst) (V:Vw) (ns:List (List UInt8)) (S:Nat→Prop) (w:World) (b fb i:Nat) (l:List Ed) (en:Ending) (w':World):Prop:=
 ∃ (E:Nat) (q:Pst) (S':Nat→Prop),en = .returned (.int .i64 (E:Int))∧ExS K w0 B N Q A C q V ns S' w'∧Moves (fun c=>c=b) w w' S S'∧Still p q none∧
  ((E=0∧((i=l.length∧SrcBox w' b fb i l.length zE false)∨∃ x,l[i]? = some x∧SrcBox w' b fb (i+1) l.length x true))∨(E=5∧Q<4*(A*C)+4))
theorem zld (PK:PageOk) (h:ExS K w0 B N Q A C p V ns S w) (hZ:K.Z w0) (hS:Sizes w0) (hN:N≤4096) (bf:StrAt w fb B.pb nm 20) (hb:¬ S fb) {l:List Ed} (s:IsS V nm 20 (l.map edB)) (hok:∀ e∈l,EdOk e) (hl:l.length≤100000)
 (r:SrcBox w b fb i l.length e left) (hrb:¬ S b) (hr0:w0.heap.size≤b) (hi:i≤l.length) :
 Calls Tryz.prog 159 #[ptrS b] w (AdvV K w0 B N Q A C p V ns S w b fb i l):=by
 have H:=zH h;have NB:=zH (And.intro hrb hr0);have R:=zH r;unfold ptrS;by_cases hend:i=l.length
 ·have SE:=zH (zjM (show RdAt w b 235 (srcC fb i l.length e left) fb l.length l.length by have:=r.rd;exact ⟨this.box,this.c0,by rw [this.c1,hend],this.c2⟩));have HE:=zH hend;unfold edG zE at SE;clear h hZ hS hN bf hb s hok hl r hrb hr0 hi hend;go_enter Tryz.func159,Tryz.ntmps159;go_wp2_with fail
  refine SE.out.mono ?_;rintro e w2 ⟨rfl,k2⟩;have R2:SrcBox w2 b fb i l.length _ left:=Box.keep R.out k2;obtain ⟨-,d3,d4,d5,d6,d7,f3,f4,f5,f6,f7⟩:=R2.cells;have R3:=R2.store zE false;have F:=zH (show AdvV K w0 B N Q A C p V ns S w b fb i l (.returned (.int .i64 ((0:Nat):Int))) _ from
   ⟨0,p,S,rfl,(H.out.keep k2).put5 NB.out.2 NB.out.1 zE false,(Moves.of_keeps k2 (fun c=>c=b) S).put5 (.inl rfl) zE false,Still.refl _ _, .inl ⟨rfl, .inl ⟨HE.out,R3⟩⟩⟩)
  clear k2 R2 R3;unfold zE at F;go_wp2;go_ret;exact F.out
 ·have hlt:i<l.length:=(by omega);obtain ⟨x,hx⟩:∃ x,l[i]? = some x:=⟨_,zG9 hlt⟩
  have SN:=zH (zik PK h hZ hS hN bf hb s r.rd hrb hr0 hx (hok x (List.mem_of_getElem? hx)) hlt (by omega));have HX:=zH hx;clear h hZ hS hN bf hb s hok hl r hrb hr0 hi hend hx hlt;go_enter Tryz.func159,Tryz.ntmps159;go_wp2_with fail
  refine SN.out.mono ?_;rintro e w2 ⟨q2,S2,h2,m2,s2,⟨rfl,r2⟩|⟨rfl,r2,hQ⟩⟩
  ·have R2:SrcBox w2 b fb (i+1) l.length _ left:=r2.box;obtain ⟨-,d3,d4,d5,d6,d7,f3,f4,f5,f6,f7⟩:=R2.cells;have R3:=R2.store x true;have F:=zH (show AdvV K w0 B N Q A C p V ns S w b fb i l (.returned (.int .i64 ((0:Nat):Int))) _ from
    ⟨0,q2,S2,rfl,h2.put5 NB.out.2 (m2.notIn (Box.lt R.out) NB.out.1) x true,m2.put5 (.inl rfl) x true,s2, .inl ⟨rfl, .inr ⟨x,HX.out,R3⟩⟩⟩)
   clear h2 m2 s2 r2 R2 R3;unfold edG;go_wp2;go_ret;exact F.out
  ·have R2:SrcBox w2 b fb i l.length _ left:=r2.box;obtain ⟨-,d3,d4,d5,d6,d7,f3,f4,f5,f6,f7⟩:=R2.cells;have F:=zH (show AdvV K w0 B N Q A C p V ns S w b fb i l (.returned (.int .i64 ((5:Nat):Int))) _ from
    ⟨5,q2,S2,rfl,h2.put5 NB.out.2 (m2.notIn (Box.lt R.out) NB.out.1) zE false,m2.put5 (.inl rfl) zE false,s2, .inr ⟨rfl,hQ⟩⟩)
   clear h2 m2 s2 r2 R2 hQ;unfold zE at F;unfold edG zE;go_wp2;go_ret;exact F.out
end
theorem zqi:(Tryz.prog.info? 232).map (fun i=>(i.zero,i.size,i.bytes))=some (some (.pointer none),1,8):=by kernel_rfl
section
variable {K:DiskOk} {w0 w w':World} {B:PB} {S S' T:Nat→Prop} {p q:Pst} {N Q A C:Nat} {V:Vw} {ns:List (List UInt8)} {nm:List UInt8} {fb b i n sb ob made:Nat} {rv:Value} {rn:List (List UInt8)} {Rs:List (List Ed)} {ss:List Src}
theorem SrcAt.lt {s:Src} (h:SrcAt w s):s.b<w.heap.size:=Box.lt h
structure SrcsAt (w:World) (S:Nat→Prop) (pb:Nat) (ss:List Src):Prop where
 at_:∀ s∈ss,SrcAt w s∧StrAt w s.f pb s.nm 20∧¬ S s.b∧¬ S s.f
 nd:(ss.map (·.b)).Nodup
theorem SrcsAt.nil (w:World) (S:Nat→Prop) (pb:Nat):SrcsAt w S pb []:=⟨fun s hs=>by simp at hs,List.nodup_nil⟩
theorem SrcsAt.moved {pb:Nat} (h:SrcsAt w S pb ss) (m:Moves T w w' S S') (hT:∀ s∈ss,¬ T s.b∧¬ T s.f):SrcsAt w' S' pb ss:=
 ⟨fun s hs=>by
  obtain ⟨h1,h2,h3,h4⟩:=h.at_ s hs;obtain ⟨t1,t2⟩:=hT s hs;exact ⟨Box.moved h1 m h3 t1,h2.moved m h4 t2,m.notIn (Box.lt h1) h3,m.notIn h2.lt h4⟩,h.nd⟩
theorem SrcsAt.keep {pb:Nat} (h:SrcsAt w S pb ss) (k:Keeps w w'):SrcsAt w' S pb ss:=
 ⟨fun s hs=>by
  obtain ⟨h1,h2,h3,h4⟩:=h.at_ s hs;exact ⟨Box.keep h1 k,h2.keep k,h3,h4⟩,h.nd⟩
theorem SrcsAt.snoc {pb:Nat} (h:SrcsAt w S pb ss) {s:Src} (h1:SrcAt w s) (h2:StrAt w s.f pb s.nm 20) (h3:¬ S s.b) (h4:¬ S s.f) (hn:∀ t∈ss,t.b≠s.b):SrcsAt w S pb (ss++[s]):=
 ⟨fun t ht=>by
  rcases List.mem_append.1 ht with ht|ht
  ·exact h.at_ t ht
  ·rw [List.mem_singleton] at ht;subst ht;exact ⟨h1,h2,h3,h4⟩,by
  rw [List.map_append,List.nodup_append];refine ⟨h.nd,by simp,fun a ha b hb=>?_⟩;obtain ⟨t,ht,rfl⟩:=List.mem_map.1 ha;simp only [List.map_cons,List.map_nil,List.mem_singleton] at hb;rw [hb];exact hn t ht⟩
structure Runs1 (V:Vw) (hd:Bool) (l:List Ed) (ss:List Src):Prop where
 run:∀ s∈ss,RunIs V hd l s.nm s.all
def zeB (K:DiskOk) (w0:World) (B:PB) (N Q A C:Nat) (p:Pst) (V:Vw) (ns:List (List UInt8)) (S:Nat→Prop) (w:World) (Rs:List (List Ed)) (hd:Bool) (l:List Ed) (en:Ending) (w':World):Prop:=
 ∃ (E:Nat) (q:Pst) (S':Nat→Prop) (v:Value) (ss:List Src),en = .returned (.tuple #[v, .int .i64 (E:Int)])∧ExS K w0 B N Q A C q V ns S' w'∧Moves (fun _=>False) w w' S S'∧StillX (fun _=>False) p q∧
  ((E=0∧ss.map (·.all)=Rs∧(∀ s∈ss,s.pre=[])∧Runs1 V hd l ss∧SrcsAt w' S' B.pb ss∧(∀ s∈ss,w.heap.size≤s.b)∧Own w' w.heap.size 232 1 v ss.length (ss.map fun s=>ptrS s.b)∧(∀ g,v.ownBlock=some g→¬ S' g))∨(E=5∧Q<4*(A*C)+4))
theorem zjU (PK:PageOk) (h:ExS K w0 B N Q A C p V ns S w) (hZ:K.Z w0) (hS:Sizes w0) (hN:N≤4096) (r:SrtAt w sb B.pb ob rv made) (hsb:¬ S sb) {hd:Bool} {l:List Ed} (hok:∀ e∈l,EdOk e) (hl:∀ R∈Rs,R.length≤100000) (hR:RunsIs V hd l rn Rs)
 {Ar:Option Addr} {c:Nat} (hA:At w w.heap.size Ar (rn.map strV)) (hAS:∀ ad,Ar=some ad→¬ S ad.block) (hn:rn.length≤1000) :
 Calls Tryz.prog 155 #[.pointer (some ⟨sb,0,none⟩), .slice Ar rn.length c] w (zeB K w0 B N Q A C p V ns S w Rs hd l):=by
 have H:=zH h;have HZ:=zH hZ;have HS:=zH hS;have HN:=zH hN;have R:=zH r;have NSB:=zH hsb;have OK:=zH hok;have HL:=zH hl;have HR:=zH hR;have HA:=zH hA;have HAS:=zH hAS;obtain ⟨n,hn0⟩:∃ n,rn.length=n:=⟨_,rfl⟩
 have HN0:=zH hn0;rw [hn0] at hn ⊢;have hni:(n:Int)≤1000:=by omega
 obtain ⟨i0,hi,hz0,hz1,hz2⟩:=info_parts zqi;clear h hZ hS hN r hsb hok hl hR hA hAS hn0;go_enter Tryz.func155,Tryz.ntmps155;go_wp2;go_loopw [6,15] (fun v i wr=>∃ (k:Nat) (q:Pst) (S':Nat→Prop) (ss:List Src),i = .int .i64 (k:Int)∧k≤n∧ss.length=k∧ExS K w0 B N Q A C q V ns S' wr∧Moves (fun _=>False) w wr S S'∧StillX (fun _=>False) p q∧ss.map (·.all)=Rs.take k∧(∀ s∈ss,s.pre=[])∧Runs1 V hd l ss∧SrcsAt wr S' B.pb ss∧(∀ s∈ss,w.heap.size≤s.b)∧
  Own wr w.heap.size 232 1 v k (ss.map fun s=>ptrS s.b)∧(∀ g,v.ownBlock=some g→¬ S' g)) (fun _ i _=>n-(intOf i).toNat)
 case atStart=>exact ⟨0,p,S,[],rfl,Nat.zero_le _,rfl,H.out,Moves.refl _ _ _,StillX.refl _ _,rfl,fun s hs=>by simp at hs,⟨fun s hs=>by simp at hs⟩,SrcsAt.nil _ _ _,fun s hs=>by simp at hs,Own.nil _ _ _ _,fun g hg=>by simp [Value.ownBlock] at hg⟩
 case round=>
  obtain ⟨k,q,S1,ss,rfl,hk,hsl,hx,hm,hst,hall,hpre,hrun,hat,hge,hown,hnb⟩:=hrel;obtain ⟨A1,c1,rfl,hc1,-,-,-⟩:=hown.form;have HX:=zH hx;have HM:=zH hm;have HST:=zH hst;have HALL:=zH (And.intro hsl (And.intro hall hpre));have HRUN:=zH hrun;have HAT:=zH (And.intro hat hge);have HO:=zH hown;have HNB:=zH hnb;by_cases hlt:k<n
  ·have hlt':(k:Int)<(n:Int):=(by omega);have hkl:k<rn.length:=by have:=HN0.out;omega
   obtain ⟨x,hx1⟩:∃ x,rn[k]? = some x:=(⟨_,zG9 hkl⟩);obtain ⟨Rk,hRk⟩:∃ Rk,Rs[k]? = some Rk:=⟨_,zG9 (by have:=HR.out.1;omega)⟩
   have hri:=HR.out.2 k x Rk hx1 hRk;obtain ⟨ad,had,hab,hc0⟩:=At.get HA.out (k:=k) (by rw [List.length_map];exact hkl);subst had;have cx:wr.cell? (ad.add k)=some (.string (str x)):=by
    have h1:w.cell? (ad.add k)=some (.string (str x)):=by
     rw [hc0,List.getElem?_map,hx1];rfl
    have h2:=hm.block (b:=ad.block) hab (HAS.out ad rfl) id;rw [←h1];simp only [World.cell?,zbi,h2]
   have RW:=Box.moved R.out hm NSB.out id;have nsb1:¬ S1 sb:=hm.notIn (Box.lt R.out) NSB.out;have RD:=zH (ziq PK hx HZ.out HS.out HN.out RW nsb1 hri.file);have RI:=zH hri;have NSB1:=zH nsb1;have HRK:=zH hRk;clear hx hm hst hsl hall hpre hrun hat hge hown hnb hx1 hRk hri hc0 hkl RW nsb1;go_wp2_with fail
   refine RD.out.mono ?_;rintro e w2 ⟨E,m,fb,q2,S2,rfl,h2,m2,s2,b2,nf2,hfb,⟨rfl,hmn⟩|⟨rfl,rfl,hQ⟩⟩;rotate_left
   ·have F:=zH (show zeB K w0 B N Q A C p V ns S w Rs hd l (.returned (.tuple #[.slice none 0 0, .int .i64 ((5:Nat):Int)])) (w2.alloc (.cells #[.pointer (some ⟨fb,0,none⟩), .int .i64 0, .int .i64 0] 224)) from
     ⟨5,q2,S2, .slice none 0 0,[],rfl,h2.keep (zA _ _),(HM.out.then m2).keep (zA _ _),HST.out.trans (s2.x0 _), .inr ⟨rfl,hQ⟩⟩)
    clear h2 m2 s2 b2 nf2 hfb hQ cx;go_wp2;go_returns;exact F.out
   rw [List.length_map] at hmn;subst hmn;have kA:=zK (zA w2 (.cells #[.pointer (some ⟨fb,0,none⟩), .int .i64 0, .int .i64 (Rk.length:Int)] 224)) (zA _ (.cells #[.pointer (some ⟨fb,0,none⟩), .int .i64 0, .int .i64 (Rk.length:Int), .int .u32 0, .int .u32 0, .int .u64 0, .int .u32 0, .bool false] 235));have SB:SrcBox ((w2.alloc (.cells #[.pointer (some ⟨fb,0,none⟩), .int .i64 0, .int .i64 (Rk.length:Int)] 224)).alloc (.cells #[.pointer (some ⟨fb,0,none⟩), .int .i64 0, .int .i64 (Rk.length:Int), .int .u32 0, .int .u32 0, .int .u64 0, .int .u32 0, .bool false] 235)) (w2.heap.size+1) fb 0 Rk.length zE false:=by
    have:=Box.new (w2.alloc (.cells #[.pointer (some ⟨fb,0,none⟩), .int .i64 0, .int .i64 (Rk.length:Int)] 224)) 235 (srcC fb 0 Rk.length zE false);simp only [World.size_alloc] at this;exact this
   obtain ⟨b,hb⟩:∃ b,w2.heap.size+1=b:=(⟨_,rfl⟩);have HB:=zH hb;have SE:=zH (fun (s:Src) (hs:s∈ss)=>show s.b<w2.heap.size from Nat.lt_of_lt_of_le (HAT.out.1.at_ s hs).1.lt m2.size);have rc:=(Box.new w2 224 #[.pointer (some ⟨fb,0,none⟩), .int .i64 0, .int .i64 (Rk.length:Int)])
   have r0:=rc.cell 0 rfl;have r1:=rc.cell 1 rfl;have r2:=rc.cell 2 rfl;have nbS:¬ S2 b:=h2.lt (by omega);rw [hb] at SB;have b04:w0.heap.size≤b:=by have:=h2.base;omega
   have AV:=zH (zld PK (h2.keep kA) HZ.out HS.out HN.out (b2.keep kA) nf2 RI.out.file (fun e he=>OK.out e (RI.out.mem e he)) (HL.out Rk (List.mem_of_getElem? HRK.out)) SB nbS b04 (Nat.zero_le _));have hgb:w.heap.size≤b:=by have:=HM.out.size;have:=m2.size;omega
   have M4:=zH ((HM.out.then m2).keep kA);have ST4:=zH (HST.out.trans (s2.x0 (fun _=>False)));have AT4:=zH ((HAT.out.1.moved m2 (fun s hs=>⟨id,id⟩)).keep kA);have O4:=zH ((HO.out.moved m2 (fun g hg=>⟨HNB.out g hg,id⟩)).keep kA);have N4:=zH (fun g hg=>show ¬ S2 g from m2.notIn (HO.out.lt g hg).2 (HNB.out g hg));have F4:=zH (b2.keep kA);have SB4:=zH SB;have NF4:=zH (And.intro nf2 (And.intro nbS hgb));clear h2 m2 s2 b2 nf2 hfb kA SB rc nbS b04 hgb cx RD;unfold ptrS at AV;go_wp2_with fail
   refine AV.out.mono ?_;rintro e w5 ⟨E,q5,S5,rfl,h5,m5,s5,⟨rfl,hsrc⟩|⟨rfl,hQ⟩⟩;rotate_left
   ·have F:=zH (show zeB K w0 B N Q A C p V ns S w Rs hd l (.returned (.tuple #[.slice none 0 0, .int .i64 ((5:Nat):Int)])) w5 from
     ⟨5,q5,S5, .slice none 0 0,[],rfl,h5,M4.out.trans m5 (fun c e=>.inr (.inr (by rw [show c=b from e];exact NF4.out.2.2))),ST4.out.trans (s5.x0 _), .inr ⟨rfl,hQ⟩⟩)
    clear h5 m5 s5 hQ;go_wp2;go_returns;exact F.out
   have hne:=RI.out.ne;obtain ⟨xe,rest,hRk2⟩:∃ xe rest,Rk=xe::rest:=by
    cases Rk with
    | nil=>exact absurd rfl hne
    | cons y t=>exact ⟨y,t,rfl⟩
   have SX:SrcBox w5 b fb 1 Rk.length xe true:=by
    rcases hsrc with ⟨h0,-⟩|⟨y,hy,hbx⟩
    ·rw [hRk2] at h0;simp at h0
    ·rw [hRk2] at hy;simp only [List.getElem?_cons_zero,Option.some.injEq] at hy;subst hy;exact hbx
   have hsS:SrcAt w5 ⟨b,fb,x,[],xe,rest⟩:=by
    unfold SrcAt Src.cells Src.all;simp only [List.length_nil,List.nil_append,Nat.zero_add];rw [←hRk2];exact SX
   have hfb5:StrAt w5 fb B.pb x 20:=F4.out.moved m5 NF4.out.1 (fun e=>zbP F4.out SB4.out (by decide) e);have AT5:SrcsAt w5 S5 B.pb ss:=AT4.out.moved m5 (fun s hs=>⟨fun e=>by have:=SE.out s hs;have:=HB.out;have e:s.b=b:=e;omega,fun e=>zbP (AT4.out.at_ s hs).2.1 SB4.out (by decide) e⟩);have nb5:¬ S5 b:=m5.notIn (Box.lt SB4.out) NF4.out.2.1;have nf5:¬ S5 fb:=m5.notIn F4.out.lt NF4.out.1;have AT6:=zH (AT5.snoc (s:=⟨b,fb,x,[],xe,rest⟩) hsS hfb5 nb5 nf5 (fun t ht=>by have:=SE.out t ht;have:=HB.out;show t.b≠b;omega));have O5:=zH (O4.out.moved m5 (fun g hg=>⟨N4.out g hg,fun e=>zbh O4.out SB4.out (by decide) (by rw [hg,show g=b from e])⟩));have N5:=zH (fun g hg=>show ¬ S5 g from m5.notIn (O4.out.lt g hg).2 (N4.out g hg));have H5:=zH h5;have M5:=zH (M4.out.trans m5 (fun c e=>.inr (.inr (by rw [show c=b from e];exact NF4.out.2.2))));have ST5:=zH (ST4.out.trans (s5.x0 (fun _=>False)));have ALL:=zH (show (ss++[(⟨b,fb,x,[],xe,rest⟩:Src)]).map (·.all)=Rs.take (k+1) from by
    have hkR:=(zI9.1 HRK.out).1;rw [List.map_append,HALL.out.2.1,List.take_succ_eq_append_getElem hkR];congr 1
    have:=HRK.out;rw [zG9 hkR] at this;rw [Option.some.inj this,hRk2];rfl)
   have PRE:=zH (show ∀ s∈ss++[(⟨b,fb,x,[],xe,rest⟩:Src)],s.pre=[]∧RunIs V hd l s.nm s.all∧w.heap.size≤s.b from fun s hs=>by
    rcases List.mem_append.1 hs with hs|hs
    ·exact ⟨HALL.out.2.2 s hs,HRUN.out.run s hs,HAT.out.2 s hs⟩
    ·rw [List.mem_singleton] at hs;subst hs;refine ⟨rfl,?_,NF4.out.2.2⟩;show RunIs V hd l x (xe::rest);rw [←hRk2];exact RI.out)
   have LEN:=zH (show (ss++[(⟨b,fb,x,[],xe,rest⟩:Src)]).length=k+1 from by rw [List.length_append,HALL.out.1];rfl);have AT1:=zH (show At (w5.alloc (.cells #[.pointer (some ⟨b,0,none⟩)] 232)) (w5.heap.size+1) (some ⟨w5.heap.size,0,none⟩) [ptrS b] from At.new w5 [ptrS b] 232 _ (by omega));clear h5 m5 s5 hsrc hne hRk2 SX hsS hfb5 AT5 nb5 nf5 AV r0 r1 r2;go_wp2_with (at_builtin;refine zaj _ rfl _ _ 229 rfl w.heap.size 232 i0 (.pointer none) 1 8 Tryz.underlying229 hi hz0 hz1 hz2 rfl (by decide) _ k _ rfl (O5.out.keep (zA _ _)) _ _ 1 1 [ptrS b] rfl rfl AT1.out (by intro u hu;rw [List.mem_singleton] at hu;rw [hu];rfl) (by unfold maxLen;omega) (by omega) (by have:=M5.out.size;simp only [World.size_alloc];omega) ?_)
   intro v6 w6 o6 g6 b6;have kA:Keeps w5 _:=zA w5 (.cells #[.pointer (some ⟨b,0,none⟩)] 232);have H6:=zH ((H5.out.keep kA).only (zbz g6) (fun i e=>Nat.le_trans H.out.base (O5.out.lt i e).1) (fun i hi e=>N5.out i e hi));have M6:=zH ((M5.out.keep kA).grown g6 (fun g hg=>.inr (O5.out.lt g hg).1));have AT7:=zH ((AT6.out.keep kA).moved (Moves.of_only (zbz g6) S5) (fun s hs=>⟨fun e=>zbh O5.out (AT6.out.at_ s hs).1 (by decide) e,fun e=>zbh O5.out (AT6.out.at_ s hs).2.1 (by decide) e⟩));have O6:=zH (show Own w6 w.heap.size 232 1 v6 (k+1) ((ss++[(⟨b,fb,x,[],xe,rest⟩:Src)]).map fun s=>ptrS s.b) from by
    rw [List.map_append];exact o6)
   have N6:=zH (show ∀ g,v6.ownBlock=some g→¬ S5 g from fun g hg=>by
    rcases b6 with e|e
    ·exact N5.out g (e▸hg)
    ·rw [e] at hg;injection hg with hg;exact H5.out.lt (by omega))
   clear o6 g6 b6 kA H5 O5 AT6 M5;go_wp2;go_roundw
   case rel=>exact ⟨k+1,q5,S5,_,rfl,by omega,LEN.out,H6.out,M6.out,ST5.out,ALL.out,fun s hs=>(PRE.out s hs).1,⟨fun s hs=>(PRE.out s hs).2.1⟩,AT7.out,fun s hs=>(PRE.out s hs).2.2,O6.out,N6.out⟩
   case measure=>simp [intOf];omega
  ·have hlt':¬ (k:Int)<(n:Int):=(by omega);obtain rfl:k=n:=by omega
   have F:=zH (show zeB K w0 B N Q A C p V ns S w Rs hd l (.returned (.tuple #[.slice A1 k c1, .int .i64 ((0:Nat):Int)])) wr from
    ⟨0,q,S1, .slice A1 k c1,ss,rfl,hx,hm,hst, .inl ⟨rfl,by rw [hall];exact List.take_of_length_le (by have:=HR.out.1;have:=HN0.out;omega),hpre,hrun,hat,hge,by rw [hsl];exact hown,hnb⟩⟩)
   clear hx hm hst hall hpre hrun hat hge hown hnb hsl;go_wp2;go_returns;exact F.out
end
def Src.rem (s:Src):List Ed:=s.e::s.post
def totS (ss:List Src):Nat:=(ss.map fun s=>s.post.length+1).sum
theorem zjV:∀ {ss:List Src} {i:Nat} {s0 s1:Src},ss[i]? = some s0→totS (ss.set i s1)+(s0.post.length+1)=totS ss+(s1.post.length+1)
 | [],i,s0,s1,h=>by simp at h
 | s::ss,0,s0,s1,h=>by
  simp only [List.getElem?_cons_zero,Option.some.injEq] at h;subst h;simp only [List.set_cons_zero,totS,List.map_cons,List.sum_cons];omega
 | s::ss,i+1,s0,s1,h=>by
  simp only [List.getElem?_cons_succ] at h;have:=zjV (s1:=s1) h;simp only [List.set_cons_succ,totS,List.map_cons,List.sum_cons] at this ⊢;omega
theorem zgZ:∀ {ss:List Src} {i:Nat} {s0:Src},ss[i]? = some s0→totS (ss.eraseIdx i)+(s0.post.length+1)=totS ss
 | [],i,s0,h=>by simp at h
 | s::ss,0,s0,h=>by
  simp only [List.getElem?_cons_zero,Option.some.injEq] at h;subst h;simp only [List.eraseIdx_cons_zero,totS,List.map_cons,List.sum_cons];omega
 | s::ss,i+1,s0,h=>by
  simp only [List.getElem?_cons_succ] at h;have:=zgZ h;simp only [List.eraseIdx_cons_succ,totS,List.map_cons,List.sum_cons] at this ⊢;omega
theorem zf8 {ss:List Src} {i:Nat} {s1 t:Src} (h:t∈ss.set i s1):t=s1∨∃ j,j≠i∧ss[j]? = some t:=by
 obtain ⟨j,hj⟩:=List.mem_iff_getElem?.1 h;rw [List.getElem?_set] at hj;split at hj
 ·split at hj
  ·exact .inl (Option.some.inj hj).symm
  ·cases hj
 ·exact .inr ⟨j,by omega,hj⟩
theorem zg0 {ss:List Src} {i:Nat} {t:Src} (h:t∈ss.eraseIdx i):∃ j,j≠i∧ss[j]? = some t:=by
 obtain ⟨j,hj⟩:=List.mem_iff_getElem?.1 h;rw [List.getElem?_eraseIdx] at hj;split at hj
 ·exact ⟨j,by omega,hj⟩
 ·exact ⟨j+1,by omega,hj⟩
theorem zg1 {ss:List Src} {i j:Nat} {t:Src} (hj:j≠i) (h:ss[j]? = some t):t∈ss.eraseIdx i:=by
 rcases Nat.lt_or_gt_of_ne hj with hlt|hgt
 ·exact List.mem_of_getElem? (i:=j) (by rw [List.getElem?_eraseIdx_of_lt hlt];exact h)
 ·refine List.mem_of_getElem? (i:=j-1) ?_;rw [List.getElem?_eraseIdx_of_ge (by omega),show j-1+1=j by omega];exact h
theorem zqj {ss:List Src} {i j:Nat} {t s1:Src} (hj:j≠i) (h:ss[j]? = some t):t∈ss.set i s1:=
 List.mem_of_getElem? (i:=j) (by rw [List.getElem?_set_ne (Ne.symm hj)];exact h)
section
variable {hd:Bool} {M s:List Ed} {ss:List Src} {i:Nat} {s0 s1:Src}
theorem Mrg.next (h:Mrg hd M (ss.map Src.rem) s) (hi:ss[i]? = some s0) (hx:∀ u∈ss,LeE hd s0.e u.e) (h1:s1.rem=s0.post):Mrg hd M ((ss.set i s1).map Src.rem) (s++[s0.e]):=by
 have hil:=(zI9.1 hi).1;refine h.step (i:=i) (x:=s0.e) (r:=s0.post) (by rw [List.getElem?_map,hi];rfl) (fun y r' hy=>?_) (fun q hq=>?_) (fun q hq=>?_) (fun _=>?_)
 ·obtain ⟨u,hu,e⟩:=List.mem_map.1 hy;have:=hx u hu;injection e with e1 e2;rw [←e1];exact this
 ·obtain ⟨t,ht,rfl⟩:=List.mem_map.1 hq;rcases zf8 ht with rfl|⟨j,-,hj⟩
  ·exact .inr h1
  ·exact .inl (List.mem_map.2 ⟨t,List.mem_of_getElem? hj,rfl⟩)
 ·obtain ⟨j,hj,hq,-⟩:=hq;rw [List.getElem?_map] at hq;obtain ⟨t,ht,rfl⟩:=Option.map_eq_some_iff.1 hq;exact List.mem_map.2 ⟨t,zqj hj ht,rfl⟩
 ·refine List.mem_map.2 ⟨s1,?_,h1⟩;exact List.mem_of_getElem? (i:=i) (by rw [List.getElem?_set_self hil])
theorem Mrg.gone (h:Mrg hd M (ss.map Src.rem) s) (hi:ss[i]? = some s0) (hx:∀ u∈ss,LeE hd s0.e u.e) (h1:s0.post=[]):Mrg hd M ((ss.eraseIdx i).map Src.rem) (s++[s0.e]):=by
 refine h.step (i:=i) (x:=s0.e) (r:=s0.post) (by rw [List.getElem?_map,hi];rfl) (fun y r' hy=>?_) (fun q hq=>?_) (fun q hq=>?_) (fun e=>absurd h1 e)
 ·obtain ⟨u,hu,e⟩:=List.mem_map.1 hy;have:=hx u hu;injection e with e1 e2;rw [←e1];exact this
 ·obtain ⟨t,ht,rfl⟩:=List.mem_map.1 hq;obtain ⟨j,-,hj⟩:=zg0 ht;exact .inl (List.mem_map.2 ⟨t,List.mem_of_getElem? hj,rfl⟩)
 ·obtain ⟨j,hj,hq,-⟩:=hq;rw [List.getElem?_map] at hq;obtain ⟨t,ht,rfl⟩:=Option.map_eq_some_iff.1 hq;exact List.mem_map.2 ⟨t,zg1 hj ht,rfl⟩
end
section
variable {w w':World} {S S' T:Nat→Prop} {pb i:Nat} {ss:List Src} {s0 s1:Src}
theorem SrcsAt.apart (h:SrcsAt w S pb ss) (hi:ss[i]? = some s0) {j:Nat} {t:Src} (hj:j≠i) (ht:ss[j]? = some t):t.b≠s0.b:=fun e=>by
 have h1:(ss.map (·.b))[j]? = some s0.b:=by rw [List.getElem?_map,ht,←e];rfl
 have h2:(ss.map (·.b))[i]? = some s0.b:=by rw [List.getElem?_map,hi];rfl
 exact hj ((List.getElem?_inj (zI9.1 h1).1 h.nd).1 (h1.trans h2.symm))
theorem SrcsAt.far_b (h:SrcsAt w S pb ss) (hi:ss[i]? = some s0) {t:Src} (ht:t∈ss):t.f≠s0.b:=fun e=>zbP (h.at_ t ht).2.1 (h.at_ s0 (List.mem_of_getElem? hi)).1 (by decide) e
theorem SrcsAt.set (h:SrcsAt w S pb ss) (hi:ss[i]? = some s0) (m:Moves (fun c=>c=s0.b) w w' S S') (hb:s1.b=s0.b) (hf:s1.f=s0.f) (hn:s1.nm=s0.nm) (h1:SrcAt w' s1):SrcsAt w' S' pb (ss.set i s1):=by
 refine ⟨fun t ht=>?_,?_⟩
 ·rcases zf8 ht with rfl|⟨j,hj,htj⟩
  ·obtain ⟨k1,k2,k3,k4⟩:=h.at_ s0 (List.mem_of_getElem? hi);refine ⟨h1,?_,by rw [hb];exact m.notIn k1.lt k3,by rw [hf];exact m.notIn k2.lt k4⟩;rw [hf,hn];exact k2.moved m k4 (h.far_b hi (List.mem_of_getElem? hi))
  ·obtain ⟨k1,k2,k3,k4⟩:=h.at_ t (List.mem_of_getElem? htj);exact ⟨Box.moved k1 m k3 (h.apart hi hj htj),k2.moved m k4 (h.far_b hi (List.mem_of_getElem? htj)),m.notIn k1.lt k3,m.notIn k2.lt k4⟩
 ·have e:(ss.set i s1).map (·.b)=ss.map (·.b):=by
   rw [List.map_set,hb];apply List.ext_getElem?;intro k;rw [List.getElem?_set];split
   ·rename_i e;subst e;split
    ·rw [List.getElem?_map,hi];rfl
    ·rename_i hk;rw [List.getElem?_eq_none (by omega)]
   ·rfl
  rw [e];exact h.nd
theorem SrcsAt.erase (h:SrcsAt w S pb ss) (hi:ss[i]? = some s0) (m:Moves (fun c=>c=s0.b) w w' S S'):SrcsAt w' S' pb (ss.eraseIdx i):=by
 refine ⟨fun t ht=>?_,?_⟩
 ·obtain ⟨j,hj,htj⟩:=zg0 ht;obtain ⟨k1,k2,k3,k4⟩:=h.at_ t (List.mem_of_getElem? htj);exact ⟨Box.moved k1 m k3 (h.apart hi hj htj),k2.moved m k4 (h.far_b hi (List.mem_of_getElem? htj)),m.notIn k1.lt k3,m.notIn k2.lt k4⟩
 ·exact h.nd.sublist ((List.eraseIdx_sublist ss i).map (·.b))
end
theorem zf9 {hd:Bool} {l a:List Ed} (h:RiseB hd a) (hm:∀ e∈a,e∈l):a.length≤l.length:=by
 have hn:a.Nodup:=h.imp fun {x y} hxy e=>by
  rw [e,zde] at hxy;cases hxy
 have:∀ {a l:List Ed},a.Nodup→(∀ e∈a,e∈l)→a.length≤l.length:=by
  intro a;induction a with
  | nil=>intro l _ _;exact Nat.zero_le _
  | cons x a ih=>
   intro l hn hs;obtain ⟨h1,h2⟩:=List.nodup_cons.1 hn;obtain ⟨s,t,rfl⟩:=List.append_of_mem (hs x (List.mem_cons_self));have:=ih (l:=s++t) h2 (fun e he=>by
    have:=hs e (List.mem_cons_of_mem _ he);rcases List.mem_append.1 this with h3|h3
    ·exact List.mem_append_left _ h3
    ·rcases List.mem_cons.1 h3 with rfl|h3
     ·exact absurd he h1
     ·exact List.mem_append_right _ h3)
   simp only [List.length_append,List.length_cons] at this ⊢;omega
 exact this hn hm
section
variable {K:DiskOk} {w0 w w':World} {B:PB} {S S' T:Nat→Prop} {p q:Pst} {N Q A C:Nat} {V:Vw} {ns:List (List UInt8)} {nm:List UInt8} {fb wb b i n sb ob mb made base:Nat} {rv:Value} {rn:List (List UInt8)} {Rs:List (List Ed)} {ss:List Src}
theorem zrA {P:Program} (t e:TypeId) (ht:P.underlying t=some (.slice e)) (he:(P.info? e).map (·.size)=some 1) (A:Option Addr) (n c k:Nat) (hk:k≤c) (w:World) :
 (Instr.sliceAt t (.slice A n c) none (some (.int .i64 (k:Int))) none).run P w = .ok (.slice A k c) w:=by
 have he':P.elem t=e:=by simp [Program.elem,ht]
 have ht':P.underlying t=some (.slice (P.elem t)):=by rw [he'];exact ht
 obtain ⟨i,hi,hs⟩:=Option.map_eq_some_iff.1 he;rw [run_sliceAt_slice (h:=ht'),run_slice_h (ht:=ht') (h0:=by omega) (h2:=by omega)];rw [he'];cases A with
 | none=>simp [sizeOf,typeInfo,hi,hs,sliced]
 | some ad=>simp [sizeOf,typeInfo,hi,hs,sliced,Addr.add]
theorem IsS.one {V:Vw} {nm:List UInt8} {rs rs':List (List UInt8)} (h:IsS V nm 20 rs) (k:IsS V nm 20 rs') (h0:rs=[]):rs'=[]:=by
 have e:=h.file.symm.trans k.file;injection e with e;have e:=congrArg List.length e;rw [zaC,zaC,h0] at e;have h1:zak (240/20) ([]:List (List UInt8)).length=0:=by decide
 rw [h1] at e;cases rs' with
 | nil=>rfl
 | cons y t=>
  exfalso;unfold zak at e;simp only [List.length_cons] at e;omega
structure Mk (w:World) (S:Nat→Prop) (pb base sb ob made mb:Nat) (rv:Value) (rn:List (List UInt8)) (bi:Int) (wb fb:Nat) (nm:List UInt8):Prop where
 r:SrtAt w sb pb ob rv made
 o:zaz w base rv rn
 ox:Box w ob 3 #[.int .i64 bi]
 m:Box w mb 164 #[.pointer (some ⟨sb,0,none⟩)]
 f:StrAt w fb pb nm 20
 nr:¬ S sb
 no:∀ g,rv.ownBlock=some g→¬ S g
 nob:¬ S ob
 nm:¬ S mb
 nf:¬ S fb
 nw:¬ S wb
theorem Mk.keep {pb:Nat} {bi:Int} (k:Mk w S pb base sb ob made mb rv rn bi wb fb nm) (h:Keeps w w'):Mk w' S pb base sb ob made mb rv rn bi wb fb nm:=
 ⟨Box.keep k.r h,k.o.keep h,k.ox.keep h,k.m.keep h,k.f.keep h,k.nr,k.no,k.nob,k.nm,k.nf,k.nw⟩
theorem Mk.ord {pb:Nat} {bi:Int} (k:Mk w S pb base sb ob made mb rv rn bi wb fb nm):OrdAt w mb sb ob bi:=⟨k.m.cell 0 rfl,Box.cell k.r 1 rfl,k.ox.cell 0 rfl⟩
theorem Mk.moved {pb:Nat} {bi:Int} (k:Mk w S pb base sb ob made mb rv rn bi wb fb nm) (h:Moves T w w' S S') (hT:∀ c,T c→Ty w c 244∨Ty w c 235∨Ty w c 232) (hw:wb<w.heap.size):Mk w' S' pb base sb ob made mb rv rn bi wb fb nm:=by
 have ne:∀ {c:Nat} {t:TypeId},Ty w c t→t≠244→t≠235→t≠232→¬ T c:=fun hty h1 h2 h3 e=>by
  rcases hT _ e with h|h|h
  ·exact Ty.ne hty h h1 rfl
  ·exact Ty.ne hty h h2 rfl
  ·exact Ty.ne hty h h3 rfl
 exact ⟨Box.moved k.r h k.nr (ne (Box.ty k.r) (by decide) (by decide) (by decide)),k.o.moved h (fun g hg=>⟨k.no g hg,ne (RowO.ty k.o hg) (by decide) (by decide) (by decide)⟩),
  k.ox.moved h k.nob (ne k.ox.ty (by decide) (by decide) (by decide)),k.m.moved h k.nm (ne k.m.ty (by decide) (by decide) (by decide)),k.f.moved h k.nf (ne (Box.ty k.f) (by decide) (by decide) (by decide)),
  h.notIn (Box.lt k.r) k.nr,fun g hg=>h.notIn (k.o.lt g hg).2 (k.no g hg),h.notIn k.ox.lt k.nob,h.notIn k.m.lt k.nm,h.notIn k.f.lt k.nf,h.notIn hw k.nw⟩
def zff (K:DiskOk) (w0:World) (B:PB) (N Q A C:Nat) (p:Pst) (V:Vw) (ns:List (List UInt8)) (S:Nat→Prop) (w:World) (base sb ob:Nat) (rv:Value) (made:Nat) (rn:List (List UInt8)) (Rs:List (List Ed)) (hd:Bool) (n wb:Nat) (nm:List UInt8) (en:Ending) (w':World):Prop:=
 ∃ (E:Nat) (q:Pst) (S':Nat→Prop) (c:List Ed),en = .returned (.int .i64 (E:Int))∧Moves (fun c=>c=sb∨c=wb) w w' S S'∧StillX (fun x=>x∈rn∨x=nm) p q∧
  ((E=0∧RedB hd Rs.flatten c∧ExS K w0 B N Q A C q (dropV (rn.take n) (upV V nm (some (zae 12 (c.map edB))))) (dropN (rn.take n) ns) S' w'∧∃ rv',SrtAt w' sb B.pb ob rv' made∧zaz w' base rv' (rn.drop n)∧(∀ g,rv'.ownBlock=some g→¬ S' g))∨
   (E=5∧Q<4*(A*C)+4∧ExS K w0 B N Q A C q (upV V nm (some (zae 12 (c.map edB)))) ns S' w'∧SrtAt w' sb B.pb ob rv made∧zaz w' base rv rn∧(∀ g,rv.ownBlock=some g→¬ S' g)))
theorem zg2 (PK:PageOk) (h:ExS K w0 B N Q A C p V ns S w) (hZ:K.Z w0) (hS:Sizes w0) (hN:N≤4096) (r:SrtAt w sb B.pb ob rv made) (hsb:¬ S sb) (hs0:w0.heap.size≤sb) {bi:Int} (hbi:bi=0∨bi=1) (ho:Box w ob 3 #[.int .i64 bi]) (hob:¬ S ob) (o:zaz w base rv rn) (hno:∀ g,rv.ownBlock=some g→¬ S g)
 (hw:WrAt w wb fb (0,0)) (hwb:¬ S wb) (hwb0:w0.heap.size≤wb) (hf:StrAt w fb B.pb nm 20) (hfb:¬ S fb) (si:IsS V nm 20 []) (hn:n≤rn.length) (hin:∀ x∈rn,x∈ns) (hnd:rn.Nodup) (hrl:rn.length≤1000) {l:List Ed} (hR:RunsIs V (decide (bi=1)) l (rn.take n) Rs) (hok:∀ e∈l,EdOk e) (hl:l.length≤1000) (hC:l.length≤12*C) :
 Calls Tryz.prog 119 #[.pointer (some ⟨sb,0,none⟩), .int .i64 (n:Int), .pointer (some ⟨wb,0,none⟩)] w (zff K w0 B N Q A C p V ns S w base sb ob rv made rn Rs (decide (bi=1)) n wb nm):=by
 have hRml:∀ R∈Rs,(∀ e∈R,e∈l)∧RedB (decide (bi=1)) R R:=fun R hRm=>by
  obtain ⟨i,hi⟩:=List.mem_iff_getElem?.1 hRm;have hil:=(zI9.1 hi).1;have:=hR.2 i _ R (zG9 (by rw [hR.1];exact hil)) hi;exact ⟨this.mem,this.red⟩
 have hRl:∀ R∈Rs,R.length≤100000:=fun R hRm=>by
  have:=zf9 (hRml R hRm).2.rise (hRml R hRm).1;omega
 have hRn:Rs.length≤1000:=by
  rw [←hR.1,List.length_take];omega
 have htl:(rn.take n).length=n:=by rw [List.length_take];omega
 obtain ⟨RA,rc,hrv,hrc,-⟩:=o.form;subst hrv;have hat:RowO w base 9 (.slice RA n rc) n ((rn.take n).map strV):=by
  have:=RowO.take o hn;rw [←List.map_take] at this;exact this
 have hsz1:(Tryz.prog.info? 9).map (·.size)=some 1:=by kernel_rfl
 have hsl:∀ W:World,(Instr.sliceAt 74 (.slice RA rn.length rc) none (some (.int .i64 (n:Int))) none).run Tryz.prog W = .ok (.slice RA n rc) W:=fun W=>zrA (P:=Tryz.prog) 74 9 Tryz.underlying74 hsz1 RA rn.length rc n (by omega) W
 have kA:=zA w (.cells #[.pointer (some ⟨sb,0,none⟩)] 164);have MB:=Box.new w 164 #[.pointer (some ⟨sb,0,none⟩)];have SO:=zH (fun (W:World) (k:Keeps w W)=>by
  have:=zjU (rn:=rn.take n) (Rs:=Rs) (c:=rc) PK (h.keep k) hZ hS hN (Box.keep r k) hsb hok hRl hR (RowO.at_ (hat.keep k)) (fun ad e=>hno ad.block (by rw [e];rfl)) (by rw [htl];omega);rw [htl] at this;exact this)
 have DR:=zH (fun (W:World) (q:Pst) (V1:Vw) (S1:Nat→Prop) (hx:ExS K w0 B N Q A C q V1 ns S1 W) (hr:SrtAt W sb B.pb ob (.slice RA rn.length rc) made) (n1:¬ S1 sb) (ho:zaz W base (.slice RA rn.length rc) rn) (n2:∀ g,(Value.slice RA rn.length rc).ownBlock=some g→¬ S1 g)=>zn5 hx hZ hN hr n1 hs0 ho n2 hrl hn hin hnd);have MK:=(show Mk w S B.pb base sb ob made w.heap.size (.slice RA rn.length rc) rn bi wb fb nm→True from fun _=>trivial)
 have H:=zH h;have HZ:=zH hZ;have HS:=zH hS;have HN:=zH hN;have BI:=zH hbi;have WB:=zH (And.intro hw (And.intro hwb hwb0));have MK0:=zH (show Mk (w.alloc (.cells #[.pointer (some ⟨sb,0,none⟩)] 164)) S B.pb base sb ob made w.heap.size (.slice RA rn.length rc) rn bi wb fb nm from
  ⟨Box.keep r kA,o.keep kA,ho.keep kA,MB,hf.keep kA,hsb,hno,hob,h.lt (Nat.le_refl _),hfb,hwb⟩)
 have SI:=zH si;have OK:=zH hok;have HL:=zH (And.intro hl hC);have RML:=zH hRml;have HRN:=zH hRn;have KA:=zH kA;have hni:(n:Int)≤1000:=by omega
 have hnc:(n:Int)≤(rc:Int):=by omega
 have hn0:(0:Int)≤(n:Int):=by omega
 have HNR:=zH hn;have hrcm:n≤rc:=by omega
 clear hRn MK h hZ hS hN r hsb hs0 hbi ho hob o hno hw hwb hwb0 hf hfb si hn hin hnd hrl hR hok hl hC hRl hRml htl hat hsz1 kA MB hrc;go_enter Tryz.func119,Tryz.ntmps119;go_wp2_with fail
 obtain ⟨mb,hmb⟩:∃ mb,w.heap.size=mb:=⟨_,rfl⟩
 have HMB:=zH hmb;rw [hmb] at MK0 ⊢;generalize w.alloc (.cells #[.pointer (some ⟨sb,0,none⟩)] 164)=W2 at *;have SK:=zH (fun (W:World) (k:Keeps W2 W)=>show W.cell? ⟨mb,0,none⟩=some (.pointer (some ⟨sb,0,none⟩))∧W.cell? ⟨sb,2,none⟩=some (.slice RA rn.length rc) from ⟨(MK0.out.m.keep k).cell 0 rfl,(Box.keep MK0.out.r k).cell 2 rfl⟩);clear hmb;go_region_held3 (fun W=>W.cell? ⟨mb,0,none⟩=some (.pointer (some ⟨sb,0,none⟩))∧W.cell? ⟨sb,2,none⟩=some (.slice RA rn.length rc)) (first|assumption|exact SK.out _ (zD _)) (first
  | (go_at_call 155;refine (SO.out _ (zK KA.out (zD _))).mono ?_;rintro ee w3 ⟨E,q3,S3,v,ss,rfl,h3,m3,s3,hres⟩;have K3:=zH m3;have mk3:=Mk.moved (T:=fun _=>False) (MK0.out.keep (zD W2)) m3 (fun c e=>e.elim) (Nat.lt_of_lt_of_le (Box.lt WB.out.1) KA.out.size);have z3:=And.intro (mk3.m.cell 0 rfl) (Box.cell mk3.r 2 rfl);have MK3:=zH mk3;have H3:=zH h3;have ST3:=zH s3;have RES:=zH hres;clear m3 mk3 h3 s3 hres))
 clear z3;have MF:=zH (show Moves (fun _=>False) w w3 S S3 from (Moves.of_keeps (zK KA.out (zD W2)) _ S).then K3.out);have M3:=zH (show Moves (fun c=>c=sb∨c=wb) w w3 S S3 from MF.out.with2 (fun i e=>e.elim));clear SK SO K3;rcases RES.out with ⟨rfl,hall,hpre,hrun,hat,hge,hown,hnb⟩|⟨rfl,hQ⟩
 rotate_left
 ·have F:=zH (show zff K w0 B N Q A C p V ns S w base sb ob (.slice RA rn.length rc) made rn Rs (decide (bi=1)) n wb nm (.returned (.int .i64 ((5:Nat):Int))) w3 from
   ⟨5,q3,S3,[],rfl,M3.out,ST3.out.mono (fun x e=>e.elim), .inr ⟨rfl,hQ,by
    have e:upV V nm (some (zae 12 (([]:List Ed).map edB)))=V:=zf5 SI.out.file;rw [e];exact H3.out,MK3.out.r,MK3.out.o,MK3.out.no⟩⟩)
  clear hQ;go_wp2;go_ret;exact F.out
 have hrem:ss.map Src.rem=Rs:=by
  rw [←hall];refine List.map_congr_left fun s hs=>?_
  unfold Src.rem Src.all;rw [hpre s hs];rfl
 have L3:=zH (show ss.length≤1000 from by
  have h1:=congrArg List.length hrem;rw [List.length_map] at h1;have:=HRN.out;omega)
 have MR3:=zH (show Mrg (decide (bi=1)) Rs.flatten (ss.map Src.rem) [] from by
  rw [hrem];exact Mrg.first fun r hr=>(RML.out r hr).2.le)
 have RU3:=zH hrun;have AT3:=zH (And.intro hat hge);have OW3:=zH hown;have NB3:=zH hnb;have W3:=zH (show WrAt w3 wb fb (0,0) from by
  exact Box.moved WB.out.1 MF.out WB.out.2.1 id)
 have SI0:=zH (show upV V nm (some (zae 12 ((uniqE []).map edB)))=V from zf5 SI.out.file);clear hall hpre hrun hat hge hown hnb hrem RES;go_wp2;go_loopg [7] (totS ss) (fun kx v wr=>∃ (s:List Ed) (ss:List Src) (q:Pst) (S1:Nat→Prop),totS ss≤kx∧ss.length≤1000∧Mrg (decide (bi=1)) Rs.flatten (ss.map Src.rem) s∧Runs1 V (decide (bi=1)) l ss∧ExS K w0 B N Q A C q (upV V nm (some (zae 12 ((uniqE s).map edB)))) ns S1 wr∧Moves (fun c=>c=sb∨c=wb) w wr S S1∧StillX (fun x=>x∈rn∨x=nm) p q∧
  SrcsAt wr S1 B.pb ss∧(∀ s∈ss,w.heap.size≤s.b)∧Own wr w.heap.size 232 1 v ss.length (ss.map fun s=>ptrS s.b)∧(∀ g,v.ownBlock=some g→¬ S1 g)∧Mk wr S1 B.pb base sb ob made mb (.slice RA rn.length rc) rn bi wb fb nm∧WrAt wr wb fb (lastP (uniqE s))∧IsS (upV V nm (some (zae 12 ((uniqE s).map edB)))) nm 20 ((uniqE s).map edB))
 case atStart=>
  go_light
  exact ⟨[],ss,q3,S3,Nat.le_refl _,L3.out,MR3.out,RU3.out,by rw [SI0.out];exact H3.out,M3.out,ST3.out.mono (fun x e=>e.elim),AT3.out.1,fun s hs=>Nat.le_trans KA.out.size (AT3.out.2 s hs),OW3.out.base_le KA.out.size,NB3.out,MK3.out,W3.out,by rw [SI0.out];exact SI.out⟩
 case round=>
  clear MR3 RU3 H3 M3 MF ST3 AT3 OW3 NB3 MK3 W3 MK0 KA SI0;obtain ⟨s,ss,q,S1,hkx,hl1,hmr,hru,hx,hm,hst,hat,hge,hown,hnb,hmk,hwr,his⟩:=hrel;obtain ⟨A1,c1,rfl,hc1,-,-,-⟩:=hown.form;by_cases hz:ss=[]
  ·subst hz;have DC:=zH (DR.out wr q _ S1 hx hmk.r hmk.nr hmk.o hmk.no);have c0:=hmk.m.cell 0 rfl;have RD:=zH (show RedB (decide (bi=1)) Rs.flatten (uniqE s) from hmr.done (fun e he=>by
    obtain ⟨R,hR,heR⟩:=List.mem_flatten.1 he;exact (RML.out R hR).2.loop e heR))
   have HM:=zH hm;have HST:=zH hst;clear hmr hru hx hm hst hat hge hown hnb hmk hwr his hkx DR hsl;go_wp2_with fail
   refine DC.out.mono ?_;rintro e w4 ⟨q4,S4,rv4,rfl,h4,m4,s4,r4,o4,n4⟩;have F:=zH (show zff K w0 B N Q A C p V ns S w base sb ob (.slice RA rn.length rc) made rn Rs (decide (bi=1)) n wb nm (.returned (.int .i64 ((0:Nat):Int))) w4 from
    ⟨0,q4,S4,uniqE s,rfl,HM.out.then (m4.with2 (fun i e=>.inl e)),HST.out.trans (s4.mono (fun x e=>.inl e)), .inl ⟨rfl,RD.out,h4,rv4,r4,o4,n4⟩⟩)
   clear h4 m4 s4 r4 o4 n4;go_wp2;go_ret;exact F.out
  ·have hpos:0<ss.length:=List.length_pos_iff.2 hz;have MF:=zH (zkE (hd:=decide (bi=1)) (ss:=ss) (c:=c1) (cb:=#[.pointer (some ⟨mb,0,none⟩)]) rfl hpos (by omega) (Own.at_ hown) rfl (fun W k a ha c hc=>znY BI.out (hmk.ord.keep k) ((hat.at_ a ha).1.keep k) ((hat.at_ c hc).1.keep k)));obtain ⟨m,hm0⟩:∃ m,ss.length=m:=⟨_,rfl⟩
   have LEN:=zH hm0;have hmi:(0:Int)<(m:Int):=(by omega);have MR:=zH hmr;have RU:=zH hru;have HX:=zH hx;have HM:=zH hm;have HST:=zH hst;have AT:=zH (And.intro hat hge);have OW:=zH hown;have NB:=zH hnb;have MK:=zH hmk;have WR:=zH hwr;have IS:=zH his;have KX:=zH (And.intro hkx hl1);rw [hm0] at MF OW NB hc1 ⊢;clear hmr hru hx hm hst hat hge hown hnb hmk hwr his hkx hl1 DR hsl hpos hz hm0;go_wp2_with fail
   refine MF.out.mono ?_;rintro e w4 ⟨s0,hs0,rfl,hleast,g4⟩;obtain ⟨ix,hix⟩:=List.mem_iff_getElem?.1 hs0;have k4:=g4.keeps;have X4:=HX.out.keep k4;have MK4:=MK.out.keep k4;have WR4:WrAt w4 wb fb (lastP (uniqE s)):=Box.keep WR.out k4;have AT4:=AT.out.1.keep k4;have hrs0:=RU.out.run s0 hs0;have hml:s0.e∈s0.all:=by unfold Src.all;simp
   have PS:(s++[s0.e]).Pairwise (LeE (decide (bi=1))):=by
    rw [List.pairwise_append];refine ⟨MR.out.sorted,List.pairwise_singleton _ _,fun x hx y hy=>?_⟩;rw [List.mem_singleton] at hy;subst hy;exact MR.out.ahead x hx s0.rem (List.mem_map.2 ⟨s0,hs0,rfl⟩) s0.e (by unfold Src.rem;simp)
   have hsM:∀ e∈s++[s0.e],e∈l∧e.t≠e.h:=fun e he=>by
    have hM:e∈Rs.flatten:=by
     rcases List.mem_append.1 he with he|he
     ·exact (MR.out.mem e).1 (.inl he)
     ·rw [List.mem_singleton] at he;subst he;exact (MR.out.mem _).1 (.inr ⟨s0.rem,List.mem_map.2 ⟨s0,hs0,rfl⟩,by unfold Src.rem;simp⟩)
    obtain ⟨R,hR,heR⟩:=List.mem_flatten.1 hM;exact ⟨(RML.out R hR).1 e heR,(RML.out R hR).2.loop e heR⟩
   have hlen:(stepU (uniqE s) s0.e).length≤C*12:=by
    rw [←zbj];have:=zf9 (zeS (decide (bi=1)) (s++[s0.e]) PS (fun e he=>(hsM e he).2)).rise (fun e he=>(hsM e (zeR _ e he)).1);have:=HL.out.2;omega
   have PT:=zH (zjQ PK X4 HZ.out HS.out HN.out MK4.f MK4.nf WR4 MK4.nw WB.out.2.2 IS.out s0.e (OK.out s0.e (hsM s0.e (by simp)).1) hlen);obtain ⟨k1,k2,k3,k4'⟩:=AT4.at_ s0 hs0;have d3:=Box.cell k1 3 rfl;have d4:=Box.cell k1 4 rfl;have d5:=Box.cell k1 5 rfl;have d6:=Box.cell k1 6 rfl;have PSH:=zH (And.intro hs0 (And.intro hix hleast));have HR0:=zH hrs0;have HK4:=zH MK4;have HA4:=zH AT4;have HW4:=zH WR4;have HM4:=zH (HM.out.keep k4);have HO4:=zH (OW.out.keep k4);have SML:=zH hsM;clear X4 MK4 AT4 WR4 g4 k4 hrs0 hml PS hsM hlen k1 k2 k3 k4' hs0 hix hleast MF;unfold edG at PT;unfold ptrS;go_wp2_with fail
   refine PT.out.mono ?_;rintro e w5 ⟨E,q5,V5,S5,rfl,h5,m5,s5,hres⟩;have tyW:∀ c,c=wb→Ty w4 c 244:=fun c e=>by rw [e];exact Box.ty HW4.out
   have MK5:=HK4.out.moved m5 (fun c e=>.inl (tyW c e)) (Box.lt HW4.out);have M5:=HM4.out.trans m5 (fun c e=>.inr (.inl (.inr e)));have ST5:=HST.out.trans (s5.x (X:=fun x=>x∈rn∨x=nm) (.inr rfl));rcases hres with ⟨rfl,hV,hI,hW⟩|⟨rfl,hQ,hV⟩
   rotate_left
   ·subst hV;have F:=zH (show zff K w0 B N Q A C p V ns S w base sb ob (.slice RA rn.length rc) made rn Rs (decide (bi=1)) n wb nm (.returned (.int .i64 ((5:Nat):Int))) w5 from
     ⟨5,q5,S5,uniqE s,rfl,M5,ST5, .inr ⟨rfl,hQ,h5,MK5.r,MK5.o,MK5.no⟩⟩)
    clear h5 m5 s5 tyW MK5 M5 ST5 hQ d3 d4 d5 d6;go_wp2;go_ret;exact F.out
   rw [zgS,←zbj] at hV;rw [←zbj] at hI;subst hV;obtain ⟨hs0,hix,hleast⟩:=PSH.out;have AT5:SrcsAt w5 S5 B.pb ss:=HA4.out.moved m5 (fun t ht=>⟨fun e=>Ty.ne (Box.ty (HA4.out.at_ t ht).1) (tyW _ e) (by decide) rfl,fun e=>Ty.ne (Box.ty (HA4.out.at_ t ht).2.1) (tyW _ e) (by decide) rfl⟩);obtain ⟨k1,k2,k3,k4⟩:=AT5.at_ s0 hs0;have hne:s0.nm≠nm:=fun e=>HR0.out.ne (by
    have h1:=IsS.one SI.out (e▸HR0.out.file) rfl;exact List.map_eq_nil_iff.1 h1)
   have hgs:=AT.out.2 s0 hs0;have hal:s0.all.length=s0.pre.length+1+s0.post.length:=by unfold Src.all;simp;omega
   have AV:=zH (zld PK h5 HZ.out HS.out HN.out k2 k4 (HR0.out.file.beside hne) (fun e he=>OK.out e (HR0.out.mem e he)) (by have:=zf9 HR0.out.red.rise HR0.out.mem;have:=HL.out.1;omega) (show SrcBox w5 s0.b s0.f (s0.pre.length+1) s0.all.length s0.e true from k1) k3 (Nat.le_trans H.out.base hgs) (by omega));have O5:=HO4.out.moved m5 (fun g hg=>⟨NB.out g hg,fun e=>Ty.ne (HO4.out.ty hg) (tyW _ e) (by decide) rfl⟩);have N5:=fun g hg=>m5.notIn (HO4.out.lt g hg).2 (NB.out g hg)
   have K5:=zH MK5;have MM5:=zH M5;have SS5:=zH ST5;have A5:=zH AT5;have OO5:=zH O5;have NN5:=zH N5;have I5:=zH hI;have WW5:=zH hW;have GS:=zH (And.intro hgs hal);clear h5 m5 s5 tyW MK5 M5 ST5 d3 d4 d5 d6 hI hW hs0 hix hleast AT5 k1 k2 k3 k4 hne hgs hal O5 N5 PT HO4 HA4 HK4 HM4 HW4;unfold ptrS at AV;go_wp2_with fail
   refine AV.out.mono ?_;rintro e w6 ⟨E,q6,S6,rfl,h6,m6,s6,⟨rfl,hsrc⟩|⟨rfl,hQ⟩⟩;rotate_left
   ·have k1:=(A5.out.at_ s0 PSH.out.1).1;have MK6:=K5.out.moved m6 (fun c e=>.inr (.inl (by rw [show c=s0.b from e];exact Box.ty k1))) (Box.lt WW5.out);have F:=zH (show zff K w0 B N Q A C p V ns S w base sb ob (.slice RA rn.length rc) made rn Rs (decide (bi=1)) n wb nm (.returned (.int .i64 ((5:Nat):Int))) w6 from
     ⟨5,q6,S6,uniqE (s++[s0.e]),rfl,MM5.out.trans m6 (fun c e=>.inr (.inr (by rw [show c=s0.b from e];exact GS.out.1))),SS5.out.trans (s6.x0 _), .inr ⟨rfl,hQ,h6,MK6.r,MK6.o,MK6.no⟩⟩)
    clear h6 m6 s6 hQ k1 MK6;go_wp2;go_ret;exact F.out
   have k1:=(A5.out.at_ s0 PSH.out.1).1;have tyS:∀ c,c=s0.b→Ty w5 c 235:=fun c e=>by rw [e];exact Box.ty k1
   have MK6:=zH (K5.out.moved m6 (fun c e=>.inr (.inl (tyS c e))) (Box.lt WW5.out));have M6:=zH (MM5.out.trans m6 (fun c e=>.inr (.inr (by rw [show c=s0.b from e];exact GS.out.1))));have ST6:=zH (SS5.out.trans (s6.x0 (fun x=>x∈rn∨x=nm)));have W6:=zH (show WrAt w6 wb fb (lastP (uniqE (s++[s0.e]))) from by
    rw [zlm];exact Box.moved WW5.out m6 K5.out.nw (fun e=>Ty.ne (Box.ty WW5.out) (tyS _ e) (by decide) rfl))
   have O6:=zH (OO5.out.moved m6 (fun g hg=>⟨NN5.out g hg,fun e=>Ty.ne (OO5.out.ty hg) (tyS _ e) (by decide) rfl⟩));have N6:=zH (fun g hg=>show ¬ S6 g from m6.notIn (OO5.out.lt g hg).2 (NN5.out g hg));have X6:=zH h6;have A6:=zH A5;have MV6:=zH m6;clear h6 s6 k1 tyS K5 MM5 SS5 WW5 OO5 NN5 m6;rcases hsrc with ⟨hend,hbx⟩|⟨x,hx,hbx⟩
   ·have hp0:s0.post=[]:=List.eq_nil_of_length_eq_zero (by have:=GS.out.2;omega);obtain ⟨g,rfl⟩:∃ g,A1=some ⟨g,0,none⟩:=by
     rcases O6.out.2 with ⟨-,h0⟩|⟨g,cap,cur,fz,hv,-⟩
     ·exact absurd h0 (by omega)
     ·injection hv with e1 e2 e3;exact ⟨g,e1⟩
    have AE:=A6.out.erase PSH.out.2.1 MV6.out;have hil:=(zI9.1 PSH.out.2.1).1;have O6':Own w6 w.heap.size 232 1 (.slice (some ⟨g,0,none⟩) m c1) m ((ss.map (·.b)).map ptrS):=by
     have:=O6.out;rw [List.map_map];exact this
    have DF:=zH (zhy (bs:=ss.map (·.b)) (i:=ix) (by rw [List.length_map,LEN.out]) (by have:=KX.out.2;have:=LEN.out;omega) O6' (by have:=LEN.out;omega) (fun j b hj hb=>by
     rw [List.getElem?_map] at hb;obtain ⟨t,ht,rfl⟩:=Option.map_eq_some_iff.1 hb;exact ⟨_,(AE.at_ t (zg1 hj ht)).1,rfl⟩) (fun b hb=>by
     rw [List.getElem?_map,PSH.out.2.1] at hb;have hb:s0.b=b:=Option.some.inj hb;rw [←hb];exact ⟨_,hbx,rfl⟩))
    have IO:=zH (zcs (show Box w6 s0.b 235 _ from hbx) rfl);have AE6:=zH AE;have HP0:=zH hp0;have HIL:=zH hil;have OT:=zH O6';clear hend hbx hp0 AE hil O6' hmi;unfold ptrS at IO;go_wp2_with fail
    refine IO.out.mono ?_;rintro e w7 ⟨rfl,rfl⟩;go_wp2_with fail
    refine DF.out.mono ?_;rintro e w8 ⟨rfl,o8,ow8⟩;have tyG:∀ c,c=g→Ty w6 c 232:=fun c e=>by rw [e];exact OT.out.ty rfl
    have m8:=Moves.of_only ow8 S6;have X8:=zH (X6.out.only ow8 (fun i e=>by rw [show i=g from e];exact Nat.le_trans H.out.base (OT.out.lt g rfl).1) (fun i hi e=>N6.out g rfl (by rw [←show i=g from e];exact hi)));have A8:=zH (AE6.out.moved m8 (fun t ht=>⟨fun e=>Ty.ne (Box.ty (AE6.out.at_ t ht).1) (tyG _ e) (by decide) rfl,fun e=>Ty.ne (Box.ty (AE6.out.at_ t ht).2.1) (tyG _ e) (by decide) rfl⟩));have MK8:=zH (MK6.out.moved m8 (fun c e=>.inr (.inr (tyG c e))) (Box.lt W6.out));have M8:=zH (M6.out.trans m8 (fun c e=>.inr (.inr (by rw [show c=g from e];exact (OT.out.lt g rfl).1))));have W8:=zH (show WrAt w8 wb fb (lastP (uniqE (s++[s0.e]))) from Box.moved W6.out m8 MK6.out.nw (fun e=>Ty.ne (Box.ty W6.out) (tyG _ e) (by decide) rfl));have hle:(ss.eraseIdx ix).length=m-1:=by rw [List.length_eraseIdx_of_lt HIL.out,LEN.out]
    have O8:=zH (show Own w8 w.heap.size 232 1 (.slice (some ⟨g,0,none⟩) (m-1) c1) (ss.eraseIdx ix).length ((ss.eraseIdx ix).map fun s=>ptrS s.b) from by
     rw [hle];have e1:((ss.map (·.b)).eraseIdx ix).map ptrS=(ss.eraseIdx ix).map fun s=>ptrS s.b:=by
      rw [List.eraseIdx_eq_take_drop_succ,List.eraseIdx_eq_take_drop_succ];simp only [List.map_append,List.map_take,List.map_drop,List.map_map];rfl
     rw [←e1];exact o8)
    have N8:=zH (fun g' (hg':(Value.slice (some ⟨g,0,none⟩) (m-1) c1).ownBlock=some g')=>show ¬ S6 g' from N6.out g' hg');have TOT:=zH (zgZ PSH.out.2.1);have HLE:=zH hle;clear o8 ow8 tyG m8 hle;go_wp2;go_roundg (totS (ss.eraseIdx ix))
    case measure=>go_light;have:=KX.out.1;have:=TOT.out;omega
    case rel=>
     go_light
     exact ⟨s++[s0.e],ss.eraseIdx ix,q6,S6,Nat.le_refl _,by have:=HLE.out;have:=KX.out.2;have:=LEN.out;omega,MR.out.gone PSH.out.2.1 PSH.out.2.2 HP0.out,⟨fun t ht=>RU.out.run t (List.mem_of_mem_eraseIdx ht)⟩,X8.out,M8.out,ST6.out,A8.out,fun t ht=>AT.out.2 t (List.mem_of_mem_eraseIdx ht),O8.out,N8.out,MK8.out,W8.out,I5.out⟩
   ·obtain ⟨post',hp'⟩:∃ post',s0.post=x::post':=by
     unfold Src.all at hx;rw [List.getElem?_append_right (by omega),show s0.pre.length+1-s0.pre.length=1 by omega,List.getElem?_cons_succ] at hx;cases hq:s0.post with
     | nil=>rw [hq] at hx;simp at hx
     | cons y t=>
      rw [hq] at hx;simp only [List.getElem?_cons_zero,Option.some.injEq] at hx;exact ⟨t,by rw [hx]⟩
    obtain ⟨s1,hs1⟩:∃ s1:Src,s1=⟨s0.b,s0.f,s0.nm,s0.pre++[s0.e],x,post'⟩:=(⟨_,rfl⟩);have hall1:s1.all=s0.all:=by
     rw [hs1];unfold Src.all;simp only [List.append_assoc,List.singleton_append];rw [hp']
    have hsa:SrcAt w6 s1:=by
     have e1:s1.cells=srcC s0.f (s0.pre.length+1+1) s0.all.length x true:=by
      unfold Src.cells;rw [hall1,hs1];simp only [List.length_append,List.length_singleton]
     have e2:s1.b=s0.b:=(by rw [hs1]);unfold SrcAt;rw [e1,e2];exact hbx
    have AS:=zH (A6.out.set PSH.out.2.1 MV6.out (s1:=s1) (by rw [hs1]) (by rw [hs1]) (by rw [hs1]) hsa);have IO:=zH (zcs (show Box w6 s0.b 235 _ from hbx) rfl);have EB:=zH (show (ss.set ix s1).map (fun s=>ptrS s.b)=ss.map fun s=>ptrS s.b from by
     rw [List.map_set];apply List.ext_getElem?;intro k;rw [List.getElem?_set];split
     ·rename_i e;subst e;split
      ·rw [List.getElem?_map,PSH.out.2.1,hs1];rfl
      ·rename_i hk;rw [List.getElem?_eq_none (by omega)]
     ·rfl)
    have RN:=zH (MR.out.next PSH.out.2.1 PSH.out.2.2 (s1:=s1) (by rw [hs1,hp'];rfl));have RR:=zH (show ∀ t∈ss.set ix s1,RunIs V (decide (bi=1)) l t.nm t.all∧w.heap.size≤t.b from fun t ht=>by
     rcases zf8 ht with rfl|⟨j,-,hj⟩
     ·rw [hall1];refine ⟨?_,?_⟩
      ·have:=HR0.out;rw [show t.nm=s0.nm by rw [hs1]];exact this
      ·rw [show t.b=s0.b by rw [hs1]];exact GS.out.1
     ·exact ⟨RU.out.run t (List.mem_of_getElem? hj),AT.out.2 t (List.mem_of_getElem? hj)⟩)
    have TOT:=zH (zjV (s1:=s1) PSH.out.2.1);have TP:=zH (show s1.post.length<s0.post.length from by rw [hs1,hp'];simp);clear hx hbx hp' hs1 hall1 hsa;unfold ptrS at IO;go_wp2_with fail
    refine IO.out.mono ?_;rintro e w7 ⟨rfl,rfl⟩;go_wp2;go_roundg (totS (ss.set ix s1))
    case measure=>go_light;have:=KX.out.1;have:=TOT.out;have:=TP.out;omega
    case rel=>
     go_light
     exact ⟨s++[s0.e],ss.set ix s1,q6,S6,Nat.le_refl _,by rw [List.length_set];exact KX.out.2,RN.out,⟨fun t ht=>(RR.out t ht).1⟩,X6.out,M6.out,ST6.out,AS.out,fun t ht=>(RR.out t ht).2,by rw [List.length_set,EB.out,LEN.out];exact O6.out,N6.out,MK6.out,W6.out,I5.out⟩
end
end Go.Proofs.YtjpldnjldindkaaGreatDoor
