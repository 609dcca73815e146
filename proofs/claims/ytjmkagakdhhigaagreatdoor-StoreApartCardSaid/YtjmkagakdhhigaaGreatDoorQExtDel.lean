/- Package extsort: advance; slices.IndexFunc and DeleteFunc over sources of which one is over. -/
import Derived.Test.YtjmkagakdhhigaaGreatDoorQRowO
import Derived.Test.YtjmkagakdhhigaaGreatDoorQExtA
import Derived.Test.YtjmkagakdhhigaaGreatDoorQExtB
import Derived.Test.YtjmkagakdhhigaaGreatDoorQExtK
set_option linter.unusedVariables false
set_option linter.unusedSimpArgs false
set_option maxRecDepth 100000
namespace Go.Proofs.YtjmkagakdhhigaaGreatDoor
open Go.RowKit Go.Sort
section
variable {w w':World}
def LeftAt (w:World) (b:Nat) (left:Bool):Prop:=∃ cs,Box w b 218 cs∧cs[7]? = some (.bool left)
set_option maxHeartbeats 8000000 in
theorem indexFunc_any {bs:List Nat} {A:Option Addr} {n c i:Nat} (hn:n=bs.length) (hm:n≤100000) (hR:At w w.heap.size A (bs.map ptrS)) (hi:i<n) (h1:∀ j b,j<i→bs[j]? = some b→LeftAt w b true) (h2:∀ b,bs[i]? = some b→LeftAt w b false) :
 Calls Tryz.prog 175 #[.slice A n c, .func (.func 141) #[] #[]] w fun e w'=>e = .returned (.int .i64 (i:Int))∧w=w':=by
 have GET:=zH (show ∀ m,m<n→∃ b ad,bs[m]? = some b∧A=some ad∧w.cell? (ad.add m)=some (ptrS b) from fun m hmn=>by
  have hml:m<bs.length:=by omega
  obtain ⟨ad,e,-,hc⟩:=At.get hR (k:=m) (by rw [List.length_map];exact hml)
  refine ⟨bs[m],ad,List.getElem?_eq_getElem hml,e,?_⟩
  rw [hc,List.getElem?_map,List.getElem?_eq_getElem hml];rfl)
 have H1:=zH h1
 have H2:=zH h2
 have hni:(n:Int)≤100000:=by omega
 obtain ⟨-,ad,-,rfl,-⟩:=GET.out i hi
 clear hR h1 h2 hn
 go_enter Tryz.func175,Tryz.ntmps175
 go_wp2_with fail
 go_loopw [8] (fun s8 wr=>∃ k:Nat,s8 = .int .i64 (k:Int)∧k≤i∧wr=w) (fun s8 _=>n-(intOf s8).toNat)
 case atStart=>exact ⟨0,rfl,Nat.zero_le _,rfl⟩
 case round=>
  obtain ⟨k,rfl,hk,rfl⟩:=hrel
  have hlt':(k:Int)<(n:Int):=by omega
  obtain ⟨b,ad2,hb,e,cb⟩:=GET.out k (by omega)
  obtain rfl:=Option.some.inj e
  by_cases hki:k=i
  · have hL:=H2.out b (by rw [←hki];exact hb)
    obtain ⟨cs,hbx,hc⟩:=hL
    have IO:=zH (isOver_any hbx hc)
    have HKI:=zH hki
    unfold ptrS at *
    clear hbx hc hki hb hk
    go_wp2_with fail
    refine IO.out.mono ?_
    rintro e w2 ⟨rfl,rfl⟩
    go_wp2_with fail
    go_ret
    exact ⟨by rw [←HKI.out];rfl,rfl⟩
  · have hL:=H1.out k b (by omega) hb
    obtain ⟨cs,hbx,hc⟩:=hL
    have IO:=zH (isOver_any hbx hc)
    have HKI:=zH (show k+1≤i by omega)
    unfold ptrS at *
    clear hbx hc hki hb hk
    go_wp2_with fail
    refine IO.out.mono ?_
    rintro e w2 ⟨rfl,rfl⟩
    go_wp2_with fail
    go_roundw
    case rel=>exact ⟨k+1,rfl,HKI.out,trivial⟩
    case measure=>simp [intOf];omega
theorem Own.cutX {base n c k:Nat} {e:TypeId} {A:Option Addr} {xs:List Value} (h:Own w base e 1 (.slice A n c) n xs) (hk:k≤n):Own w base e 1 (.slice A k c) k (xs.take k):=by
 refine ⟨by rw [List.length_take,h.1];omega,?_⟩
 rcases h.2 with ⟨hv,rfl⟩|⟨g',cap,cur,fz,hv,h1,h2,h3,h4,h5,h6,h7⟩
 · injection hv with h1 h2 h3
   subst h1
   subst h3
   obtain rfl:k=0:=by omega
   exact .inl ⟨rfl,rfl⟩
 · injection hv with e1 e2 e3
   subst e1
   subst e3
   exact .inr ⟨g',c,cur,fz,rfl,h1,h2,h3,by omega,h5,h6,by rw [←h7,List.take_take];congr 1;omega⟩
def delR (bs:List Nat) (i j:Nat):List Nat:=(bs.eraseIdx i).take (j-1)++bs.drop (j-1)
theorem delR_len {bs:List Nat} {i j:Nat} (hi:i<bs.length) (hj:i+1≤j) (hjn:j≤bs.length):(delR bs i j).length=bs.length:=by
 unfold delR
 rw [List.length_append,List.length_take,List.length_drop,List.length_eraseIdx_of_lt hi]
 omega
theorem delR_start {bs:List Nat} {i:Nat} (hi:i<bs.length):delR bs i (i+1)=bs:=by
 unfold delR
 have hl:(bs.take i).length=i:=by rw [List.length_take];omega
 rw [Nat.add_sub_cancel,List.eraseIdx_eq_take_drop_succ,List.take_append_of_le_length (by omega),List.take_of_length_le (by omega),List.take_append_drop]
theorem delR_get {bs:List Nat} {i j:Nat} (hi:i<bs.length) (hj:i+1≤j) (hjn:j<bs.length):(delR bs i j)[j]? = bs[j]?:=by
 unfold delR
 have hl:((bs.eraseIdx i).take (j-1)).length=j-1:=by rw [List.length_take,List.length_eraseIdx_of_lt hi];omega
 rw [List.getElem?_append_right (by rw [hl];omega),hl,List.getElem?_drop]
 congr 1
 omega
theorem delR_next {bs:List Nat} {i j b:Nat} (hi:i<bs.length) (hj:i+1≤j) (hjn:j<bs.length) (hb:bs[j]? = some b):(delR bs i j).set (j-1) b=delR bs i (j+1):=by
 have hl:((bs.eraseIdx i).take (j-1)).length=j-1:=by rw [List.length_take,List.length_eraseIdx_of_lt hi];omega
 have hle:(bs.eraseIdx i).length=bs.length-1:=List.length_eraseIdx_of_lt hi
 have e1:(bs.eraseIdx i)[j-1]? = some b:=by
  rw [List.getElem?_eraseIdx_of_ge (by omega),show j-1+1=j by omega,hb]
 unfold delR
 rw [List.set_append_right _ _ (by rw [hl];exact Nat.le_refl _),hl,Nat.sub_self]
 obtain ⟨y,hy⟩:∃ y,bs[j-1]? = some y:=⟨_,List.getElem?_eq_getElem (by omega)⟩
 have e2:bs.drop (j-1)=y::bs.drop j:=by
  rw [List.drop_eq_getElem_cons (show j-1<bs.length by omega)]
  rw [List.getElem?_eq_getElem (by omega)] at hy
  rw [Option.some.inj hy,show j-1+1=j by omega]
 rw [e2,List.set_cons_zero,Nat.add_sub_cancel]
 have e3:(bs.eraseIdx i).take j=(bs.eraseIdx i).take (j-1)++[b]:=by
  have hlt:j-1<(bs.eraseIdx i).length:=by omega
  have:=List.take_succ_eq_append_getElem hlt
  rw [List.getElem?_eq_getElem hlt] at e1
  rw [Option.some.inj e1,show j-1+1=j by omega] at this
  exact this
 rw [e3,List.append_assoc]
 rfl
theorem delR_end {bs:List Nat} {i:Nat} (hi:i<bs.length):(delR bs i bs.length).take (bs.length-1)=bs.eraseIdx i:=by
 have hle:(bs.eraseIdx i).length=bs.length-1:=List.length_eraseIdx_of_lt hi
 unfold delR
 rw [List.take_of_length_le (l:=bs.eraseIdx i) (by omega),List.take_append_of_le_length (by omega),List.take_of_length_le (by omega)]
set_option maxHeartbeats 16000000 in
theorem deleteFunc_any {bs:List Nat} {base g n c i:Nat} (hn:n=bs.length) (hm:n≤100000) (hO:Own w base 215 1 (.slice (some ⟨g,0,none⟩) n c) n (bs.map ptrS)) (hi:i<n) (h1:∀ j b,j≠i→bs[j]? = some b→LeftAt w b true) (h2:∀ b,bs[i]? = some b→LeftAt w b false) :
 Calls Tryz.prog 142 #[.slice (some ⟨g,0,none⟩) n c, .func (.func 141) #[] #[]] w fun e w'=>e = .returned (.slice (some ⟨g,0,none⟩) (n-1) c)∧Own w' base 215 1 (.slice (some ⟨g,0,none⟩) (n-1) c) (n-1) ((bs.eraseIdx i).map ptrS)∧Only w w' (fun k=>k=g):=by
 have IX:=zH (indexFunc_any hn hm (Own.at_ hO) hi (fun j b hj hb=>h1 j b (by omega) hb) h2 (c:=c))
 have H1:=zH h1
 have O:=zH hO
 have HN:=zH hn
 have HI:=zH hi
 have hni:(n:Int)≤100000:=by omega
 have hii:(i:Int)<(n:Int):=by omega
 have hne:((i:Int) == -1)=false:=by rw [beq_eq_false_iff_ne];omega
 have hgt:∀ j b,bs[j]? = some b→b≠g:=fun j b hb e=>by
  have hL:LeftAt w b true∨LeftAt w b false:=by
   by_cases hji:j=i
   · exact .inr (h2 b (by rw [←hji];exact hb))
   · exact .inl (h1 j b hji hb)
  rcases hL with ⟨cs,hbx,-⟩|⟨cs,hbx,-⟩
  · exact own_box hO hbx (by decide) (by rw [e];rfl)
  · exact own_box hO hbx (by decide) (by rw [e];rfl)
 have GT:=zH hgt
 clear hO h1 h2 hn hgt
 go_enter Tryz.func142,Tryz.ntmps142
 go_wp2_with fail
 refine IX.out.mono ?_
 rintro e w' ⟨rfl,rfl⟩
 go_wp2_with fail
 go_loopw [5,6] (fun s5 s6 wr=>∃ j:Nat,s6 = .int .i64 (j:Int)∧s5 = .int .i64 ((j:Int)-1)∧i+1≤j∧j≤n∧Own wr base 215 1 (.slice (some ⟨g,0,none⟩) n c) n ((delR bs i j).map ptrS)∧Only w wr (fun k=>k=g)) (fun _ s6 _=>n-(intOf s6).toNat)
 case atStart=>exact ⟨i+1,by go_num,by simp,Nat.le_refl _,HI.out,by rw [delR_start (by have:=HN.out;have:=HI.out;omega)];exact O.out,Only.refl _ _⟩
 case round=>
  obtain ⟨j,rfl,rfl,hj,hjn,ho,hon⟩:=hrel
  have HO:=zH ho
  have HON:=zH hon
  have HJ:=zH (And.intro hj hjn)
  by_cases hlt:j<n
  · have hlt':(j:Int)<(n:Int):=by omega
    obtain ⟨b,hb⟩:∃ b,bs[j]? = some b:=⟨_,List.getElem?_eq_getElem (by have:=HN.out;omega)⟩
    have hdl:(delR bs i j).length=bs.length:=delR_len (by have:=HN.out;omega) hj (by have:=HN.out;omega)
    have hdg:(delR bs i j)[j]? = some b:=by rw [delR_get (by have:=HN.out;omega) hj (by have:=HN.out;omega)];exact hb
    obtain ⟨g',hg',hc,-,-⟩:=Own.cell ho (j:=j) (by rw [List.length_map,hdl];have:=HN.out;omega)
    have hgg:g=g':=by
     have:=Option.some.inj hg'
     injection this
    subst hgg
    rw [List.getElem?_map,hdg] at hc
    obtain ⟨g'',hg'',hc2,hf2,-⟩:=Own.cell ho (j:=j-1) (by rw [List.length_map,hdl];have:=HN.out;omega)
    have hgg:g=g'':=by
     have:=Option.some.inj hg''
     injection this
    subst hgg
    obtain ⟨k,hk⟩:∃ k,j=k+1:=⟨j-1,by omega⟩
    subst hk
    rw [Nat.add_sub_cancel] at hc2 hf2
    have hcv:∃ v,wr.cell? ⟨g,k,none⟩=some v∧v.oneCell'=true:=by
     have hl2:k<((delR bs i (k+1)).map ptrS).length:=by rw [List.length_map,hdl];have:=HN.out;omega
     rw [hc2,List.getElem?_eq_getElem hl2]
     refine ⟨_,rfl,?_⟩
     rw [List.getElem_map]
     rfl
    obtain ⟨v,hcv,-⟩:=hcv
    have hb1:=H1.out (k+1) b (by omega) hb
    obtain ⟨cs,hbx,h7⟩:=hb1
    have IO:=zH (isOver_any (show Box wr b 218 cs from (hon.block b hbx.lt (GT.out _ b hb)).trans hbx) h7)
    have NX:=zH (show Own (wr.setCell ⟨g,k,none⟩ (ptrS b)) base 215 1 (.slice (some ⟨g,0,none⟩) n c) n ((delR bs i (k+1+1)).map ptrS) from by
     have:=ho.store (j:=k) (by rw [List.length_map,hdl];have:=HN.out;omega) (ptrS b)
     rw [←delR_next (by have:=HN.out;omega) hj (by have:=HN.out;omega) hb,Nat.add_sub_cancel,List.map_set]
     exact this)
    have NO:=zH (show Only w (wr.setCell ⟨g,k,none⟩ (ptrS b)) (fun k=>k=g) from hon.trans (only_set wr ⟨g,k,none⟩ (ptrS b)) (fun i e=>.inl e))
    have hk0:(0:Int)≤(k:Int):=by omega
    have hki:(k:Int)≤100000:=by omega
    have hcj:wr.cell? ⟨g,k+1,none⟩=some (ptrS b):=hc
    clear ho hon hj hjn hb hdl hdg hg' hg'' hc hc2 hbx h7 hlt
    unfold ptrS at *
    go_wp2_with fail
    refine IO.out.mono ?_
    rintro e w2 ⟨rfl,rfl⟩
    go_wp2_with fail
    go_roundw
    case rel=>exact ⟨k+1+1,by go_num,by go_num,by have:=HJ.out.1;omega,by omega,NX.out,NO.out⟩
    case measure=>simp [intOf];omega
  · have hlt':¬ (j:Int)<(n:Int):=by omega
    obtain rfl:j=n:=by omega
    obtain ⟨q,hq⟩:∃ q,j=q+1:=⟨j-1,by omega⟩
    have hdl:(delR bs i j).length=bs.length:=delR_len (by have:=HN.out;omega) hj (by have:=HN.out;omega)
    obtain ⟨g'',hg'',hc2,hf2,-⟩:=Own.cell ho (j:=q) (by rw [List.length_map,hdl];have:=HN.out;omega)
    have hgg:g=g'':=by
     have:=Option.some.inj hg''
     injection this
    subst hgg
    have hjc:j≤c:=by
     rcases ho.2 with ⟨hv,_⟩|⟨g',cap,cur,fz,hv,_,_,_,h4,_⟩
     · cases hv
     · injection hv with _ _ e3
       rw [e3];exact h4
    have hcv:∃ v,wr.cell? ⟨g,q,none⟩=some v:=by
     have hl2:q<((delR bs i j).map ptrS).length:=by rw [List.length_map,hdl];have:=HN.out;omega
     rw [hc2,List.getElem?_eq_getElem hl2]
     exact ⟨_,rfl⟩
    have CL:=zH (show ∀ ty sc,(Builtin.clear_ #[212] ty #[.slice (some ⟨g,q,none⟩) (j-q) sc]).run Tryz.prog wr = .ok (.tuple #[]) (wr.setCell ⟨g,q,none⟩ (.pointer none)) from fun ty sc=>by
     have h:=Lib.run_clear_slice (P:=Tryz.prog) wr 212 215 ty (.pointer none) Tryz.underlying212 Tryz.zeroValue215 rfl rfl g q 1 sc (by decide) (fun k hk=>by
      obtain rfl:k=0:=by omega
      obtain ⟨v,hv⟩:=hcv
      rw [Nat.add_zero,hv]
      rfl) (fun k hk=>by
      obtain rfl:k=0:=by omega
      rw [Nat.add_zero]
      exact hf2)
     rw [show j-q=1 by omega]
     exact h)
    have NX:=zH (show Own (wr.setCell ⟨g,q,none⟩ (.pointer none)) base 215 1 (.slice (some ⟨g,0,none⟩) (j-1) c) (j-1) ((bs.eraseIdx i).map ptrS) from by
     have h:=(ho.store (j:=q) (by rw [List.length_map,hdl];have:=HN.out;omega) (.pointer none)).cutX (k:=j-1) (by omega)
     have e1:(((delR bs i j).map ptrS).set q (.pointer none)).take (j-1)=(bs.eraseIdx i).map ptrS:=by
      rw [List.take_set,List.set_eq_of_length_le (by rw [List.length_take];omega),←List.map_take,HN.out,delR_end (by have:=HN.out;have:=HI.out;omega)]
     rw [e1] at h
     exact h)
    have NO:=zH (show Only w (wr.setCell ⟨g,q,none⟩ (.pointer none)) (fun k=>k=g) from hon.trans (only_set wr ⟨g,q,none⟩ (.pointer none)) (fun i e=>.inl e))
    have hq1:(j:Int)-1=(q:Int):=by omega
    have hqc:¬ (c=q):=by omega
    have hqi:(q:Int)≤(j:Int):=by omega
    have hqc2:(q:Int)≤(c:Int):=by omega
    have hq0:(0:Int)≤(q:Int):=by omega
    have hqcc:q≤c:=by omega
    have hjq:j-1=q:=by omega
    rw [hjq] at NX
    have HJQ:=zH hjq
    have cl:=CL.out 0
    clear ho hon hj hjn hdl hg'' hc2 hf2 hlt hcv hq CL hjq HJ
    go_wp2_with fail
    go_ret
    rw [HJQ.out]
    exact ⟨rfl,NX.out,NO.out⟩
end
section
variable {K:DiskOk} {w0 w w':World} {B:PB} {S S' T:Nat→Prop} {p q:Pst} {N Q A C:Nat} {V:Vw} {ns:List (List UInt8)} {nm:List UInt8} {fb b i n:Nat} {e:Ed} {left:Bool}
def SrcBox (w:World) (b fb i n:Nat) (e:Ed) (left:Bool):Prop:=Box w b 218 (srcC fb i n e left)
theorem SrcBox.rd (h:SrcBox w b fb i n e left):RdAt w b 218 (srcC fb i n e left) fb i n:=⟨h,rfl,rfl,rfl⟩
theorem SrcBox.store (h:SrcBox w b fb i n e left) (x:Ed) (lf:Bool):SrcBox (((((w.setCell ⟨b,3,none⟩ (.int .u32 (x.t:Int))).setCell ⟨b,4,none⟩ (.int .u32 (x.h:Int))).setCell ⟨b,5,none⟩ (.int .u64 (x.x:Int))).setCell ⟨b,6,none⟩ (.int .u32 (x.m:Int))).setCell ⟨b,7,none⟩ (.bool lf)) b fb i n x lf:=by
 have:=((((Box.set h 3 (.int .u32 (x.t:Int))).set 4 (.int .u32 (x.h:Int))).set 5 (.int .u64 (x.x:Int))).set 6 (.int .u32 (x.m:Int))).set 7 (.bool lf)
 simpa [SrcBox,srcC] using this
theorem SrcBox.cells (h:SrcBox w b fb i n e left):(∃ v,w.cell? ⟨b,3,none⟩=some v)∧w.cell? ⟨b,3,none⟩=some (.int .u32 (e.t:Int))∧w.cell? ⟨b,4,none⟩=some (.int .u32 (e.h:Int))∧w.cell? ⟨b,5,none⟩=some (.int .u64 (e.x:Int))∧w.cell? ⟨b,6,none⟩=some (.int .u32 (e.m:Int))∧w.cell? ⟨b,7,none⟩=some (.bool left)∧
 w.frozen? ⟨b,3,none⟩=false∧w.frozen? ⟨b,4,none⟩=false∧w.frozen? ⟨b,5,none⟩=false∧w.frozen? ⟨b,6,none⟩=false∧w.frozen? ⟨b,7,none⟩=false:=
 ⟨⟨_,Box.cell h 3 rfl⟩,Box.cell h 3 rfl,Box.cell h 4 rfl,Box.cell h 5 rfl,Box.cell h 6 rfl,Box.cell h 7 rfl,Box.frozen h 3,Box.frozen h 4,Box.frozen h 5,Box.frozen h 6,Box.frozen h 7⟩
theorem ExS.put5 (h:ExS K w0 B N Q A C p V ns S w) (h1:w0.heap.size≤b) (h2:¬ S b) (x:Ed) (lf:Bool):ExS K w0 B N Q A C p V ns S (((((w.setCell ⟨b,3,none⟩ (.int .u32 (x.t:Int))).setCell ⟨b,4,none⟩ (.int .u32 (x.h:Int))).setCell ⟨b,5,none⟩ (.int .u64 (x.x:Int))).setCell ⟨b,6,none⟩ (.int .u32 (x.m:Int))).setCell ⟨b,7,none⟩ (.bool lf)):=
 ((((h.put ⟨b,3,none⟩ _ h1 h2).put ⟨b,4,none⟩ _ h1 h2).put ⟨b,5,none⟩ _ h1 h2).put ⟨b,6,none⟩ _ h1 h2).put ⟨b,7,none⟩ _ h1 h2
theorem Moves.put5 {w2:World} (h:Moves T w w2 S S') (hb:T b∨w.heap.size≤b) (x:Ed) (lf:Bool):Moves T w (((((w2.setCell ⟨b,3,none⟩ (.int .u32 (x.t:Int))).setCell ⟨b,4,none⟩ (.int .u32 (x.h:Int))).setCell ⟨b,5,none⟩ (.int .u64 (x.x:Int))).setCell ⟨b,6,none⟩ (.int .u32 (x.m:Int))).setCell ⟨b,7,none⟩ (.bool lf)) S S':=
 ((((h.put ⟨b,3,none⟩ _ hb).put ⟨b,4,none⟩ _ hb).put ⟨b,5,none⟩ _ hb).put ⟨b,6,none⟩ _ hb).put ⟨b,7,none⟩ _ hb
def AdvV (K:DiskOk) (w0:World) (B:PB) (N Q A C:Nat) (p:Pst) (V:Vw) (ns:List (List UInt8)) (S:Nat→Prop) (w:World) (b fb i:Nat) (l:List Ed) (en:Ending) (w':World):Prop:=
 ∃ (E:Nat) (q:Pst) (S':Nat→Prop),en = .returned (.int .i64 (E:Int))∧ExS K w0 B N Q A C q V ns S' w'∧Moves (fun c=>c=b) w w' S S'∧Still p q none∧
  ((E=0∧((i=l.length∧SrcBox w' b fb i l.length zE false)∨∃ x,l[i]? = some x∧SrcBox w' b fb (i+1) l.length x true))∨(E=5∧Q<4*(A*C)+4))
set_option maxHeartbeats 16000000 in
theorem adv_any (PK:PageOk) (h:ExS K w0 B N Q A C p V ns S w) (hZ:K.Z w0) (hS:Sizes w0) (hN:N≤4096) (bf:StrAt w fb B.pb nm 20) (hb:¬ S fb) {l:List Ed} (s:IsS V nm 20 (l.map edB)) (hok:∀ e∈l,EdOk e) (hl:l.length≤100000)
 (r:SrcBox w b fb i l.length e left) (hrb:¬ S b) (hr0:w0.heap.size≤b) (hi:i≤l.length) :
 Calls Tryz.prog 140 #[ptrS b] w (AdvV K w0 B N Q A C p V ns S w b fb i l):=by
 have H:=zH h
 have NB:=zH (And.intro hrb hr0)
 have R:=zH r
 unfold ptrS
 by_cases hend:i=l.length
 · have SE:=zH (step_end (show RdAt w b 218 (srcC fb i l.length e left) fb l.length l.length by have:=r.rd;exact ⟨this.box,this.c0,by rw [this.c1,hend],this.c2⟩))
   have HE:=zH hend
   unfold edG zE at SE
   clear h hZ hS hN bf hb s hok hl r hrb hr0 hi hend
   go_enter Tryz.func140,Tryz.ntmps140
   go_wp2_with fail
   refine SE.out.mono ?_
   rintro e w2 ⟨rfl,k2⟩
   have R2:SrcBox w2 b fb i l.length _ left:=Box.keep R.out k2
   obtain ⟨-,d3,d4,d5,d6,d7,f3,f4,f5,f6,f7⟩:=R2.cells
   have R3:=R2.store zE false
   have F:=zH (show AdvV K w0 B N Q A C p V ns S w b fb i l (.returned (.int .i64 ((0:Nat):Int))) _ from
    ⟨0,p,S,rfl,(H.out.keep k2).put5 NB.out.2 NB.out.1 zE false,(Moves.of_keeps k2 (fun c=>c=b) S).put5 (.inl rfl) zE false,Still.refl _ _, .inl ⟨rfl, .inl ⟨HE.out,R3⟩⟩⟩)
   clear k2 R2 R3
   unfold zE at F
   go_wp2_with fail
   go_ret
   exact F.out
 · have hlt:i<l.length:=by omega
   obtain ⟨x,hx⟩:∃ x,l[i]? = some x:=⟨_,List.getElem?_eq_getElem hlt⟩
   have SN:=zH (step_next PK h hZ hS hN bf hb s r.rd hrb hr0 hx (hok x (List.mem_of_getElem? hx)) hlt (by omega))
   have HX:=zH hx
   clear h hZ hS hN bf hb s hok hl r hrb hr0 hi hend hx hlt
   go_enter Tryz.func140,Tryz.ntmps140
   go_wp2_with fail
   refine SN.out.mono ?_
   rintro e w2 ⟨q2,S2,h2,m2,s2,⟨rfl,r2⟩|⟨rfl,r2,hQ⟩⟩
   · have R2:SrcBox w2 b fb (i+1) l.length _ left:=r2.box
     obtain ⟨-,d3,d4,d5,d6,d7,f3,f4,f5,f6,f7⟩:=R2.cells
     have R3:=R2.store x true
     have F:=zH (show AdvV K w0 B N Q A C p V ns S w b fb i l (.returned (.int .i64 ((0:Nat):Int))) _ from
      ⟨0,q2,S2,rfl,h2.put5 NB.out.2 (m2.notIn (Box.lt R.out) NB.out.1) x true,m2.put5 (.inl rfl) x true,s2, .inl ⟨rfl, .inr ⟨x,HX.out,R3⟩⟩⟩)
     clear h2 m2 s2 r2 R2 R3
     unfold edG
     go_wp2_with fail
     go_ret
     exact F.out
   · have R2:SrcBox w2 b fb i l.length _ left:=r2.box
     obtain ⟨-,d3,d4,d5,d6,d7,f3,f4,f5,f6,f7⟩:=R2.cells
     have F:=zH (show AdvV K w0 B N Q A C p V ns S w b fb i l (.returned (.int .i64 ((5:Nat):Int))) _ from
      ⟨5,q2,S2,rfl,h2.put5 NB.out.2 (m2.notIn (Box.lt R.out) NB.out.1) zE false,m2.put5 (.inl rfl) zE false,s2, .inr ⟨rfl,hQ⟩⟩)
     clear h2 m2 s2 r2 R2 hQ
     unfold zE at F
     unfold edG zE
     go_wp2_with fail
     go_ret
     exact F.out
end
theorem info_src:(Tryz.prog.info? 215).map (fun i=>(i.zero,i.size,i.bytes))=some (some (.pointer none),1,8):=by kernel_rfl
section
variable {K:DiskOk} {w0 w w':World} {B:PB} {S S' T:Nat→Prop} {p q:Pst} {N Q A C:Nat} {V:Vw} {ns:List (List UInt8)} {nm:List UInt8} {fb b i n sb ob made:Nat} {rv:Value} {rn:List (List UInt8)} {Rs:List (List Ed)} {ss:List Src}
theorem SrcAt.lt {s:Src} (h:SrcAt w s):s.b<w.heap.size:=Box.lt h
structure SrcsAt (w:World) (S:Nat→Prop) (pb:Nat) (ss:List Src):Prop where
 at_:∀ s∈ss,SrcAt w s∧StrAt w s.f pb s.nm 20∧¬ S s.b∧¬ S s.f
 nd:(ss.map (·.b)).Nodup
theorem SrcsAt.nil (w:World) (S:Nat→Prop) (pb:Nat):SrcsAt w S pb []:=⟨fun s hs=>by simp at hs,List.nodup_nil⟩
theorem SrcsAt.moved {pb:Nat} (h:SrcsAt w S pb ss) (m:Moves T w w' S S') (hT:∀ s∈ss,¬ T s.b∧¬ T s.f):SrcsAt w' S' pb ss:=
 ⟨fun s hs=>by
  obtain ⟨h1,h2,h3,h4⟩:=h.at_ s hs
  obtain ⟨t1,t2⟩:=hT s hs
  exact ⟨Box.moved h1 m h3 t1,h2.moved m h4 t2,m.notIn (Box.lt h1) h3,m.notIn h2.lt h4⟩,h.nd⟩
theorem SrcsAt.keep {pb:Nat} (h:SrcsAt w S pb ss) (k:Keeps w w'):SrcsAt w' S pb ss:=
 ⟨fun s hs=>by
  obtain ⟨h1,h2,h3,h4⟩:=h.at_ s hs
  exact ⟨Box.keep h1 k,h2.keep k,h3,h4⟩,h.nd⟩
theorem SrcsAt.snoc {pb:Nat} (h:SrcsAt w S pb ss) {s:Src} (h1:SrcAt w s) (h2:StrAt w s.f pb s.nm 20) (h3:¬ S s.b) (h4:¬ S s.f) (hn:∀ t∈ss,t.b≠s.b):SrcsAt w S pb (ss++[s]):=
 ⟨fun t ht=>by
  rcases List.mem_append.1 ht with ht|ht
  · exact h.at_ t ht
  · rw [List.mem_singleton] at ht
    subst ht
    exact ⟨h1,h2,h3,h4⟩,by
  rw [List.map_append,List.nodup_append]
  refine ⟨h.nd,by simp,fun a ha b hb=>?_⟩
  obtain ⟨t,ht,rfl⟩:=List.mem_map.1 ha
  simp only [List.map_cons,List.map_nil,List.mem_singleton] at hb
  rw [hb]
  exact hn t ht⟩
structure Runs1 (V:Vw) (hd:Bool) (l:List Ed) (ss:List Src):Prop where
 run:∀ s∈ss,RunIs V hd l s.nm s.all
def SourcesV (K:DiskOk) (w0:World) (B:PB) (N Q A C:Nat) (p:Pst) (V:Vw) (ns:List (List UInt8)) (S:Nat→Prop) (w:World) (Rs:List (List Ed)) (hd:Bool) (l:List Ed) (en:Ending) (w':World):Prop:=
 ∃ (E:Nat) (q:Pst) (S':Nat→Prop) (v:Value) (ss:List Src),en = .returned (.tuple #[v, .int .i64 (E:Int)])∧ExS K w0 B N Q A C q V ns S' w'∧Moves (fun _=>False) w w' S S'∧StillX (fun _=>False) p q∧
  ((E=0∧ss.map (·.all)=Rs∧(∀ s∈ss,s.pre=[])∧Runs1 V hd l ss∧SrcsAt w' S' B.pb ss∧(∀ s∈ss,w.heap.size≤s.b)∧Own w' w.heap.size 215 1 v ss.length (ss.map fun s=>ptrS s.b)∧(∀ g,v.ownBlock=some g→¬ S' g))∨(E=5∧Q<4*(A*C)+4))
set_option maxHeartbeats 32000000 in
theorem esources_any (PK:PageOk) (h:ExS K w0 B N Q A C p V ns S w) (hZ:K.Z w0) (hS:Sizes w0) (hN:N≤4096) (r:SrtAt w sb B.pb ob rv made) (hsb:¬ S sb) {hd:Bool} {l:List Ed} (hok:∀ e∈l,EdOk e) (hl:∀ R∈Rs,R.length≤100000) (hR:RunsIs V hd l rn Rs)
 {Ar:Option Addr} {c:Nat} (hA:At w w.heap.size Ar (rn.map strV)) (hAS:∀ ad,Ar=some ad→¬ S ad.block) (hn:rn.length≤1000) :
 Calls Tryz.prog 136 #[.pointer (some ⟨sb,0,none⟩), .slice Ar rn.length c] w (SourcesV K w0 B N Q A C p V ns S w Rs hd l):=by
 have H:=zH h
 have HZ:=zH hZ
 have HS:=zH hS
 have HN:=zH hN
 have R:=zH r
 have NSB:=zH hsb
 have OK:=zH hok
 have HL:=zH hl
 have HR:=zH hR
 have HA:=zH hA
 have HAS:=zH hAS
 obtain ⟨n,hn0⟩:∃ n,rn.length=n:=⟨_,rfl⟩
 have HN0:=zH hn0
 rw [hn0] at hn ⊢
 have hni:(n:Int)≤1000:=by omega
 obtain ⟨i0,hi,hz0,hz1,hz2⟩:=info_parts info_src
 clear h hZ hS hN r hsb hok hl hR hA hAS hn0
 go_enter Tryz.func136,Tryz.ntmps136
 go_wp2_with fail
 go_loopw [6,15] (fun v i wr=>∃ (k:Nat) (q:Pst) (S':Nat→Prop) (ss:List Src),i = .int .i64 (k:Int)∧k≤n∧ss.length=k∧ExS K w0 B N Q A C q V ns S' wr∧Moves (fun _=>False) w wr S S'∧StillX (fun _=>False) p q∧ss.map (·.all)=Rs.take k∧(∀ s∈ss,s.pre=[])∧Runs1 V hd l ss∧SrcsAt wr S' B.pb ss∧(∀ s∈ss,w.heap.size≤s.b)∧
  Own wr w.heap.size 215 1 v k (ss.map fun s=>ptrS s.b)∧(∀ g,v.ownBlock=some g→¬ S' g)) (fun _ i _=>n-(intOf i).toNat)
 case atStart=>exact ⟨0,p,S,[],rfl,Nat.zero_le _,rfl,H.out,Moves.refl _ _ _,StillX.refl _ _,rfl,fun s hs=>by simp at hs,⟨fun s hs=>by simp at hs⟩,SrcsAt.nil _ _ _,fun s hs=>by simp at hs,Own.nil _ _ _ _,fun g hg=>by simp [Value.ownBlock] at hg⟩
 case round=>
  obtain ⟨k,q,S1,ss,rfl,hk,hsl,hx,hm,hst,hall,hpre,hrun,hat,hge,hown,hnb⟩:=hrel
  obtain ⟨A1,c1,rfl,hc1,-,-,-⟩:=hown.form
  have HX:=zH hx
  have HM:=zH hm
  have HST:=zH hst
  have HALL:=zH (And.intro hsl (And.intro hall hpre))
  have HRUN:=zH hrun
  have HAT:=zH (And.intro hat hge)
  have HO:=zH hown
  have HNB:=zH hnb
  by_cases hlt:k<n
  · have hlt':(k:Int)<(n:Int):=by omega
    have hkl:k<rn.length:=by have:=HN0.out;omega
    obtain ⟨x,hx1⟩:∃ x,rn[k]? = some x:=⟨_,List.getElem?_eq_getElem hkl⟩
    obtain ⟨Rk,hRk⟩:∃ Rk,Rs[k]? = some Rk:=⟨_,List.getElem?_eq_getElem (by have:=HR.out.1;omega)⟩
    have hri:=HR.out.2 k x Rk hx1 hRk
    obtain ⟨ad,had,hab,hc0⟩:=At.get HA.out (k:=k) (by rw [List.length_map];exact hkl)
    subst had
    have cx:wr.cell? (ad.add k)=some (.string (str x)):=by
     have h1:w.cell? (ad.add k)=some (.string (str x)):=by
      rw [hc0,List.getElem?_map,hx1]
      rfl
     have h2:=hm.block (b:=ad.block) hab (HAS.out ad rfl) id
     rw [←h1]
     simp only [World.cell?,addr_block,h2]
    have RW:=Box.moved R.out hm NSB.out id
    have nsb1:¬ S1 sb:=hm.notIn (Box.lt R.out) NSB.out
    have RD:=zH (eread_any PK hx HZ.out HS.out HN.out RW nsb1 hri.file)
    have RI:=zH hri
    have NSB1:=zH nsb1
    have HRK:=zH hRk
    clear hx hm hst hsl hall hpre hrun hat hge hown hnb hx1 hRk hri hc0 hkl RW nsb1
    go_wp2_with fail
    refine RD.out.mono ?_
    rintro e w2 ⟨E,m,fb,q2,S2,rfl,h2,m2,s2,b2,nf2,hfb,⟨rfl,hmn⟩|⟨rfl,rfl,hQ⟩⟩
    rotate_left
    · have F:=zH (show SourcesV K w0 B N Q A C p V ns S w Rs hd l (.returned (.tuple #[.slice none 0 0, .int .i64 ((5:Nat):Int)])) (w2.alloc (.cells #[.pointer (some ⟨fb,0,none⟩), .int .i64 0, .int .i64 0] 207)) from
       ⟨5,q2,S2, .slice none 0 0,[],rfl,h2.keep (zA _ _),(HM.out.then m2).keep (zA _ _),HST.out.trans (s2.x0 _), .inr ⟨rfl,hQ⟩⟩)
      clear h2 m2 s2 b2 nf2 hfb hQ cx
      go_wp2_with fail
      go_returns
      exact F.out
    rw [List.length_map] at hmn
    subst hmn
    have kA:=zK (zA w2 (.cells #[.pointer (some ⟨fb,0,none⟩), .int .i64 0, .int .i64 (Rk.length:Int)] 207)) (zA _ (.cells #[.pointer (some ⟨fb,0,none⟩), .int .i64 0, .int .i64 (Rk.length:Int), .int .u32 0, .int .u32 0, .int .u64 0, .int .u32 0, .bool false] 218))
    have SB:SrcBox ((w2.alloc (.cells #[.pointer (some ⟨fb,0,none⟩), .int .i64 0, .int .i64 (Rk.length:Int)] 207)).alloc (.cells #[.pointer (some ⟨fb,0,none⟩), .int .i64 0, .int .i64 (Rk.length:Int), .int .u32 0, .int .u32 0, .int .u64 0, .int .u32 0, .bool false] 218)) (w2.heap.size+1) fb 0 Rk.length zE false:=by
     have:=Box.new (w2.alloc (.cells #[.pointer (some ⟨fb,0,none⟩), .int .i64 0, .int .i64 (Rk.length:Int)] 207)) 218 (srcC fb 0 Rk.length zE false)
     simp only [World.size_alloc] at this
     exact this
    obtain ⟨b,hb⟩:∃ b,w2.heap.size+1=b:=⟨_,rfl⟩
    have HB:=zH hb
    have SE:=zH (fun (s:Src) (hs:s∈ss)=>show s.b<w2.heap.size from Nat.lt_of_lt_of_le (HAT.out.1.at_ s hs).1.lt m2.size)
    have rc:=(Box.new w2 207 #[.pointer (some ⟨fb,0,none⟩), .int .i64 0, .int .i64 (Rk.length:Int)])
    have r0:=rc.cell 0 rfl
    have r1:=rc.cell 1 rfl
    have r2:=rc.cell 2 rfl
    have nbS:¬ S2 b:=h2.lt (by omega)
    rw [hb] at SB
    have b04:w0.heap.size≤b:=by have:=h2.base;omega
    have AV:=zH (adv_any PK (h2.keep kA) HZ.out HS.out HN.out (b2.keep kA) nf2 RI.out.file (fun e he=>OK.out e (RI.out.mem e he)) (HL.out Rk (List.mem_of_getElem? HRK.out)) SB nbS b04 (Nat.zero_le _))
    have hgb:w.heap.size≤b:=by have:=HM.out.size;have:=m2.size;omega
    have M4:=zH ((HM.out.then m2).keep kA)
    have ST4:=zH (HST.out.trans (s2.x0 (fun _=>False)))
    have AT4:=zH ((HAT.out.1.moved m2 (fun s hs=>⟨id,id⟩)).keep kA)
    have O4:=zH ((HO.out.moved m2 (fun g hg=>⟨HNB.out g hg,id⟩)).keep kA)
    have N4:=zH (fun g hg=>show ¬ S2 g from m2.notIn (HO.out.lt g hg).2 (HNB.out g hg))
    have F4:=zH (b2.keep kA)
    have SB4:=zH SB
    have NF4:=zH (And.intro nf2 (And.intro nbS hgb))
    clear h2 m2 s2 b2 nf2 hfb kA SB rc nbS b04 hgb cx RD
    unfold ptrS at AV
    go_wp2_with fail
    refine AV.out.mono ?_
    rintro e w5 ⟨E,q5,S5,rfl,h5,m5,s5,⟨rfl,hsrc⟩|⟨rfl,hQ⟩⟩
    rotate_left
    · have F:=zH (show SourcesV K w0 B N Q A C p V ns S w Rs hd l (.returned (.tuple #[.slice none 0 0, .int .i64 ((5:Nat):Int)])) w5 from
       ⟨5,q5,S5, .slice none 0 0,[],rfl,h5,M4.out.trans m5 (fun c e=>.inr (.inr (by rw [show c=b from e];exact NF4.out.2.2))),ST4.out.trans (s5.x0 _), .inr ⟨rfl,hQ⟩⟩)
      clear h5 m5 s5 hQ
      go_wp2_with fail
      go_returns
      exact F.out
    have hne:=RI.out.ne
    obtain ⟨xe,rest,hRk2⟩:∃ xe rest,Rk=xe::rest:=by
     cases Rk with
     | nil=>exact absurd rfl hne
     | cons y t=>exact ⟨y,t,rfl⟩
    have SX:SrcBox w5 b fb 1 Rk.length xe true:=by
     rcases hsrc with ⟨h0,-⟩|⟨y,hy,hbx⟩
     · rw [hRk2] at h0
       simp at h0
     · rw [hRk2] at hy
       simp only [List.getElem?_cons_zero,Option.some.injEq] at hy
       subst hy
       exact hbx
    have hsS:SrcAt w5 ⟨b,fb,x,[],xe,rest⟩:=by
     unfold SrcAt Src.cells Src.all
     simp only [List.length_nil,List.nil_append,Nat.zero_add]
     rw [←hRk2]
     exact SX
    have hfb5:StrAt w5 fb B.pb x 20:=F4.out.moved m5 NF4.out.1 (fun e=>box_apart F4.out SB4.out (by decide) e)
    have AT5:SrcsAt w5 S5 B.pb ss:=AT4.out.moved m5 (fun s hs=>⟨fun e=>by have:=SE.out s hs;have:=HB.out;have e:s.b=b:=e;omega,fun e=>box_apart (AT4.out.at_ s hs).2.1 SB4.out (by decide) e⟩)
    have nb5:¬ S5 b:=m5.notIn (Box.lt SB4.out) NF4.out.2.1
    have nf5:¬ S5 fb:=m5.notIn F4.out.lt NF4.out.1
    have AT6:=zH (AT5.snoc (s:=⟨b,fb,x,[],xe,rest⟩) hsS hfb5 nb5 nf5 (fun t ht=>by have:=SE.out t ht;have:=HB.out;show t.b≠b;omega))
    have O5:=zH (O4.out.moved m5 (fun g hg=>⟨N4.out g hg,fun e=>own_box O4.out SB4.out (by decide) (by rw [hg,show g=b from e])⟩))
    have N5:=zH (fun g hg=>show ¬ S5 g from m5.notIn (O4.out.lt g hg).2 (N4.out g hg))
    have H5:=zH h5
    have M5:=zH (M4.out.trans m5 (fun c e=>.inr (.inr (by rw [show c=b from e];exact NF4.out.2.2))))
    have ST5:=zH (ST4.out.trans (s5.x0 (fun _=>False)))
    have ALL:=zH (show (ss++[(⟨b,fb,x,[],xe,rest⟩:Src)]).map (·.all)=Rs.take (k+1) from by
     have hkR:=(List.getElem?_eq_some_iff.1 HRK.out).1
     rw [List.map_append,HALL.out.2.1,List.take_succ_eq_append_getElem hkR]
     congr 1
     have:=HRK.out
     rw [List.getElem?_eq_getElem hkR] at this
     rw [Option.some.inj this,hRk2]
     rfl)
    have PRE:=zH (show ∀ s∈ss++[(⟨b,fb,x,[],xe,rest⟩:Src)],s.pre=[]∧RunIs V hd l s.nm s.all∧w.heap.size≤s.b from fun s hs=>by
     rcases List.mem_append.1 hs with hs|hs
     · exact ⟨HALL.out.2.2 s hs,HRUN.out.run s hs,HAT.out.2 s hs⟩
     · rw [List.mem_singleton] at hs
       subst hs
       refine ⟨rfl,?_,NF4.out.2.2⟩
       show RunIs V hd l x (xe::rest)
       rw [←hRk2]
       exact RI.out)
    have LEN:=zH (show (ss++[(⟨b,fb,x,[],xe,rest⟩:Src)]).length=k+1 from by rw [List.length_append,HALL.out.1];rfl)
    have AT1:=zH (show At (w5.alloc (.cells #[.pointer (some ⟨b,0,none⟩)] 215)) (w5.heap.size+1) (some ⟨w5.heap.size,0,none⟩) [ptrS b] from At.new w5 [ptrS b] 215 _ (by omega))
    clear h5 m5 s5 hsrc hne hRk2 SX hsS hfb5 AT5 nb5 nf5 AV r0 r1 r2
    go_wp2_with (at_builtin;refine wpList_app _ rfl _ _ 212 rfl w.heap.size 215 i0 (.pointer none) 1 8 Tryz.underlying212 hi hz0 hz1 hz2 rfl (by decide) _ k _ rfl (O5.out.keep (zA _ _)) _ _ 1 1 [ptrS b] rfl rfl AT1.out (by intro u hu;rw [List.mem_singleton] at hu;rw [hu];rfl) (by unfold maxLen;omega) (by omega) (by have:=M5.out.size;simp only [World.size_alloc];omega) ?_)
    intro v6 w6 o6 g6 b6
    have kA:Keeps w5 _:=zA w5 (.cells #[.pointer (some ⟨b,0,none⟩)] 215)
    have H6:=zH ((H5.out.keep kA).only (grown_only g6) (fun i e=>Nat.le_trans H.out.base (O5.out.lt i e).1) (fun i hi e=>N5.out i e hi))
    have M6:=zH ((M5.out.keep kA).grown g6 (fun g hg=>.inr (O5.out.lt g hg).1))
    have AT7:=zH ((AT6.out.keep kA).moved (Moves.of_only (grown_only g6) S5) (fun s hs=>⟨fun e=>own_box O5.out (AT6.out.at_ s hs).1 (by decide) e,fun e=>own_box O5.out (AT6.out.at_ s hs).2.1 (by decide) e⟩))
    have O6:=zH (show Own w6 w.heap.size 215 1 v6 (k+1) ((ss++[(⟨b,fb,x,[],xe,rest⟩:Src)]).map fun s=>ptrS s.b) from by
     rw [List.map_append]
     exact o6)
    have N6:=zH (show ∀ g,v6.ownBlock=some g→¬ S5 g from fun g hg=>by
     rcases b6 with e|e
     · exact N5.out g (e▸hg)
     · rw [e] at hg
       injection hg with hg
       exact H5.out.lt (by omega))
    clear o6 g6 b6 kA H5 O5 AT6 M5
    go_wp2_with fail
    go_roundw
    case rel=>exact ⟨k+1,q5,S5,_,rfl,by omega,LEN.out,H6.out,M6.out,ST5.out,ALL.out,fun s hs=>(PRE.out s hs).1,⟨fun s hs=>(PRE.out s hs).2.1⟩,AT7.out,fun s hs=>(PRE.out s hs).2.2,O6.out,N6.out⟩
    case measure=>simp [intOf];omega
  · have hlt':¬ (k:Int)<(n:Int):=by omega
    obtain rfl:k=n:=by omega
    have F:=zH (show SourcesV K w0 B N Q A C p V ns S w Rs hd l (.returned (.tuple #[.slice A1 k c1, .int .i64 ((0:Nat):Int)])) wr from
     ⟨0,q,S1, .slice A1 k c1,ss,rfl,hx,hm,hst, .inl ⟨rfl,by rw [hall];exact List.take_of_length_le (by have:=HR.out.1;have:=HN0.out;omega),hpre,hrun,hat,hge,by rw [hsl];exact hown,hnb⟩⟩)
    clear hx hm hst hall hpre hrun hat hge hown hnb hsl
    go_wp2_with fail
    go_returns
    exact F.out
end
def Src.rem (s:Src):List Ed:=s.e::s.post
def totS (ss:List Src):Nat:=(ss.map fun s=>s.post.length+1).sum
theorem totS_set:∀ {ss:List Src} {i:Nat} {s0 s1:Src},ss[i]? = some s0→totS (ss.set i s1)+(s0.post.length+1)=totS ss+(s1.post.length+1)
 | [],i,s0,s1,h=>by simp at h
 | s::ss,0,s0,s1,h=>by
  simp only [List.getElem?_cons_zero,Option.some.injEq] at h
  subst h
  simp only [List.set_cons_zero,totS,List.map_cons,List.sum_cons]
  omega
 | s::ss,i+1,s0,s1,h=>by
  simp only [List.getElem?_cons_succ] at h
  have:=totS_set (s1:=s1) h
  simp only [List.set_cons_succ,totS,List.map_cons,List.sum_cons] at this ⊢
  omega
theorem totS_erase:∀ {ss:List Src} {i:Nat} {s0:Src},ss[i]? = some s0→totS (ss.eraseIdx i)+(s0.post.length+1)=totS ss
 | [],i,s0,h=>by simp at h
 | s::ss,0,s0,h=>by
  simp only [List.getElem?_cons_zero,Option.some.injEq] at h
  subst h
  simp only [List.eraseIdx_cons_zero,totS,List.map_cons,List.sum_cons]
  omega
 | s::ss,i+1,s0,h=>by
  simp only [List.getElem?_cons_succ] at h
  have:=totS_erase h
  simp only [List.eraseIdx_cons_succ,totS,List.map_cons,List.sum_cons] at this ⊢
  omega
theorem mem_setX {ss:List Src} {i:Nat} {s1 t:Src} (h:t∈ss.set i s1):t=s1∨∃ j,j≠i∧ss[j]? = some t:=by
 obtain ⟨j,hj⟩:=List.mem_iff_getElem?.1 h
 rw [List.getElem?_set] at hj
 split at hj
 · split at hj
   · exact .inl (Option.some.inj hj).symm
   · cases hj
 · exact .inr ⟨j,by omega,hj⟩
theorem mem_eraseX {ss:List Src} {i:Nat} {t:Src} (h:t∈ss.eraseIdx i):∃ j,j≠i∧ss[j]? = some t:=by
 obtain ⟨j,hj⟩:=List.mem_iff_getElem?.1 h
 rw [List.getElem?_eraseIdx] at hj
 split at hj
 · exact ⟨j,by omega,hj⟩
 · exact ⟨j+1,by omega,hj⟩
theorem eraseX_mem {ss:List Src} {i j:Nat} {t:Src} (hj:j≠i) (h:ss[j]? = some t):t∈ss.eraseIdx i:=by
 rcases Nat.lt_or_gt_of_ne hj with hlt|hgt
 · exact List.mem_of_getElem? (i:=j) (by rw [List.getElem?_eraseIdx_of_lt hlt];exact h)
 · refine List.mem_of_getElem? (i:=j-1) ?_
   rw [List.getElem?_eraseIdx_of_ge (by omega),show j-1+1=j by omega]
   exact h
theorem setX_mem {ss:List Src} {i j:Nat} {t s1:Src} (hj:j≠i) (h:ss[j]? = some t):t∈ss.set i s1:=
 List.mem_of_getElem? (i:=j) (by rw [List.getElem?_set_ne (Ne.symm hj)];exact h)
section
variable {hd:Bool} {M s:List Ed} {ss:List Src} {i:Nat} {s0 s1:Src}
theorem Mrg.next (h:Mrg hd M (ss.map Src.rem) s) (hi:ss[i]? = some s0) (hx:∀ u∈ss,LeE hd s0.e u.e) (h1:s1.rem=s0.post):Mrg hd M ((ss.set i s1).map Src.rem) (s++[s0.e]):=by
 have hil:=(List.getElem?_eq_some_iff.1 hi).1
 refine h.step (i:=i) (x:=s0.e) (r:=s0.post) (by rw [List.getElem?_map,hi];rfl) (fun y r' hy=>?_) (fun q hq=>?_) (fun q hq=>?_) (fun _=>?_)
 · obtain ⟨u,hu,e⟩:=List.mem_map.1 hy
   have:=hx u hu
   injection e with e1 e2
   rw [←e1]
   exact this
 · obtain ⟨t,ht,rfl⟩:=List.mem_map.1 hq
   rcases mem_setX ht with rfl|⟨j,-,hj⟩
   · exact .inr h1
   · exact .inl (List.mem_map.2 ⟨t,List.mem_of_getElem? hj,rfl⟩)
 · obtain ⟨j,hj,hq,-⟩:=hq
   rw [List.getElem?_map] at hq
   obtain ⟨t,ht,rfl⟩:=Option.map_eq_some_iff.1 hq
   exact List.mem_map.2 ⟨t,setX_mem hj ht,rfl⟩
 · refine List.mem_map.2 ⟨s1,?_,h1⟩
   exact List.mem_of_getElem? (i:=i) (by rw [List.getElem?_set_self hil])
theorem Mrg.gone (h:Mrg hd M (ss.map Src.rem) s) (hi:ss[i]? = some s0) (hx:∀ u∈ss,LeE hd s0.e u.e) (h1:s0.post=[]):Mrg hd M ((ss.eraseIdx i).map Src.rem) (s++[s0.e]):=by
 refine h.step (i:=i) (x:=s0.e) (r:=s0.post) (by rw [List.getElem?_map,hi];rfl) (fun y r' hy=>?_) (fun q hq=>?_) (fun q hq=>?_) (fun e=>absurd h1 e)
 · obtain ⟨u,hu,e⟩:=List.mem_map.1 hy
   have:=hx u hu
   injection e with e1 e2
   rw [←e1]
   exact this
 · obtain ⟨t,ht,rfl⟩:=List.mem_map.1 hq
   obtain ⟨j,-,hj⟩:=mem_eraseX ht
   exact .inl (List.mem_map.2 ⟨t,List.mem_of_getElem? hj,rfl⟩)
 · obtain ⟨j,hj,hq,-⟩:=hq
   rw [List.getElem?_map] at hq
   obtain ⟨t,ht,rfl⟩:=Option.map_eq_some_iff.1 hq
   exact List.mem_map.2 ⟨t,eraseX_mem hj ht,rfl⟩
end
section
variable {w w':World} {S S' T:Nat→Prop} {pb i:Nat} {ss:List Src} {s0 s1:Src}
theorem SrcsAt.apart (h:SrcsAt w S pb ss) (hi:ss[i]? = some s0) {j:Nat} {t:Src} (hj:j≠i) (ht:ss[j]? = some t):t.b≠s0.b:=fun e=>by
 have h1:(ss.map (·.b))[j]? = some s0.b:=by rw [List.getElem?_map,ht,←e];rfl
 have h2:(ss.map (·.b))[i]? = some s0.b:=by rw [List.getElem?_map,hi];rfl
 exact hj ((List.getElem?_inj (List.getElem?_eq_some_iff.1 h1).1 h.nd).1 (h1.trans h2.symm))
theorem SrcsAt.far_b (h:SrcsAt w S pb ss) (hi:ss[i]? = some s0) {t:Src} (ht:t∈ss):t.f≠s0.b:=fun e=>box_apart (h.at_ t ht).2.1 (h.at_ s0 (List.mem_of_getElem? hi)).1 (by decide) e
theorem SrcsAt.set (h:SrcsAt w S pb ss) (hi:ss[i]? = some s0) (m:Moves (fun c=>c=s0.b) w w' S S') (hb:s1.b=s0.b) (hf:s1.f=s0.f) (hn:s1.nm=s0.nm) (h1:SrcAt w' s1):SrcsAt w' S' pb (ss.set i s1):=by
 refine ⟨fun t ht=>?_,?_⟩
 · rcases mem_setX ht with rfl|⟨j,hj,htj⟩
   · obtain ⟨k1,k2,k3,k4⟩:=h.at_ s0 (List.mem_of_getElem? hi)
     refine ⟨h1,?_,by rw [hb];exact m.notIn k1.lt k3,by rw [hf];exact m.notIn k2.lt k4⟩
     rw [hf,hn]
     exact k2.moved m k4 (h.far_b hi (List.mem_of_getElem? hi))
   · obtain ⟨k1,k2,k3,k4⟩:=h.at_ t (List.mem_of_getElem? htj)
     exact ⟨Box.moved k1 m k3 (h.apart hi hj htj),k2.moved m k4 (h.far_b hi (List.mem_of_getElem? htj)),m.notIn k1.lt k3,m.notIn k2.lt k4⟩
 · have e:(ss.set i s1).map (·.b)=ss.map (·.b):=by
    rw [List.map_set,hb]
    apply List.ext_getElem?
    intro k
    rw [List.getElem?_set]
    split
    · rename_i e
      subst e
      split
      · rw [List.getElem?_map,hi];rfl
      · rename_i hk
        rw [List.getElem?_eq_none (by omega)]
    · rfl
   rw [e]
   exact h.nd
theorem SrcsAt.erase (h:SrcsAt w S pb ss) (hi:ss[i]? = some s0) (m:Moves (fun c=>c=s0.b) w w' S S'):SrcsAt w' S' pb (ss.eraseIdx i):=by
 refine ⟨fun t ht=>?_,?_⟩
 · obtain ⟨j,hj,htj⟩:=mem_eraseX ht
   obtain ⟨k1,k2,k3,k4⟩:=h.at_ t (List.mem_of_getElem? htj)
   exact ⟨Box.moved k1 m k3 (h.apart hi hj htj),k2.moved m k4 (h.far_b hi (List.mem_of_getElem? htj)),m.notIn k1.lt k3,m.notIn k2.lt k4⟩
 · exact h.nd.sublist ((List.eraseIdx_sublist ss i).map (·.b))
end
theorem rise_len {hd:Bool} {l a:List Ed} (h:RiseB hd a) (hm:∀ e∈a,e∈l):a.length≤l.length:=by
 have hn:a.Nodup:=h.imp fun {x y} hxy e=>by
  rw [e,ahB_irr] at hxy
  cases hxy
 have:∀ {a l:List Ed},a.Nodup→(∀ e∈a,e∈l)→a.length≤l.length:=by
  intro a
  induction a with
  | nil=>intro l _ _;exact Nat.zero_le _
  | cons x a ih=>
   intro l hn hs
   obtain ⟨h1,h2⟩:=List.nodup_cons.1 hn
   obtain ⟨s,t,rfl⟩:=List.append_of_mem (hs x (List.mem_cons_self))
   have:=ih (l:=s++t) h2 (fun e he=>by
    have:=hs e (List.mem_cons_of_mem _ he)
    rcases List.mem_append.1 this with h3|h3
    · exact List.mem_append_left _ h3
    · rcases List.mem_cons.1 h3 with rfl|h3
      · exact absurd he h1
      · exact List.mem_append_right _ h3)
   simp only [List.length_append,List.length_cons] at this ⊢
   omega
 exact this hn hm
end Go.Proofs.YtjmkagakdhhigaaGreatDoor
