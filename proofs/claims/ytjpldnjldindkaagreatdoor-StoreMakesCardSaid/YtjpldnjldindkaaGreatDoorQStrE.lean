/- Package stream: what becomes of a page's bytes, turn. -/
import Derived.Test.YtjpldnjldindkaaGreatDoorQStrA
set_option linter.all false
set_option maxHeartbeats 0
set_option maxRecDepth 100000
namespace Go.Proofs.YtjpldnjldindkaaGreatDoor
open Go.RowKit
theorem zpU:(Tryz.prog.info? 5).map (fun i=>(i.zero,i.size,i.bytes))=some (some (.int .u8 0),1,1):=by kernel_rfl
theorem zsk:144≠5:=by decide
theorem zrj:140≠5:=by decide
section
variable {W:World} {base:Nat}
theorem zpV {rb:Nat} {A Ar:Option Addr} {n c nr cr:Nat} {l r:List UInt8} (hb:Box W rb 39 #[.slice Ar nr cr]) (o:Own W base 5 1 (.slice A n c) n (cel l)) (hr:Bs W Ar r) (hnr:nr=r.length) (hl:n+nr≤100000000) (hbase:base≤W.heap.size) :
 Calls Tryz.prog 85 #[.slice A n c, .pointer (some ⟨rb,0,none⟩)] W fun e w'=>∃ v,e = .returned v∧Own w' base 5 1 v (n+nr) (cel (l++r))∧W.grownBy w' (Value.slice A n c).ownBlock∧(v.ownBlock=(Value.slice A n c).ownBlock∨v.ownBlock=some W.heap.size):=by
 obtain ⟨i0,hi,hz0,hz1,hz2⟩:=info_parts zpU;have c0:=hb.cell 0 rfl;have O:=zH o;have HR:=zH hr;have HN:=zH hnr;rw [zax];clear hb o hr hnr;go_enter Tryz.func85,Tryz.ntmps85;go_wp2_with (at_builtin;refine zaj _ rfl _ _ 39 rfl base 5 i0 (.int .u8 0) 1 1 Tryz.underlying39 hi hz0 hz1 hz2 rfl (by decide) _ n (cel l) rfl O.out _ Ar nr cr (cel r) rfl (by rw [zaq,HN.out,Nat.mul_one]) HR.out (za3 r) (by unfold maxLen;omega) (by omega) hbase ?_;intro v2 w2 hown2 hgrow2 hblk2;have Q:=zH (And.intro hown2 (And.intro hgrow2 hblk2));clear hown2 hgrow2 hblk2)
 go_ret;exact ⟨_,rfl,Q.out.1,Q.out.2.1,Q.out.2.2⟩
end
section
variable {K:DiskOk} {w0 w w' W w2 wA V V':World} {B:PB} {S S' SA:Nat→Prop} {p q:Pst} {sb size:Nat} {nm:List UInt8}
theorem Bs.turns_ {A:Option Addr} {l:List UInt8} {F F':Nat→Prop} (h:Bs w A l) (t:Turns w w' F F') (hF:∀ ad,A=some ad→¬ F ad.block):Bs w' A l:=Turns.at_ t h hF
theorem zmf (h:PJ K w0 B p S V) (TA:Turns wA V SA S) (hw0:w0.heap.size≤wA.heap.size) {ty n:Nat} {v:Value} {xs:List Value} (o:Own V wA.heap.size ty 1 v n xs) (far:∀ g,v.ownBlock=some g→¬ S g) (hg:V.grownBy V' v.ownBlock) :
 PJ K w0 B p S V'∧Turns wA V' SA S∧(∀ {i t:Nat} {cs:Array Value},Box V i t cs→t≠ty→Box V' i t cs):=by
 have ho:Only V V' (fun i=>v.ownBlock=some i):=(Only.refl V _).grown hg (fun g hg=>.inl hg);refine ⟨(zdG K w0 B p).turn h ho (fun i hi=>⟨Nat.le_trans hw0 (o.lt i hi).1,far i hi⟩),⟨TA.only.trans ho (fun i hi=>.inr (o.lt i hi).1),TA.next⟩,fun {i t cs} bx hne=>bx.only_ ho (fun e=>o.not_box bx hne e)⟩
theorem ze9 (PK:PageOk) (h:PJ K w0 B p S w) (hZ:K.Z w0) (hS:Sizes w0) {N j:Nat} (R:Runs p N j) (hN:N≤4096) (hj:j≤100000) (b:StrAt w sb B.pb nm size) (hb:¬ S sb) (hnm:nm.length≤maxLen) (k:Int) (hk:IsI k) (TA:Turns wA w SA S) (hw0:w0.heap.size≤wA.heap.size) {A Ar:Option Addr} {n c nr cr bb rb bg:Nat} {l r:List UInt8} (o:Own w wA.heap.size 5 1 (.slice A n c) n (cel l)) (hn:n=l.length) (far:∀ g,(Value.slice A n c).ownBlock=some g→¬ S g)
 (hb2:Box w rb 39 #[.slice Ar nr cr]) (hr:Bs w Ar r) (hnr:nr=r.length) (hm:n+nr≤100000000) :
 Calls Tryz.prog 84 #[.pointer (some ⟨sb,0,none⟩), .agg #[.int .i64 k, .slice A n c], .func (.func 85) #[] #[.pointer (some ⟨rb,0,none⟩)]] w fun e w'=>e = .returned (.int .i64 ((zah p nm k (l++r)).2:Int))∧∃ S',PJ K w0 B (zah p nm k (l++r)).1 S' w'∧Turns wA w' SA S':=by
 have kA:=zA w (.cells #[.int .i64 k, .slice A n c] 140);have kB:=zK kA (zD _);have hlen:(l++r).length=n+nr:=by simp [hn,hnr]
 have CL:=zH (zpV (hb2.keep kB) (o.keep kB) (hr.keep kB) hnr hm (Nat.le_trans TA.only.size kB.size));have hlt:=h.lt;have NS:=zH (show ¬ S w.heap.size from fun e=>Nat.lt_irrefl _ (hlt _ e));have X0:=Box.new w 140 #[.int .i64 k, .slice A n c];have SK:=zH (fun (V:World) (kk:Keeps (w.alloc (.cells #[.int .i64 k, .slice A n c] 140)) V)=>And.intro ((b.keep kA).keep kk).cells.1 (And.intro ((b.keep kA).keep kk).cells.2.1 (And.intro ((X0.keep kk).cell 0 rfl) ((X0.keep kk).cell 1 rfl))));obtain ⟨s0,s1,s2,s3⟩:=SK.out _ (zab _);have oB:=o.keep kB;have GR:=zH (fun (V':World) (hg:((w.alloc (.cells #[.int .i64 k, .slice A n c] 140)).drew).grownBy V' (Value.slice A n c).ownBlock)=>zmf (h.keep kB) (TA.trans (Turns.of_keeps kB)) hw0 oB far hg);have SN:=zH (show ∀ (V':World) (hg:((w.alloc (.cells #[.int .i64 k, .slice A n c] 140)).drew).grownBy V' (Value.slice A n c).ownBlock),StrAt V' sb B.pb nm size∧Box V' w.heap.size 140 #[.int .i64 k, .slice A n c] from fun V' hg=>⟨(GR.out V' hg).2.2 (b.keep kB) zsk,(GR.out V' hg).2.2 (X0.keep (zD _)) zrj⟩);have SC:=zH (show ∀ (V':World) (hg:((w.alloc (.cells #[.int .i64 k, .slice A n c] 140)).drew).grownBy V' (Value.slice A n c).ownBlock),V'.cell? ⟨sb,0,none⟩=some (.pointer (some ⟨B.pb,0,none⟩))∧V'.cell? ⟨sb,1,none⟩=some (.string (str nm))∧V'.cell? ⟨w.heap.size,0,none⟩=some (.int .i64 k)∧V'.cell? ⟨w.heap.size,1,none⟩=some (.slice A n c) from fun V' hg=>⟨(SN.out V' hg).1.cells.1,(SN.out V' hg).1.cells.2.1,(SN.out V' hg).2.cell 0 rfl,(SN.out V' hg).2.cell 1 rfl⟩);have SD:=zH (show ∀ (V':World) (hg:((w.alloc (.cells #[.int .i64 k, .slice A n c] 140)).drew).grownBy V' (Value.slice A n c).ownBlock) (V2:World) (S':Nat→Prop),Turns V' V2 S S'→V2.cell? ⟨sb,0,none⟩=some (.pointer (some ⟨B.pb,0,none⟩))∧V2.cell? ⟨sb,1,none⟩=some (.string (str nm))∧V2.cell? ⟨w.heap.size,0,none⟩=some (.int .i64 k)∧V2.cell? ⟨w.heap.size,1,none⟩=some (.slice A n c) from fun V' hg V2 S' t=>⟨((SN.out V' hg).1.turn t hb).cells.1,((SN.out V' hg).1.turn t hb).cells.2.1,((SN.out V' hg).2.turned t NS.out).cell 0 rfl,((SN.out V' hg).2.turned t NS.out).cell 1 rfl⟩);have WR:=zH (fun (V':World) (hg:((w.alloc (.cells #[.int .i64 k, .slice A n c] 140)).drew).grownBy V' (Value.slice A n c).ownBlock) (A':Option Addr) (c':Nat) (o':Own V' wA.heap.size 5 1 (.slice A' (n+nr) c') (n+nr) (cel (l++r)))
  (hbl:(Value.slice A' (n+nr) c').ownBlock=(Value.slice A n c).ownBlock∨(Value.slice A' (n+nr) c').ownBlock=some ((w.alloc (.cells #[.int .i64 k, .slice A n c] 140)).drew).heap.size)=>
  zpM PK (GR.out V' hg).1 hZ hS R hN hj nm hnm k hk A' (n+nr) c' (l++r) hlen.symm (show Bs V' A' (l++r) from o'.at_) (fun ad e=>by
   subst e;have e1:(Value.slice (some ad) (n+nr) c').ownBlock=some ad.block:=rfl;rw [e1] at hbl;rcases hbl with e|e
   ·exact far _ e.symm
   ·injection e with e;intro hs;have:=hlt _ hs;rw [e] at this;simp at this;omega) (fun e=>by obtain ⟨_,_,hv,_,_,hz,_⟩:=o'.form;injection hv with v1 v2 v3;rw [v1] at e;rw [v3];exact (hz e).2) (by unfold maxLen;omega))
 have FIN:=zH (fun (V':World) (hg:((w.alloc (.cells #[.int .i64 k, .slice A n c] 140)).drew).grownBy V' (Value.slice A n c).ownBlock) (V2:World) (S':Nat→Prop) (t:Turns V' V2 S S')=>(GR.out V' hg).2.1.trans t);generalize zah p nm k (l++r)=r5 at *;clear h b hlt kA kB hZ hS R hk TA o oB far hr X0 hlen  hb2 hn hnr;generalize str nm=sv at *;generalize l++r=tx at *;go_enter Tryz.func84,Tryz.ntmps84;go_wp2_with fail
 go_region_held3 (fun V=>V.cell? ⟨sb,0,none⟩=some (.pointer (some ⟨B.pb,0,none⟩))∧V.cell? ⟨sb,1,none⟩=some (.string sv)∧V.cell? ⟨w.heap.size,0,none⟩=some (.int .i64 k)∧V.cell? ⟨w.heap.size,1,none⟩=some (.slice A n c)) (first|assumption|exact SK.out _ (zD _)) (first
  | (go_at_call 85;refine CL.out.mono ?_;rintro ee w3 ⟨v3,rfl,o3,g3,hbl3⟩;obtain ⟨A3,c3,rfl,-⟩:=o3.form;have sc:=SC.out _ g3;have W3:=zH (WR.out _ g3 _ _ o3 hbl3);have SD3:=zH (SD.out _ g3);have FN3:=zH (FIN.out _ g3);clear o3 g3 hbl3)
  | (go_at_call 110;refine W3.out.mono ?_;rintro ee w4 ⟨rfl,T,h4,t4⟩;have sd:=SD3.out _ _ t4;have FF:=zH (show ∃ S',PJ K w0 B r5.1 S' w4∧Turns wA w4 SA S' from ⟨T,h4,FN3.out _ _ t4⟩);clear h4 t4))
 go_wp2;go_ret;exact ⟨rfl,FF.out⟩
end
section
variable {p:Pst} {nm:List UInt8} {size:Nat}
theorem Runs.more {N j j':Nat} (R:Runs p N j) (h:j≤j'):Runs p N j':=⟨R.ok,R.len,R.b.more (by omega),R.t,R.R,R.P,by have:=R.s;omega⟩
theorem Runs.last {N j:Nat} (R:Runs p N j) (hd:DsOk p.d) (nm:List UInt8):Runs (lastT p nm).1 N (j+1):=by
 unfold lastT;split
 ·exact R.more (Nat.le_succ j)
 ·split
  ·exact R.more (Nat.le_succ j)
  ·exact R.read hd nm _
theorem Runs.seat {N j:Nat} (R:Runs p N j) (hd:DsOk p.d) (nm:List UInt8) (size:Nat) (i:Int):Runs (seatT p nm size i).1 N (j+1):=by
 unfold seatT;split
 ·exact R.more (Nat.le_succ j)
 ·have:=R.read hd nm ((i.toNat/(240/size):Nat):Int);simp only;split
  ·exact this
  ·split
   ·exact this
   ·split<;>exact this
theorem Runs.lenS {N j:Nat} (R:Runs p N j) (hd:DsOk p.d) (nm:List UInt8) (size:Nat):Runs (lenT p nm size).1 N (j+1):=by
 have:=R.last hd nm;unfold lenT;simp only;split
 ·exact this
 ·split
  ·exact this
  ·split<;>exact this
theorem Runs.getS {N j:Nat} (R:Runs p N j) (hd:DsOk p.d) (nm:List UInt8) (size:Nat) (i:Int):Runs (getT p nm size i).1 N (j+1):=by
 have:=R.seat hd nm size i;unfold getT;simp only;split<;>exact this
theorem zpW (p:Pst) (nm:List UInt8) : -1≤(lastT p nm).2.1:=by
 unfold lastT;split
 ·simp only;omega
 ·split
  ·simp only;omega
  ·simp only;omega
end
section
variable {K:DiskOk} {w0 w w' W w2:World} {B:PB} {S S':Nat→Prop} {p q:Pst} {sb size:Nat} {nm:List UInt8}
theorem zpX (PK:PageOk) (h:PJ K w0 B p S w) (hZ:K.Z w0) (hS:Sizes w0) {N j:Nat} (R:Runs p N j) (hN:N≤4096) (hj:j+1≤100000) (b:StrAt w sb B.pb nm size) (hb:¬ S sb) (hnm:nm.length≤maxLen) (hsz:1≤size∧size≤240) (hn:(findP p nm).1≤1000000) {Ar:Option Addr} {nr cr:Nat} {r:List UInt8} (hr:Bs w Ar r) (hF:∀ ad,Ar=some ad→¬ S ad.block) (hnr:nr=r.length) (hm:nr≤20000000) :
 Calls Tryz.prog 49 #[.pointer (some ⟨sb,0,none⟩), .slice Ar nr cr] w fun e w'=>e = .returned (.int .i64 ((addT p nm size r).2:Int))∧(∃ S',PJ K w0 B (addT p nm size r).1 S' w'∧Turns w w' S S')∧Runs (addT p nm size r).1 N (j+2):=by
 have kA:=zA w (.cells #[.slice Ar nr cr] 39);obtain ⟨-,-,u2⟩:=(b.keep kA).cells;have x0:=(Box.new w 39 #[.slice Ar nr cr]).cell 0 rfl;have n1:(nr:Int)≤20000000:=by omega
 have s0:(size:Int)≤240:=by omega
 unfold addT;by_cases hne:r.length=size
 ·rw [if_neg (by omega)];obtain rfl:nr=size:=(by omega);have ne0:(((nr:Nat):Int) != (nr:Int))=false:=by simp
  have LA:=zH (fun (V:World) (kk:Keeps w V)=>zid PK (h.keep kk) hZ hS R hN (by omega) (b.keep kk) hb hnm hn);have hll:=zjE h.dok R.t nm;have hnn:(lastT p nm).2.1≤1000000:=by have:=zjF p nm;omega
  have hng:=zpW p nm;have RL:=zH (R.last h.dok nm);have KA:=zH kA;have SB:=zH b;have BR:=zH hr;have HF:=zH hF;have NS:=zH hb;have HLT:=zH h.lt;have HZ:=zH hZ;have HS:=zH hS;have HW0:=zH h.kp.size;have HNR:=zH hnr;have HNM:=zH hnm;have RB:=zH (Box.new w 39 #[.slice Ar nr cr]);generalize lastT p nm=rr at *;obtain ⟨q,num,l,E⟩:=rr;simp only at LA hll hnn hng RL ⊢;obtain ⟨RS,hRS⟩:∃ RS,(if E≠0 then (q,E) else if num<0∨240<l.length+nr then zah q nm (num+1) r else zah q nm num (l++r):Pst×Nat)=RS:=⟨_,rfl⟩
  rw [hRS];obtain ⟨q',E'⟩:=RS;have HR:=zH hRS;clear hRS;simp only;clear h hZ hS R b hb hn hr hF kA hsz hne hnr hnm;go_enter Tryz.func49,Tryz.ntmps49;go_wp2;go_quiet (fail)
  have K1:=zH (zK KA.out (zam (w.alloc (.cells #[.slice Ar nr cr] 39)) nq));have RB1:=zH (RB.out.keep (zam (w.alloc (.cells #[.slice Ar nr cr] 39)) nq));have SB1:=zH (SB.out.keep K1.out);have HSW:=zH (show w.heap.size<((w.alloc (.cells #[.slice Ar nr cr] 39)).drewN nq).heap.size by simp);clear x0 u2;generalize (w.alloc (.cells #[.slice Ar nr cr] 39)).drewN nq=W1 at *;go_wp2_with fail
  refine (LA.out W1 K1.out).mono ?_;rintro e w2 ⟨v,rfl,o2,T,j2,t2,n2⟩;obtain ⟨A2,c2,rfl,hc2,hcm2,hz2,-⟩:=o2.form;obtain ⟨L,hL⟩:∃ L,l.length=L:=(⟨_,rfl⟩);have RB2:=zH (RB1.out.turned t2 (fun e=>Nat.lt_irrefl _ (HLT.out _ e)));have NBX:=zH (show w.heap.size<w2.heap.size from Nat.lt_of_lt_of_le HSW.out t2.only.size);have lt1:∀ g,(Value.slice A2 L c2).ownBlock=some g→g<w2.heap.size:=fun g hg=>(o2.lt g (by rw [←hg];exact zb6)).2
  have hw2:W1.heap.size≤w2.heap.size:=t2.only.size;have hnT:∀ i,w2.heap.size≤i→¬ T i:=fun i hi e=>by have:=j2.lt _ e;omega
  have hw0:w0.heap.size≤w2.heap.size:=j2.kp.size;rw [hL] at o2 n2 hc2 hz2 hll HR ⊢;have kC:=zA w2 (.cells #[.int .i64 num, .slice A2 L c2] 140);have J3:=zH (j2.keep kC);have T3:=zH (t2.trans (Turns.of_keeps kC));have O3:=zH (o2.keep kC);have RB3:=zH (RB2.out.keep kC);have Y3:=zH (Box.new w2 140 #[.int .i64 num, .slice A2 L c2]);have S3:=zH (SB1.out.turn T3.out NS.out);have BR3:=zH (BR.out.turns_ ((Turns.of_keeps K1.out).trans T3.out) HF.out);have N2:=zH n2;have G7:=zH (show W1.heap.size≤w2.heap.size∧w0.heap.size≤w2.heap.size∧¬ T w2.heap.size from ⟨hw2,hw0,hnT _ (Nat.le_refl _)⟩);clear o2 j2 t2 n2 lt1 kC hw2 hnT hw0 hc2 hcm2 hz2;have NSB:=zH (T3.out.notIn SB1.out.lt NS.out);have L1:(L:Int)≤16777216:=by omega
  have HLS:=zH hL;have v0:=Y3.out.cell 0 rfl;have v1:=Y3.out.cell 1 rfl;by_cases hE:E=0
  ·subst hE;by_cases hnum:num<0
   ·have HR:=zH (show zah q nm (num+1) r=(q',E') by have e:=HR.out;rw [if_neg (by simp),if_pos (.inl hnum)] at e;exact e);have u2:=S3.out.cells.2.2;go_wp2_with fail
    generalize w2.alloc (.cells #[.int .i64 num, .slice A2 L c2] 140)=w3 at *;generalize w2.heap.size=g7 at *;go_quiet (fail)
    have k4:=zam w3 nq;have J4:=zH (J3.out.keep k4);have T4:=zH (T3.out.trans (Turns.of_keeps k4));have Y4:=zH (Y3.out.keep k4);have O4:=zH (O3.out.keep k4);have RB4:=zH (RB3.out.keep k4);clear v0 v1 u2 k4 J3 T3 Y3 O3 S3 RB3 BR3;generalize w3.drewN nq=w4 at *;have J5:=zH ((J4.out.put_ ⟨g7,0,none⟩ (.int .i64 (num+1)) G7.out.2.1 G7.out.2.2).put_ ⟨g7,1,none⟩ (.slice none 0 0) G7.out.2.1 G7.out.2.2);have T5:=zH ((T4.out.put10 ⟨g7,0,none⟩ (.int .i64 (num+1)) G7.out.1).put10 ⟨g7,1,none⟩ (.slice none 0 0) G7.out.1);have RB5:=zH ((RB4.out.far (p:=⟨g7,0,none⟩) (Nat.ne_of_lt NBX.out) (.int .i64 (num+1))).far (p:=⟨g7,1,none⟩) (Nat.ne_of_lt NBX.out) (.slice none 0 0));have Y5:=zH ((Y4.out.set 0 (.int .i64 (num+1))).set 1 (.slice none 0 0));have S5:=zH (SB1.out.turn T5.out NS.out);have BR5:=zH (BR.out.turns_ ((Turns.of_keeps K1.out).trans T5.out) HF.out);have v0:=Y4.out.cell 0 rfl;have v1:=Y4.out.cell 1 rfl;have z0:=Y4.out.frozen 0;have z1:=Y4.out.frozen 1;have CL:=zH (ze9 PK J5.out HZ.out HS.out RL.out hN (by omega) S5.out NSB.out HNM.out (num+1) ⟨by omega,by omega⟩ T5.out (Nat.le_trans HW0.out K1.out.size) (Own.nil _ _ _ _) (l:=[]) (bb:=0) (bg:=0) rfl (fun g hg=>by cases hg) RB5.out BR5.out HNR.out (by omega));have RW:=zH (RL.out.write J5.out.dok nm (num+1) r);rw [List.nil_append] at CL;rw [HR.out] at CL RW;have yy0:=Y5.out.cell 0 rfl;have yy1:=Y5.out.cell 1 rfl;go_wp2_with fail
    refine CL.out.mono ?_;rintro e w6 ⟨rfl,S',h6,t6⟩;have FF:=zH (show ∃ S',PJ K w0 B q' S' w6∧Turns w w6 S S' from ⟨S',h6,(Turns.of_keeps K1.out).trans t6⟩);clear h6 t6;go_wp2;go_ret;exact ⟨rfl,FF.out,RW.out⟩
   ·have hnb:decide (num<0)=false:=decide_eq_false hnum;by_cases hful:240<L+nr
    ·have HR:=zH (show zah q nm (num+1) r=(q',E') by have e:=HR.out;rw [if_neg (by simp),if_pos (.inr hful)] at e;exact e);have hfi:(240:Int)<(L:Int)+(nr:Int):=(by omega);have hfb:decide (240<L+nr)=true:=decide_eq_true hful;have u2:=S3.out.cells.2.2;go_wp2_with fail
     generalize w2.alloc (.cells #[.int .i64 num, .slice A2 L c2] 140)=w3 at *;generalize w2.heap.size=g7 at *;go_quiet (fail)
     have k4:=zam w3 nq;have J4:=zH (J3.out.keep k4);have T4:=zH (T3.out.trans (Turns.of_keeps k4));have Y4:=zH (Y3.out.keep k4);have O4:=zH (O3.out.keep k4);have RB4:=zH (RB3.out.keep k4);clear v0 v1 u2 k4 J3 T3 Y3 O3 S3 RB3 BR3;generalize w3.drewN nq=w4 at *;have J5:=zH ((J4.out.put_ ⟨g7,0,none⟩ (.int .i64 (num+1)) G7.out.2.1 G7.out.2.2).put_ ⟨g7,1,none⟩ (.slice none 0 0) G7.out.2.1 G7.out.2.2);have T5:=zH ((T4.out.put10 ⟨g7,0,none⟩ (.int .i64 (num+1)) G7.out.1).put10 ⟨g7,1,none⟩ (.slice none 0 0) G7.out.1);have RB5:=zH ((RB4.out.far (p:=⟨g7,0,none⟩) (Nat.ne_of_lt NBX.out) (.int .i64 (num+1))).far (p:=⟨g7,1,none⟩) (Nat.ne_of_lt NBX.out) (.slice none 0 0));have Y5:=zH ((Y4.out.set 0 (.int .i64 (num+1))).set 1 (.slice none 0 0));have S5:=zH (SB1.out.turn T5.out NS.out);have BR5:=zH (BR.out.turns_ ((Turns.of_keeps K1.out).trans T5.out) HF.out);have v0:=Y4.out.cell 0 rfl;have v1:=Y4.out.cell 1 rfl;have z0:=Y4.out.frozen 0;have z1:=Y4.out.frozen 1;have CL:=zH (ze9 PK J5.out HZ.out HS.out RL.out hN (by omega) S5.out NSB.out HNM.out (num+1) ⟨by omega,by omega⟩ T5.out (Nat.le_trans HW0.out K1.out.size) (Own.nil _ _ _ _) (l:=[]) (bb:=0) (bg:=0) rfl (fun g hg=>by cases hg) RB5.out BR5.out HNR.out (by omega));have RW:=zH (RL.out.write J5.out.dok nm (num+1) r);rw [List.nil_append] at CL;rw [HR.out] at CL RW;have yy0:=Y5.out.cell 0 rfl;have yy1:=Y5.out.cell 1 rfl;go_wp2_with fail
     refine CL.out.mono ?_;rintro e w6 ⟨rfl,S',h6,t6⟩;have FF:=zH (show ∃ S',PJ K w0 B q' S' w6∧Turns w w6 S S' from ⟨S',h6,(Turns.of_keeps K1.out).trans t6⟩);clear h6 t6;go_wp2;go_ret;exact ⟨rfl,FF.out,RW.out⟩
    ·have HR:=zH (show zah q nm num (l++r)=(q',E') by have e:=HR.out;rw [if_neg (by simp),if_neg (by omega)] at e;exact e);have hfi:(L:Int)+(nr:Int)≤240:=(by omega);have hfc:decide ((240:Int)<(L:Int)+(nr:Int))=false:=decide_eq_false (by omega);have hfb:decide (240<L+nr)=false:=decide_eq_false hful;have u2:=S3.out.cells.2.2;go_wp2_with fail
     generalize w2.alloc (.cells #[.int .i64 num, .slice A2 L c2] 140)=w3 at *;generalize w2.heap.size=g7 at *;go_quiet (fail)
     have k4:=zam w3 nq;have J4:=zH (J3.out.keep k4);have T4:=zH (T3.out.trans (Turns.of_keeps k4));have Y4:=zH (Y3.out.keep k4);have O4:=zH (O3.out.keep k4);have RB4:=zH (RB3.out.keep k4);clear v0 v1 u2 k4 J3 T3 Y3 O3 S3 RB3 BR3;generalize w3.drewN nq=w4 at *;have S4:=zH (SB1.out.turn T4.out NS.out);have BR4:=zH (BR.out.turns_ ((Turns.of_keeps K1.out).trans T4.out) HF.out);have CL:=zH (ze9 PK J4.out HZ.out HS.out RL.out hN (by omega) S4.out NSB.out HNM.out num ⟨by omega,by omega⟩ T4.out (Nat.le_trans HW0.out K1.out.size) O4.out (l:=l) (bb:=0) (bg:=0) HLS.out.symm N2.out RB4.out BR4.out HNR.out (by omega));have RW:=zH (RL.out.write J4.out.dok nm num (l++r));rw [HR.out] at CL RW;have v0:=Y4.out.cell 0 rfl;have v1:=Y4.out.cell 1 rfl;go_wp2_with fail
     refine CL.out.mono ?_;rintro e w6 ⟨rfl,S',h6,t6⟩;have FF:=zH (show ∃ S',PJ K w0 B q' S' w6∧Turns w w6 S S' from ⟨S',h6,(Turns.of_keeps K1.out).trans t6⟩);clear h6 t6;go_wp2;go_ret;exact ⟨rfl,FF.out,RW.out⟩
  ·have hne:((E:Int) != 0)=true:=by rw [bne_iff_ne];omega
   have FF:=zH (show ∃ S',PJ K w0 B q S' (w2.alloc (.cells #[.int .i64 num, .slice A2 L c2] 140))∧Turns w (w2.alloc (.cells #[.int .i64 num, .slice A2 L c2] 140)) S S' from ⟨T,J3.out,(Turns.of_keeps K1.out).trans T3.out⟩);have RW:=zH (RL.out.more (show j+1≤j+2 by omega));go_wp2;go_ret;have e:=HR.out;rw [if_pos hE] at e;injection e with e1 e2;subst e1;subst e2;exact ⟨rfl,FF.out,RW.out⟩
 ·rw [if_pos hne];have neb:(((nr:Nat):Int) != (size:Int))=true:=by rw [bne_iff_ne];omega
  have nec:decide (nr=size)=false:=decide_eq_false (by omega);have ned:decide ((nr:Int)=(size:Int))=false:=decide_eq_false (by omega);have KA:=zH kA;have J1:=zH h;have RM:=zH (R.more (show j≤j+2 by omega));clear h hZ hS R b hb hn hr hF kA hsz hne hnr hnm;go_enter Tryz.func49,Tryz.ntmps49;go_wp2;go_quiet (fail)
  have k1:=zK KA.out (zam (w.alloc (.cells #[.slice Ar nr cr] 39)) nq);have J2:=zH (J1.out.keep k1);have K1:=zH k1;clear k1;go_wp2;go_ret;exact ⟨rfl,⟨S,J2.out,Turns.of_keeps K1.out⟩,RM.out⟩
end
end Go.Proofs.YtjpldnjldindkaaGreatDoor
