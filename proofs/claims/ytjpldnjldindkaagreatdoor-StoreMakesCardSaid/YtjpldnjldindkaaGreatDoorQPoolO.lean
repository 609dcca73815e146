/- Package pool: seek. -/
import Derived.Test.YtjpldnjldindkaaGreatDoorQPoolL
import Derived.WalkMore
set_option linter.all false
set_option maxHeartbeats 0
set_option maxRecDepth 100000
namespace Go.Proofs.YtjpldnjldindkaaGreatDoor
open Go.RowKit
section
variable {w w':World} {B:PB} {X:PX} {Fp Fp':Nat→Prop} {sl sl':List (Option Fx)} {dl:List (List UInt8×List Nat)} {t t':PT}
def Fx.with_ (x:Fx) (pins:Nat) (used:Bool):Fx:={x with f:={x.f with pins:=pins,used:=used} }
theorem FxAt.with_ {db:Nat} {x:Fx} (F:FxAt w db x) (pins:Nat) (used:Bool) (ho:Only w w' (fun c=>c=x.blk)) (hb:Box w' x.blk 196 (x.with_ pins used).cells):FxAt w' db (x.with_ pins used):=
 ⟨hb,(ho.block _ F.file.lt (zal F.file F.box (by decide))).trans F.file,F.text.same fun g hg=>by
  obtain ⟨c,f,hc⟩:=F.text.cells hg;exact ho.block _ (zJ9.1 hc).1 (zal hc F.box (by decide))⟩
theorem PIn.with_ (h:PIn w B X Fp sl dl t) {i:Nat} {x:Fx} (hx:sl[i]? = some (some x)) (pins:Nat) (used:Bool) (ho:Only w w' (fun c=>c=x.blk)) (hb:Box w' x.blk 196 (x.with_ pins used).cells) :
 PIn w' B X Fp (sl.set i (some (x.with_ pins used))) dl t:=
 h.frame hx rfl rfl rfl (fun _ h=>h) (fun j hj=>Nat.lt_of_lt_of_le (h.lt j hj) ho.size) ho ((h.fr i x hx).with_ pins used ho hb) (h.inP.fr i x hx).2
theorem zjt (sl:List (Option Fx)) (i:Nat) (x:Fx) (pins:Nat) (used:Bool):frs (sl.set i (some (x.with_ pins used)))=(frs sl).set i (some {x.f with pins:=pins,used:=used}):=zbp _ _ _
def Full (sl:List (Option Fx)):Prop:=∀ i,i<sl.length→∃ x,sl[i]? = some (some x)
theorem Full.set {sl:List (Option Fx)} (h:Full sl) (i:Nat) (x:Fx):Full (sl.set i (some x)):=fun j hj=>by
 rw [List.length_set] at hj;rw [List.getElem?_set];split
 ·rw [if_pos (by omega)];exact ⟨x,rfl⟩
 ·exact h j hj
def SeekV (w:World) (B:PB) (X:PX) (Fp:Nat→Prop) (n:Nat) (dl:List (List UInt8×List Nat)) (t:PT) (r:List (Option Frm)×Nat×Bool) (e:Ending) (w':World):Prop:=
 e = .returned (.bool r.2.2)∧∃ sl',sl'.length=n∧Full sl'∧frs sl'=r.1∧PIn w' B X Fp sl' dl {t with hand:=r.2.1}∧Turns w w' Fp Fp
theorem zps (h:PIn w B X Fp sl dl t) (hh:t.hand<sl.length) (hf:Full sl) {M:Nat} (hb:Bnd M (frs sl)) (hM:M≤1000000000000) :
 Calls Tryz.prog 212 #[.pointer (some ⟨B.pb,0,none⟩)] w (SeekV w B X Fp sl.length dl t (seekS (2*sl.length) (frs sl) t.hand)):=by
 obtain ⟨r,hr⟩:∃ r,seekS (2*sl.length) (frs sl) t.hand=r:=⟨_,rfl⟩
 rw [hr];obtain ⟨n,hn⟩:∃ n,sl.length=n:=⟨_,rfl⟩
 rw [hn] at hr ⊢;have hm:=h.most;have p1:w.cell? ⟨B.pb,1,none⟩=some (.slice (some ⟨B.gr,0,none⟩) n n):=by rw [←hn];exact h.box.cell 1 rfl
 have hni:(n:Int)≤4096:=by omega
 have H:=zH h;have HR:=zH hr;have HF:=zH hf;have HN:=zH hn;have HH:=zH hh;have HB:=zH hb;have hn2:IntKind.i64.wrap (2*(n:Int))=((2*n:Nat):Int):=by rw [IntWalk.i64_in _ (by omega)];omega
 have hn3:2*(n:Int)=((2*n:Nat):Int):=by omega
 obtain ⟨N,hN⟩:∃ N,2*n=N:=⟨_,rfl⟩
 rw [hN] at hn2 hn3;have HNN:=zH hN;clear h hr hf hn hh hb hN;go_enter Tryz.func212,Tryz.ntmps212;go_wp2_with fail
 go_step3
 go_wp2_with fail
 go_step3
 go_wp2;go_loopw [3,11] (fun f i wr=>∃ (m:Nat) (s1:List (Option Fx)) (hd:Nat),f = .bool false∧i = .int .i64 m∧m≤N∧Hid (s1.length=n)∧Hid (Full s1)∧Hid (hd<n)∧Hid (PIn wr B X Fp s1 dl {t with hand:=hd})∧Hid (Turns w wr Fp Fp)∧Hid (seekS (N-m) (frs s1) hd=r)∧Hid (Bnd M (frs s1))) (fun _ i _=>N-(intOf i).toNat)
 case atStart=>exact ⟨0,sl,t.hand,rfl,rfl,Nat.zero_le _,HN,HF,zH (by rw [←HN.out];exact HH.out),H,zH (Turns.refl _ _),zH (by rw [Nat.sub_zero,←HNN.out];exact HR.out),HB⟩
 case round=>
  obtain ⟨m,s1,hd,rfl,rfl,hmN,L1,F1,D1,I1,T1,S1,B1⟩:=hrel;by_cases hlt:m<N
  ·have hlti:(m:Int)<(N:Int):=(by omega);obtain ⟨x,hx⟩:=F1.out hd (by rw [L1.out];exact D1.out);have hf:=zaH hx;have FX:=I1.out.fr hd x hx;have c1:wr.cell? ⟨B.pb,1,none⟩=some (.slice (some ⟨B.gr,0,none⟩) n n):=by rw [←L1.out];exact I1.out.box.cell 1 rfl
   have c4:wr.cell? ⟨B.pb,4,none⟩=some (.int .i64 (hd:Int)):=I1.out.box.cell 4 rfl;have r1:wr.cell? ⟨B.gr,hd,none⟩=some (.pointer (some ⟨x.blk,0,none⟩)):=I1.out.row.cell hd (zbx hx);have q4:wr.cell? ⟨x.blk,4,none⟩=some (.int .i64 (x.f.pins:Int)):=FX.box.cell 4 rfl;have q5:wr.cell? ⟨x.blk,5,none⟩=some (.bool x.f.used):=FX.box.cell 5 rfl;have hdi:(hd:Int)<(n:Int):=by have:=D1.out;omega
   have hpM:=(B1.out hd x.f hf).2;have hpi:(x.f.pins:Int)≤1000000000000:=(by omega);have S2:=S1.out;rw [show N-m=(N-(m+1))+1 by omega,zel _ _ _ hf,zdg,L1.out] at S2;by_cases hp:0<x.f.pins
   ·rw [if_pos hp] at S2;have hp2:(0:Int)<(x.f.pins:Int):=(by omega);have ST:=zH (zf3 (I1.out.keep (zD wr)) (by show hd<s1.length;rw [L1.out];exact D1.out));have S3:=zH S2;generalize x.f.pins=pp at *;generalize x.f.used=uu at *;generalize x.blk=xb at *;clear hf FX hx S2 hpM hp hlt;go_wp2;go_region
    go_wp2_with fail
    refine ST.out.mono ?_;rintro e w3 ⟨rfl,I3,T3⟩;have T4:=zH (T1.out.trans ((Turns.of_keeps (zD wr)).trans T3));have I4:=zH (show PIn w3 B X Fp s1 dl {t with hand:=(hd+1)%n} by rw [←L1.out];exact I3);clear I3 T3;go_wp2;go_roundw
    case rel=>exact ⟨m+1,s1,(hd+1)%n,rfl,by go_num,by omega,L1,F1,zH (Nat.mod_lt _ (by have:=D1.out;omega)),I4,T4,S3,B1⟩
    case measure=>simp [intOf];omega
   ·rw [if_neg hp] at S2;have hp2:¬ ((0:Int)<(x.f.pins:Int)):=(by omega);by_cases hu:x.f.used=true
    ·rw [if_pos hu] at S2;have f5:wr.drew.frozen? ⟨x.blk,5,none⟩=false:=Box.frozen (w:=wr.drew) FX.box 5;have OS:Only wr (wr.drew.setCell ⟨x.blk,5,none⟩ (.bool false)) (fun c=>c=x.blk):=zc3 _ _ _ _;have I2:PIn (wr.drew.setCell ⟨x.blk,5,none⟩ (.bool false)) B X Fp (s1.set hd (some (x.with_ x.f.pins false))) dl {t with hand:=hd}:=I1.out.with_ hx x.f.pins false OS (ze7 FX.box 5 _);have ST:=zH (zf3 I2 (by show hd<(s1.set hd _).length;rw [List.length_set,L1.out];exact D1.out));have L2:=zH (show (s1.set hd (some (x.with_ x.f.pins false))).length=n by rw [List.length_set];exact L1.out);have F2:=zH (F1.out.set hd (x.with_ x.f.pins false));have fe:=zjt s1 hd x x.f.pins false;have S3:=zH (show seekS (N-(m+1)) (frs (s1.set hd (some (x.with_ x.f.pins false)))) ((hd+1)%n)=r by rw [fe];exact S2);have B2:=zH (show Bnd M (frs (s1.set hd (some (x.with_ x.f.pins false)))) by rw [fe];exact B1.out.set hd (fun f e=>by cases e;exact B1.out hd x.f hf));have T2:=zH (T1.out.trans (Turns.only_in OS (fun i e=>by rw [e];exact (I1.out.inP.fr hd x hx).1)));generalize s1.set hd (some (x.with_ x.f.pins false))=s2 at *;rw [hu] at q5;generalize x.f.pins=pp at *;generalize x.blk=xb at *;clear hf FX hx S2 hpM hp hlt I2 OS fe hu;go_wp2;go_region
     go_wp2_with fail
     refine ST.out.mono ?_;rintro e w3 ⟨rfl,I3,T3⟩;have T4:=zH (T2.out.trans T3);have I4:=zH (show PIn w3 B X Fp s2 dl {t with hand:=(hd+1)%n} by rw [←L2.out];exact I3);clear I3 T3;go_wp2;go_roundw
     case rel=>exact ⟨m+1,s2,(hd+1)%n,rfl,by go_num,by omega,L2,F2,zH (Nat.mod_lt _ (by have:=D1.out;omega)),I4,T4,S3,B2⟩
     case measure=>simp [intOf];omega
    ·rw [if_neg hu] at S2;have hu2:x.f.used=false:=(by cases e:x.f.used with|false=>rfl|true=>exact absurd e hu);rw [hu2] at q5;have R2:=zH S2;generalize x.f.pins=pp at *;generalize x.blk=xb at *;clear hf FX hx S2 hpM hp hlt hu hu2;go_wp2;go_region
     go_wp2_with fail
     rw [Exit.noGoto_ret];go_ret;exact ⟨by rw [←R2.out];rfl,s1,L1.out,F1.out,by rw [←R2.out],by rw [←R2.out];exact I1.out.keep (zD wr),T1.out.trans (Turns.of_keeps (zD wr))⟩
  ·obtain rfl:m=N:=(by omega);have S2:=S1.out;rw [Nat.sub_self] at S2;have R2:=zH (show (frs s1,hd,false)=r from S2);clear hlt hmN S2;go_wp2_with fail
   rw [Exit.noGoto_ret];go_ret;exact ⟨by rw [←R2.out];rfl,s1,L1.out,F1.out,by rw [←R2.out],by rw [←R2.out];exact I1.out,T1.out⟩
end
section
variable {K:DiskOk} {w0 w w':World} {B:PB} {X X':PX} {Fd Fp Fd' Fp':Nat→Prop} {sl sl':List (Option Fx)} {p p':Pst}
theorem zpt {fr:List (Option Frm)} (h:¬ resN fr<fr.length):∀ i,i<fr.length→∃ f,fr[i]? = some (some f):=fun i hi=>by
 have h1:resN fr=fr.length:=by have:=zgD fr;omega
 have h2:=(List.countP_eq_length.1 h1) fr[i] (List.getElem_mem hi);rw [zG9 hi];cases e:fr[i] with
 | none=>rw [e] at h2;cases h2
 | some f=>exact ⟨f,rfl⟩
def TookV (K:DiskOk) (w0 w:World) (B:PB) (F:Nat→Prop) (q:Pst×Nat×Nat) (e:Ending) (w':World):Prop:=
 e = .returned (.tuple #[.int .i64 (q.2.1:Int), .int .i64 (q.2.2:Int)])∧∃ Fd' Fp' X' sl',PHave K w0 w' B Fd' Fp' X' sl' q.1∧Turns w w' F (Both Fd' Fp')
theorem PIn.tal {dl:List (List UInt8×List Nat)} {t t':PT} (h:PIn w B X Fp sl dl t) (e:t=t'):PIn w B X Fp sl dl t':=e▸h
theorem zpu (PK:PageOk) (h:PHave K w0 w B Fd Fp X sl p) (hZ:K.Z w0) (hS:Sizes w0) {M:Nat} (hb:Bnd M p.fr) (hM:M≤1000000000000) (hbig:p.mostR≤1000000) :
 Calls Tryz.prog 192 #[.pointer (some ⟨B.pb,0,none⟩)] w (TookV K w0 w B (Both Fd Fp) (takeS p)):=by
 obtain ⟨n,hn⟩:∃ n,sl.length=n:=⟨_,rfl⟩
 have hfl:p.fr.length=n:=by rw [h.fr,zdg,hn]
 have p1:w.cell? ⟨B.pb,1,none⟩=some (.slice (some ⟨B.gr,0,none⟩) n n):=by rw [←hn];exact h.I.box.cell 1 rfl
 have p5:w.cell? ⟨B.pb,5,none⟩=some (.int .i64 (resN p.fr:Int)):=h.I.box.cell 5 rfl;have hm:=h.I.most;have hni:(n:Int)≤4096:=by omega
 by_cases hr:resN p.fr<p.fr.length
 ·have e:takeS p=(p,zcU p.fr,0):=by unfold takeS;rw [if_pos hr]
  rw [e];rw [hfl] at hr;have hri:(resN p.fr:Int)<(n:Int):=(by omega);have hfe:zcU p.fr=(sl.map (Option.map Fx.blk)).findIdx (·.isNone):=by
   rw [h.fr];unfold zcU frs;rw [List.findIdx_map,List.findIdx_map];congr 1
   funext o
   cases o<;>rfl
  have IX:=zH (fun (V:World) (kk:Keeps w V)=>show Calls Tryz.prog 211 #[.slice (some ⟨B.gr,0,none⟩) n n, .pointer none] V (fun e w'=>e = .returned (.int .i64 (zcU p.fr:Int))∧V=w') from by
   rw [hfe];refine zjj (some ⟨B.gr,0,none⟩) n n (sl.map (Option.map Fx.blk)) V ?_ (by rw [List.length_map,hn]) (by omega) ?_
   ·refine .inr ⟨_,rfl,(h.I.row.keep kk).lt,fun j u hu=>?_⟩;rw [Addr.add_lit,Nat.zero_add];refine (h.I.row.keep kk).cell j ?_;unfold rowC;rw [List.map_map] at hu;rw [List.getElem?_toArray];exact hu
   ·have h1:=zgC (fr:=p.fr) (by rw [hfl];exact hr);rw [h.fr] at h1;have h2:=zf2 h1;exact ⟨none,List.mem_map.2 ⟨none,List.mem_of_getElem? h2,rfl⟩,rfl⟩)
  have H:=zH h;generalize zcU p.fr=fe at *;generalize resN p.fr=rn at *;clear h hb hfl e hfe hr hn;go_enter Tryz.func192,Tryz.ntmps192;go_wp2;go_region
  go_wp2_with fail
  refine (IX.out _ (zD w)).mono ?_;rintro e w1 ⟨rfl,rfl⟩;go_wp2;go_returns;exact ⟨rfl,Fd,Fp,X,sl,H.out.keep (zD w),Turns.of_keeps (zD w)⟩
 ·have hri:¬ ((resN p.fr:Int)<(n:Int)):=(by omega);have hfull:Full sl:=fun i hi=>by
   obtain ⟨f,hf⟩:=zpt hr i (by omega);rw [h.fr] at hf;obtain ⟨x,hx,-⟩:=zbO hf;exact ⟨x,hx⟩
  obtain ⟨q1,q2,q3⟩:=zca (2*n) p.fr p.hand;have hsk:=h.ok.seek (2*n);have SK:=zH (fun (V:World) (kk:Keeps w V)=>zps (h.I.keep kk) (by show p.hand<sl.length;have:=h.ok.hand;omega) hfull (M:=M) (by rw [←h.fr];exact hb) hM);rw [hn,←h.fr] at SK;unfold takeS;rw [if_neg hr,hfl];simp only;have HB:=zH (zfq q1.symm hb);obtain ⟨r,hrr⟩:∃ r,seekS (2*n) p.fr p.hand=r:=⟨_,rfl⟩
  have SK:=SK;simp only [show (tally p.hand p.fr p.mostR p.mostP).hand=p.hand from rfl] at SK;rw [hrr] at SK q1 q2 q3 hsk HB ⊢;obtain ⟨fr1,hd1,ok1⟩:=r;simp only at q1 q2 q3 hsk HB ⊢;have e1:=zk3 q1;have e2:=zd2 q1;have HV:=zH (fun (V:World) (s1:List (Option Fx)) (V0:World) (kk:Keeps w V0) (hl:s1.length=n) (hf1:frs s1=fr1) (I:PIn V B X Fp s1 p.dl {tally p.hand p.fr p.mostR p.mostP with hand:=hd1}) (T:Turns V0 V Fp Fp)=>
   PHave.pool (p':={p with fr:=fr1,hand:=hd1}) (h.keep kk) rfl (I.tal (by unfold tally;simp only;rw [e1,e2])) T hf1.symm hsk)
  cases ok1 with
  | false=>
   simp only [if_true];have H:=zH h;generalize resN p.fr=rn at *;clear h hb hfl hr hn hfull q1 q2 q3 hsk hrr e1 e2;go_enter Tryz.func192,Tryz.ntmps192;go_wp2;go_region
   go_wp2_with fail
   refine (SK.out _ (zD w)).mono ?_;rintro e w1 ⟨rfl,s1,hl1,hf1,hq1,I1,T1⟩;obtain ⟨h2,T2⟩:=HV.out w1 s1 _ (zD w) hl1 hq1 I1 T1;have H2:=zH h2;have T3:=zH ((Turns.of_keeps (S:=Both Fd Fp) (zD w)).trans T2);clear h2 T2 hf1 hq1 I1 T1;go_wp2;go_returns;exact ⟨rfl,_,_,_,_,H2.out,T3.out⟩
  | true=>
   obtain ⟨f,ef,hp0,-⟩:=q3 rfl;simp only [Bool.true_eq_false,if_false];rw [ef];simp only;have hkey:some (f.name,f.k)∈zac fr1:=mem_keys.2 ⟨_,f,ef,rfl,rfl⟩;have hV:=hsk.save f hkey;obtain ⟨g1,g2,g3,g4⟩:=zcf {p with fr:=fr1,hand:=hd1} f;obtain ⟨-,-,d3⟩:=zhk {p with fr:=fr1,hand:=hd1} f hsk.dl hkey;obtain ⟨q,E,hq⟩:∃ q E,saveS {p with fr:=fr1,hand:=hd1} f=(q,E):=⟨_,_,rfl⟩
   rw [hq] at hV g1 g2 g3 g4 d3 ⊢;simp only at g1 g2 g3 g4 d3 hV ⊢;have hl1:fr1.length=n:=by have:=congrArg List.length q1;rw [zfn,zfn,hfl] at this;exact this
   have hdn:hd1<n:=by rw [←hl1];exact (zI9.1 ef).1
   have SV:=zH (fun (V:World) (Fd1 Fp1:Nat→Prop) (X1:PX) (s1:List (Option Fx)) (x:Fx) (hh:PHave K w0 V B Fd1 Fp1 X1 s1 {p with fr:=fr1,hand:=hd1}) (hx:s1[hd1]? = some (some x)) (hxf:x.f=f)=>
    zpq PK hh hZ hS hx (M:=M) HB.out hM (p':=q) (E:=E) (by rw [hxf];exact hq))
   by_cases hE:E=0
   ·subst hE;rw [if_neg (by simp)];have hclean:=d3 rfl;obtain ⟨rn,hrn⟩:∃ rn,resN p.fr=rn+1:=⟨resN p.fr-1,by have:=h.ok.n;omega⟩
    have hres:resN (q.fr.set hd1 none)=rn:=by
     have:=zbe (fun o:Option Frm=>o.isSome) (l:=fr1) (i:=hd1) (y:=some f) none ef;rw [g1];unfold resN;unfold resN at e1 hrn;simp only [Option.isSome_none,Option.isSome_some,Bool.false_eq_true,if_false,if_true,Nat.add_zero] at this;omega
    have hpin:pinN (q.fr.set hd1 none)=pinN p.fr:=by
     have:=zbe isPin (l:=fr1) (i:=hd1) (y:=some f) none ef;rw [g1];unfold pinN;unfold pinN at e2;simp only [isPin,hp0,Nat.lt_irrefl,decide_false,Bool.false_eq_true,if_false,Nat.add_zero] at this;omega
    have hql:q.fr.length=n:=(by rw [g1,hl1]);have OKF:=zH (show PstOk {q with fr:=q.fr.set hd1 none,hand:=(hd1+1)%q.fr.length} from hV.empty (by rw [g1];exact ef) hclean _ (Nat.mod_lt _ (by rw [hql];omega)));have EM:=zH (fun (V:World) (Fd1 Fp1:Nat→Prop) (X1:PX) (s1:List (Option Fx)) (x:Fx) (hh:PHave K w0 V B Fd1 Fp1 X1 s1 q) (hx:s1[hd1]? = some (some x)) (hxf:x.f=f)=>
     zns hh.I hx (by rw [hxf];exact hclean) (rn:=rn) (by show resN q.fr=rn+1;rw [g1,e1,hrn]) (by show resN q.fr≤q.mostR;exact hV.mostR) (by show q.mostR≤_;rw [g3];exact hbig))
    have LAST:=zH (fun (V V':World) (Fd1 Fp1:Nat→Prop) (X1 X2:PX) (s1:List (Option Fx)) (hh:PHave K w0 V B Fd1 Fp1 X1 s1 q) (hs:s1.length=n) (I:PIn V' B X2 Fp1 (s1.set hd1 none) q.dl {({tally q.hand q.fr q.mostR q.mostP with rn:=rn}:PT) with hand:=(hd1+1)%n}) (T:Turns V V' Fp1 Fp1)=>
     PHave.pool (p':={q with fr:=q.fr.set hd1 none,hand:=(hd1+1)%q.fr.length}) hh rfl (I.tal (by unfold tally;simp only;rw [hres,hpin,hql,g1,e2])) T (by show q.fr.set hd1 none=_;rw [zbp,hh.fr];rfl) OKF.out)
    have SLX:=zH (fun (s1:List (Option Fx)) (hf1:frs s1=fr1)=>show ∃ x,s1[hd1]? = some (some x)∧x.f=f from zbO (by rw [hf1];exact ef));have HDQ:=zH (show q.hand=hd1 from g2);have hdi:(hd1:Int)<(n:Int):=by omega
    have HNX:=zH hdn;have P4:=zH (fun (V:World) (Fd1 Fp1:Nat→Prop) (X1:PX) (s1:List (Option Fx)) (x:Fx) (hh:PHave K w0 V B Fd1 Fp1 X1 s1 {p with fr:=fr1,hand:=hd1}) (hl:s1.length=n) (hx:s1[hd1]? = some (some x))=>show V.cell? ⟨B.pb,1,none⟩=some (.slice (some ⟨B.gr,0,none⟩) n n)∧V.cell? ⟨B.pb,4,none⟩=some (.int .i64 (hd1:Int))∧V.cell? ⟨B.gr,hd1,none⟩=some (.pointer (some ⟨x.blk,0,none⟩)) from
     ⟨by rw [←hl];exact hh.I.box.cell 1 rfl,hh.I.box.cell 4 rfl,hh.I.row.cell hd1 (zbx hx)⟩)
    generalize hrnp:resN p.fr=rp at *;clear h hb hfl hr hn hfull q1 q2 q3 hsk hrr e1 e2 hV g1 g3 g4 d3 hq hclean hrn hres hpin hql hl1 hdn ef hkey hp0;go_enter Tryz.func192,Tryz.ntmps192;go_wp2;go_region
    go_wp2_with fail
    refine (SK.out _ (zD w)).mono ?_;rintro e w1 ⟨rfl,s1,hl1,hf1,hq1,I1,T1⟩;obtain ⟨h2,T2⟩:=HV.out w1 s1 _ (zD w) hl1 hq1 I1 T1;obtain ⟨x,hx,hxf⟩:=SLX.out s1 hq1;obtain ⟨c1,c4,cr⟩:=P4.out _ _ _ _ _ _ h2 hl1 hx;have SC:=zH (SV.out _ _ _ _ _ _ h2 hx hxf);have T3:=zH ((Turns.of_keeps (S:=Both Fd Fp) (zD w)).trans T2);have HX:=zH (And.intro hl1 (And.intro hx hxf));clear h2 T2 hf1 hq1 I1 T1 hl1 hx hxf;go_wp2_with fail
    refine SC.out.mono ?_;rintro e w3 ⟨rfl,Fd3,Fp3,X3,h3,T4⟩;have EC:=zH (EM.out _ _ _ _ _ _ h3 HX.out.2.1 HX.out.2.2);have H3:=zH h3;have T5:=zH (T3.out.trans T4);clear h3 T4 c1 c4 cr;go_wp2_with fail
    refine EC.out.mono ?_;rintro e w4 ⟨rfl,⟨X4,I4⟩,T6⟩;have ST:=zH (zf3 I4 (by show q.hand<(s1.set hd1 none).length;rw [List.length_set,HX.out.1,HDQ.out];exact HNX.out));have T7:=zH T6;clear I4 T6;go_wp2_with fail
    refine ST.out.mono ?_;rintro e w5 ⟨rfl,I5,T8⟩;have I6:PIn w5 B X4 Fp3 (s1.set hd1 none) q.dl {({tally q.hand q.fr q.mostR q.mostP with rn:=rn}:PT) with hand:=(hd1+1)%n}:=by
     have:=I5;rw [List.length_set,HX.out.1] at this;exact this.tal (by unfold tally;simp only;rw [HDQ.out])
    obtain ⟨h9,T9⟩:=LAST.out _ _ _ _ _ _ _ H3.out HX.out.1 I6 (T7.out.trans T8);have H9:=zH h9;have TT:=zH (T5.out.trans T9);clear h9 T9 I5 I6 T8;go_wp2;go_returns;exact ⟨rfl,_,_,_,_,H9.out,TT.out⟩
   ·rw [if_pos hE];have SLX:=zH (fun (s1:List (Option Fx)) (hf1:frs s1=fr1)=>show ∃ x,s1[hd1]? = some (some x)∧x.f=f from zbO (by rw [hf1];exact ef));have hdi:(hd1:Int)<(n:Int):=by omega
    have P4:=zH (fun (V:World) (Fd1 Fp1:Nat→Prop) (X1:PX) (s1:List (Option Fx)) (x:Fx) (hh:PHave K w0 V B Fd1 Fp1 X1 s1 {p with fr:=fr1,hand:=hd1}) (hl:s1.length=n) (hx:s1[hd1]? = some (some x))=>show V.cell? ⟨B.pb,1,none⟩=some (.slice (some ⟨B.gr,0,none⟩) n n)∧V.cell? ⟨B.pb,4,none⟩=some (.int .i64 (hd1:Int))∧V.cell? ⟨B.gr,hd1,none⟩=some (.pointer (some ⟨x.blk,0,none⟩)) from
     ⟨by rw [←hl];exact hh.I.box.cell 1 rfl,hh.I.box.cell 4 rfl,hh.I.row.cell hd1 (zbx hx)⟩)
    have hne:((E:Int) != 0)=true:=by rw [bne_iff_ne];omega
    generalize resN p.fr=rp at *;clear h hb hfl hr hn hfull q1 q2 q3 hsk hrr e1 e2 hV g1 g2 g3 g4 d3 hq hl1 hdn ef hkey hp0;go_enter Tryz.func192,Tryz.ntmps192;go_wp2;go_region
    go_wp2_with fail
    refine (SK.out _ (zD w)).mono ?_;rintro e w1 ⟨rfl,s1,hl1,hf1,hq1,I1,T1⟩;obtain ⟨h2,T2⟩:=HV.out w1 s1 _ (zD w) hl1 hq1 I1 T1;obtain ⟨x,hx,hxf⟩:=SLX.out s1 hq1;obtain ⟨c1,c4,cr⟩:=P4.out _ _ _ _ _ _ h2 hl1 hx;have SC:=zH (SV.out _ _ _ _ _ _ h2 hx hxf);have T3:=zH ((Turns.of_keeps (S:=Both Fd Fp) (zD w)).trans T2);clear h2 T2 hf1 hq1 I1 T1 hl1 hx hxf;go_wp2_with fail
    refine SC.out.mono ?_;rintro e w3 ⟨rfl,Fd3,Fp3,X3,h3,T4⟩;have H3:=zH h3;have T5:=zH (T3.out.trans T4);clear h3 T4 c1 c4 cr;go_wp2;go_returns;exact ⟨rfl,_,_,_,_,H3.out,T5.out⟩
end
end Go.Proofs.YtjpldnjldindkaaGreatDoor
