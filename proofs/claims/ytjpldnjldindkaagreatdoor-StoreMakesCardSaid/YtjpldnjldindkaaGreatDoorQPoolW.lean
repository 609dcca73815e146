/- Package pool: Pin, Unpin. -/
import Derived.Test.YtjpldnjldindkaaGreatDoorQPoolQ
set_option linter.all false
set_option maxHeartbeats 0
set_option maxRecDepth 100000
namespace Go.Proofs.YtjpldnjldindkaaGreatDoor
open Go.RowKit
section
variable {K:DiskOk} {w0 w w':World} {B:PB} {X X':PX} {Fd Fp Fd' Fp':Nat→Prop} {sl sl':List (Option Fx)} {p p':Pst}
end
def plI (p:List UInt8×Int):Value:=.agg #[.string (str p.1), .int .i64 p.2]
section
variable {P:Program} {K S I:TypeId} {f1 f2:Field}
end
def intK (p:(List UInt8×Nat)×Nat):(List UInt8×Int)×Nat:=((p.1.1,(p.1.2:Int)),p.2)
section
variable {K:DiskOk} {w0 w w':World} {B:PB} {X X':PX} {Fd Fp Fd' Fp':Nat→Prop} {sl sl':List (Option Fx)} {p p':Pst}
end
section
variable {K:DiskOk} {w0 w w':World} {B:PB} {X X':PX} {Fd Fp Fd' Fp':Nat→Prop} {sl sl':List (Option Fx)} {p p':Pst}
theorem zpx (h:PHave K w0 w B Fd Fp X sl p) {i:Nat} {x:Fx} (hx:sl[i]? = some (some x)) {b:List UInt8} {A:Option Addr} {c:Nat} {w3 w4:World} (k3:Keeps w w3) (hv:Own w3 w.heap.size 5 1 (.slice A b.length c) b.length (cel b))
 (o4:Only w3 w4 (fun j=>j=x.blk)) (b4:Box w4 x.blk 196 #[.string (str x.f.name), .int .i64 (x.f.k:Int), .pointer (some ⟨x.fb,0,none⟩), .slice A b.length c, .int .i64 (x.f.pins:Int), .bool true]) :
 Calls Tryz.prog 149 #[.pointer (some ⟨B.pb,0,none⟩), .pointer (some ⟨x.blk,0,none⟩)] w4 fun e w5=>e = .returned (.tuple #[])∧∃ Fp5 X5 sl5,PHave K w0 w5 B Fd Fp5 X5 sl5 {onFr p i (overF b) with dl:=soilD p.dl x.f.name x.f.k}∧Turns w w5 (Both Fd Fp) (Both Fd Fp5):=by
 have hfx:p.fr[i]? = some (some x.f):=by rw [h.fr];exact zaH hx
 have I3:=h.I.keep k3;have F3:=I3.fr i x hx;have hxl:x.blk<w.heap.size:=(h.I.fr i x hx).box.lt;obtain ⟨p1,p2,p3⟩:=h.I.inP.fr i x hx;have hne:∀ g,(Value.slice A b.length c).ownBlock=some g→g≠x.blk:=fun g hg e=>by
  have:=(hv.lt g hg).1;omega
 have FX:FxAt w4 B.db ⟨x.blk,x.fb,A,c,overF b x.f⟩:=⟨b4,(o4.block _ F3.file.lt (zal F3.file F3.box (by decide))).trans F3.file,(hv.base_le (Nat.zero_le _)).same fun g hg=>o4.block _ (hv.lt g hg).2 (hne g hg)⟩
 have hilt:=(zI9.1 hx).1;have hsub:∀ j,Fp j→Fp j∨(Value.slice A b.length c).ownBlock=some j:=fun _ h=>.inl h
 have I4:=I3.frame (Fp':=fun j=>Fp j∨(Value.slice A b.length c).ownBlock=some j) (x':=⟨x.blk,x.fb,A,c,overF b x.f⟩) hx rfl rfl rfl hsub (fun j hj=>by
  rcases hj with hj|hj
  ·exact Nat.lt_of_lt_of_le (I3.lt j hj) o4.size
  ·exact Nat.lt_of_lt_of_le (hv.lt j hj).2 o4.size) o4 FX ⟨.inl p2,fun g hg=>.inr hg⟩
 have hset:(onFr p i (overF b)).fr=p.fr.set i (some (overF b x.f)):=zcb hfx (overF b);have hx4:(sl.set i (some ⟨x.blk,x.fb,A,c,overF b x.f⟩))[i]? = some (some (⟨x.blk,x.fb,A,c,overF b x.f⟩:Fx)):=by rw [List.getElem?_set,if_pos rfl,if_pos hilt]
 refine (zpn I4 hx4).mono ?_;rintro e w5 ⟨rfl,X5,Fp5,I5,T5⟩;refine ⟨rfl,Fp5,X5,sl.set i (some ⟨x.blk,x.fb,A,c,overF b x.f⟩),?_⟩;have T4:Turns w w4 Fp (fun j=>Fp j∨(Value.slice A b.length c).ownBlock=some j):=⟨((Only.of_keeps k3).weak (fun _ e=>e.elim)).trans (o4.more (S':=Fp) (fun j e=>by rw [show j=x.blk from e];exact p1)) (fun j hj=>.inl hj),fun j hj=>by
  rcases hj with hj|hj
  ·exact .inl hj
  ·exact .inr (hv.lt j hj).1⟩
 have ek:zac (onFr p i (overF b)).fr=zac p.fr:=zbl (g:=overF b) (fun _=>rfl) (fun _=>rfl) i;have ep:pinN (onFr p i (overF b)).fr=pinN p.fr:=zcn (g:=overF b) (fun _=>rfl) i;exact h.pool (p':={onFr p i (overF b) with dl:=soilD p.dl x.f.name x.f.k}) rfl (I5.tal (by
  unfold tally;rw [ep,zbs (onFr p i (overF b)).fr,ek,←zbs];rfl)) (T4.trans T5) (by rw [hset,zbp,h.fr];rfl) (zcH h.ok hfx b).1
theorem zh5 (h:PHave K w0 w B Fd Fp X sl p) {i:Nat} {x:Fx} (hx:sl[i]? = some (some x)) {b:List UInt8} {A:Option Addr} {c:Nat} {w3:World} (k3:Keeps w w3) (hv:Own w3 w.heap.size 5 1 (.slice A b.length c) b.length (cel b)) :
 w3.cell? ⟨x.blk,3,none⟩=some (.slice x.A x.f.b.length x.c)∧w3.frozen? ⟨x.blk,3,none⟩=false∧(w3.setCell ⟨x.blk,3,none⟩ (.slice A b.length c)).cell? ⟨x.blk,5,none⟩=some (.bool x.f.used)∧(w3.setCell ⟨x.blk,3,none⟩ (.slice A b.length c)).frozen? ⟨x.blk,5,none⟩=false∧
 Calls Tryz.prog 149 #[.pointer (some ⟨B.pb,0,none⟩), .pointer (some ⟨x.blk,0,none⟩)] ((w3.setCell ⟨x.blk,3,none⟩ (.slice A b.length c)).setCell ⟨x.blk,5,none⟩ (.bool true)) fun e w5=>e = .returned (.tuple #[])∧∃ Fp5 X5 sl5,PHave K w0 w5 B Fd Fp5 X5 sl5 {onFr p i (overF b) with dl:=soilD p.dl x.f.name x.f.k}∧Turns w w5 (Both Fd Fp) (Both Fd Fp5):=by
 have b0:=(h.I.fr i x hx).box.keep k3;have b1:=Box.set b0 3 (.slice A b.length c);have b2:=Box.set b1 5 (.bool true);exact ⟨b0.cell 3 rfl,b0.frozen 3,b1.cell 5 rfl,b1.frozen 5,zpx h hx k3 hv ((za7 w3 ⟨x.blk,3,none⟩ _).trans (za7 _ ⟨x.blk,5,none⟩ _) (fun j hj=>.inl hj)) b2⟩
end
section
variable {K:DiskOk} {w0 w w':World} {B:PB} {X X':PX} {Fd Fp Fd' Fp':Nat→Prop} {sl sl':List (Option Fx)} {p p':Pst}
theorem zkz (PK:PageOk) (h:PHave K w0 w B Fd Fp X sl p) (hZ:K.Z w0) (hS:Sizes w0) {M:Nat} (hb:Bnd M p.fr) (hM:M≤1000000000) (hM2:65536≤M) (hbig:p.mostR≤100000)
 (nm:List UInt8) (hnm:nm.length≤maxLen) (k:Int) (hk:IsI k) (A:Option Addr) (n c:Nat) (b:List UInt8) (hn:n=b.length) (hA:Bs w A b) (hAF:∀ ad,A=some ad→¬ Both Fd Fp ad.block) (hA0:A=none→c=0) (hnl:n≤maxLen) :
 Calls Tryz.prog 110 #[.pointer (some ⟨B.pb,0,none⟩), .string (str nm), .int .i64 k, .slice A n c] w fun e w'=>e = .returned (.int .i64 ((zah p nm k b).2:Int))∧Left K w0 w w' B (Both Fd Fp) (zah p nm k b).1:=by
 have NO:=zH (fun (V:World) (kk:Keeps w V)=>show Left K w0 w V B (Both Fd Fp) p from ⟨Fd,Fp,X,sl,h.keep kk,Turns.of_keeps kk⟩);have hlow:=h.D.kp.size;have hni:(n:Int)≤9223372036854775807:=by unfold maxLen at hnl;omega
 unfold zah;by_cases hlen:240<b.length
 ·rw [if_pos hlen];have hl2:(240:Int)<(n:Int):=(by omega);clear h hb hA hn hAF;generalize str nm=sv at *;go_enter Tryz.func110,Tryz.ntmps110;go_wp2;go_returns;exact ⟨rfl,NO.out _ (zab _)⟩
 ·rw [if_neg hlen];have hl2:(n:Int)≤240:=(by omega);have FI:=zH (zc9 h hZ nm hnm hb (by omega));have hfb:=zen (K.ok h.D.D) h.ok hb hM2 nm;have h24:(findP p nm).2=0→nm.length≤24:=fun e=>(zcg e).2
  obtain ⟨m,E,hq⟩:∃ m E,findP p nm=(m,E):=(⟨_,_,rfl⟩);rw [hq] at FI hfb h24 ⊢;simp only at FI hfb h24 ⊢;have hmi:(m:Int)≤1000000001:=(by omega);obtain ⟨hk1,hk2⟩:=hk;by_cases hE:E=0
  ·subst hE;rw [if_neg (by simp)];by_cases hr:k<0∨m<k.toNat
   ·rw [if_pos hr];have hri:(decide (k<0)||decide ((m:Int)<k))=true:=by
     rw [Bool.or_eq_true,decide_eq_true_eq,decide_eq_true_eq];omega
    clear h hb hA hn hAF h24;generalize str nm=sv at *;by_cases hk0:k<0
    ·go_enter Tryz.func110,Tryz.ntmps110;go_wp2_with fail
     refine FI.out.mono ?_;rintro e w2 ⟨k2,⟨-,f,rfl,-,-⟩|⟨h0,-⟩⟩
     ·have R:=zH (NO.out w2 k2);clear k2;go_wp2;go_returns;exact ⟨rfl,R.out⟩
     ·exact absurd rfl h0
    ·have hkm:(m:Int)<k:=(by omega);have hk0b:decide (k<0)=false:=decide_eq_false hk0;go_enter Tryz.func110,Tryz.ntmps110;go_wp2_with fail
     refine FI.out.mono ?_;rintro e w2 ⟨k2,⟨-,f,rfl,-,-⟩|⟨h0,-⟩⟩
     ·have R:=zH (NO.out w2 k2);clear k2;go_wp2;go_returns;exact ⟨rfl,R.out⟩
     ·exact absurd rfl h0
   ·rw [if_neg hr];obtain ⟨kn,rfl⟩:∃ kn:Nat,k=(kn:Int):=(⟨k.toNat,by omega⟩);rw [Int.toNat_natCast] at hr ⊢;have hkm:(kn:Int)≤(m:Int):=(by omega);have hk0:¬ ((kn:Int)<0):=by omega
    have hk0b:decide ((kn:Int)<0)=false:=decide_eq_false hk0;have hkmb:decide ((m:Int)<(kn:Int))=false:=decide_eq_false (by omega);clear hr;have LK:∀ V,Keeps w V→(Instr.lookup 151 (.map (some B.wb)) (.agg #[.string (str nm), .int .i64 (kn:Int)]) false).run Tryz.prog V = .ok (((lookM X.W (nm,kn)).map dpt).getD (.pointer none)) V:=fun V kk=>by
     have:=zbr (P:=Tryz.prog) zd8 (z:=.pointer none) zjs (h.I.wher.keep kk) (nm,kn) false;exact this
    rw [h.I.look,←h.fr] at LK;have c2:∀ V,Keeps w V→V.cell? ⟨B.pb,2,none⟩=some (.map (some B.wb)):=(fun V kk=>(h.I.box.keep kk).cell 2 rfl);have C2:=zH c2;subst hn;have h24':=h24 rfl;cases e:p.fr.findIdx? (isAt nm kn) with
    | some i=>
     obtain ⟨f,hfi,n1,n2⟩:=zaX e;have hfp:=hfi;rw [h.fr] at hfi;obtain ⟨x,hx,rfl⟩:=zbO hfi;have hm:some (nm,kn)∈zac p.fr:=mem_keys.2 ⟨i,x.f,hfp,n1,n2⟩;have hbk:X.bk nm kn=x.blk:=by rw [←n1,←n2];exact h.I.bk i x hx
     rw [if_pos hm,hbk] at LK;simp only [Option.map_some,Option.getD_some,dpt] at LK;have LH:=zH LK;have CL:=zH (fun (V:World) (kk:Keeps w V)=>zbN A b.length c b V (hA.keep kk) rfl hA0 (by omega));have TL:=zH (fun (W3:World) (k3:Keeps w W3) (A':Option Addr) (c':Nat) (hv:Own W3 w.heap.size 5 1 (.slice A' b.length c') b.length (cel b))=>zh5 h hx k3 hv);have PT:=zH (show {onFr p i (overF b) with dl:=soilD p.dl x.f.name x.f.k}={onFr p i (overF b) with dl:=soilD p.dl nm kn} from by rw [n1,n2]);clear h24 h hb hA hAF c2 LK e hm hbk hx hfi hfp n1 n2;simp only;generalize str nm=sv at *;generalize hbb:x.blk=bb at *;generalize hbl:b.length=bl at *;go_enter Tryz.func110,Tryz.ntmps110;go_wp2_with fail
     refine FI.out.mono ?_;rintro e w2 ⟨k2,⟨-,f,rfl,hf,hfl⟩|⟨h0,-⟩⟩
     ·have kW:=zK (zK k2 (zA w2 (.cells #[.string sv, .int .i64 (kn:Int)] 49))) (zD _);have L2:=LH.out _ kW;have p2:=C2.out _ (zK k2 (zA w2 (.cells #[.string sv, .int .i64 (kn:Int)] 49)));have KW:=zH kW;have CL2:=zH (CL.out _ kW);clear k2 hf kW;go_wp2;go_region
      go_wp2_with fail
      refine CL2.out.mono ?_;rintro e w3 ⟨v,rfl,hv,k3⟩;obtain ⟨A',c',rfl,-⟩:=hv.form;obtain ⟨t1,t2,t3,t4,t5⟩:=TL.out w3 (zK KW.out k3) A' c' (hv.base_le KW.out.size);have SO:=zH t5;clear hv k3 t5;go_wp2_with fail
      refine SO.out.mono ?_;rintro e w5 ⟨rfl,Fp5,X5,sl5,h5,T5⟩;have R:=zH (And.intro h5 T5);clear h5 T5;go_wp2;go_returns;refine ⟨rfl,Fd,Fp5,X5,sl5,?_,R.out.2⟩;rw [←PT.out];exact R.out.1
     ·exact absurd rfl h0
    | none=>
     have hkn:=idx_none.1 e;rw [if_neg hkn] at LK;simp only [Option.map_none,Option.getD_none] at LK;have LH:=zH LK;have HO:=zH (fun (V W:World) (kv:Keeps w V) (kw:Keeps V W) (f:Nat) (hf:PfAt V f B.db nm) (hfl:w.heap.size≤f)=>
      show Calls Tryz.prog 148 #[.pointer (some ⟨B.pb,0,none⟩), .pointer (some ⟨f,0,none⟩), .agg #[.string (str nm), .int .i64 (kn:Int)], .slice none 0 0] W (HoldV K w0 w B (Both Fd Fp) (holdS p nm kn [])) from
      zjw PK (h.keep (zK kv kw)) hZ hS hb (by omega) hbig hkn h24' (hf.keep kw) (fun hF=>by have:=h.below f hF;omega) (Turns.of_keeps (zK kv kw)) hlow hfl (A:=none) (c:=0) (l:=[]) (Own.nil _ _ _ _) (fun g hg=>by cases hg))
     have HSP:=zH (za2 h.ok hkn h24' []);have CL:=zH (fun (V:World) (F':Nat→Prop) (tt:Turns w V (Both Fd Fp) F')=>zbN A b.length c b V (tt.at_ hA hAF) rfl hA0 (by omega));clear h24 h hb hA hAF c2 LK e hkn;simp only;generalize hqq:holdS p nm kn []=qq at *;obtain ⟨q1,i,E⟩:=qq;simp only at HSP ⊢;by_cases hE:E=0
     ·subst hE;rw [if_neg (by simp)];generalize hsv:str nm=sv at *;generalize hbl:b.length=bl at *;go_enter Tryz.func110,Tryz.ntmps110;go_wp2_with fail
      refine FI.out.mono ?_;rintro e w2 ⟨k2,⟨-,f,rfl,hf,hfl⟩|⟨h0,-⟩⟩
      ·have kA:=zK (zA w2 (.cells #[.string sv, .int .i64 (kn:Int)] 49)) (zD _);have kW:=zK k2 kA;have L2:=LH.out _ kW;have p2:=C2.out _ (zK k2 (zA w2 (.cells #[.string sv, .int .i64 (kn:Int)] 49)));have HH:=zH (HO.out w2 _ k2 kA f hf hfl);clear k2 hf kW kA;go_wp2;go_region
       go_wp2_with fail
       refine HH.out.mono ?_;rintro e w3 ⟨v,rfl,Fd1,Fp1,X1,s1,h1,T1,f1,-⟩;obtain ⟨x,hx,rfl⟩:=f1 rfl;simp only at h1 hx;have hxf:x.f=⟨nm,kn,[],0,false⟩:=by
        have h2:=HSP.out.2 (by trivial);have h3:q1.fr[i]? = some (some x.f):=by rw [h1.fr];exact zaH hx
        rw [h3] at h2;exact Option.some.inj (Option.some.inj h2)
       have CL2:=zH (CL.out w3 _ T1);have TL:=zH (fun (W3:World) (k3:Keeps w3 W3) (A':Option Addr) (c':Nat) (hv:Own W3 w3.heap.size 5 1 (.slice A' b.length c') b.length (cel b))=>zh5 h1 hx k3 hv);have PT:=zH (show {onFr q1 i (overF b) with dl:=soilD q1.dl x.f.name x.f.k}={onFr q1 i (overF b) with dl:=soilD q1.dl nm kn} from by rw [hxf]);have TT:=zH T1;rw [hbl] at TL;clear h1 T1 f1 hx hxf;generalize hbb:x.blk=bb at *;go_wp2_with fail
       refine CL2.out.mono ?_;rintro e w4 ⟨v,rfl,hv,k3⟩;obtain ⟨A',c',rfl,-⟩:=hv.form;obtain ⟨t1,t2,t3,t4,t5⟩:=TL.out w4 k3 A' c' hv;have SO:=zH t5;clear hv k3 t5;go_wp2_with fail
       refine SO.out.mono ?_;rintro e w5 ⟨rfl,Fp5,X5,sl5,h5,T5⟩;have R:=zH (And.intro h5 T5);clear h5 T5;go_wp2;go_returns;refine ⟨rfl,Fd1,Fp5,X5,sl5,?_,TT.out.trans R.out.2⟩;rw [←PT.out];exact R.out.1
      ·exact absurd rfl h0
     ·rw [if_pos hE];have hne:((E:Int) != 0)=true:=by rw [bne_iff_ne];omega
      generalize hsv:str nm=sv at *;go_enter Tryz.func110,Tryz.ntmps110;go_wp2_with fail
      refine FI.out.mono ?_;rintro e w2 ⟨k2,⟨-,f,rfl,hf,hfl⟩|⟨h0,-⟩⟩
      ·have kA:=zK (zA w2 (.cells #[.string sv, .int .i64 (kn:Int)] 49)) (zD _);have kW:=zK k2 kA;have L2:=LH.out _ kW;have p2:=C2.out _ (zK k2 (zA w2 (.cells #[.string sv, .int .i64 (kn:Int)] 49)));have HH:=zH (HO.out w2 _ k2 kA f hf hfl);clear k2 hf kW kA;go_wp2;go_region
       go_wp2_with fail
       refine HH.out.mono ?_;rintro e w3 ⟨v,rfl,Fd1,Fp1,X1,s1,h1,T1,-,-⟩;have R:=zH (And.intro h1 T1);clear h1 T1;go_wp2;go_returns;exact ⟨rfl,Fd1,Fp1,X1,s1,R.out.1,R.out.2⟩
      ·exact absurd rfl h0
  ·rw [if_pos hE];have hne:((E:Int) != 0)=true:=by rw [bne_iff_ne];omega
   clear h hb hA hn hAF h24;generalize str nm=sv at *;go_enter Tryz.func110,Tryz.ntmps110;go_wp2_with fail
   refine FI.out.mono ?_;rintro e w2 ⟨k2,⟨h0,-⟩|⟨-,rfl⟩⟩
   ·exact absurd h0 hE
   ·have R:=zH (NO.out w2 k2);clear k2;go_wp2;go_returns;exact ⟨rfl,R.out⟩
end
section
variable {K:DiskOk} {w0 w w':World} {B:PB} {X X':PX} {Fd Fp Fd' Fp':Nat→Prop} {sl sl':List (Option Fx)} {p p':Pst}
theorem PIn.dvalK {dl:List (List UInt8×List Nat)} {t:PT} (h:PIn w B X Fp sl dl t) (nm:List UInt8):∃ v,(∀ W:World,W.heap[B.dm]? = w.heap[B.dm]? → (Instr.lookup 152 (.map (some B.dm)) (.string (str nm)) false).run Tryz.prog W = .ok v W)∧PRow w v (zan X nm (zaa dl nm))∧
 (v.ownBlock=none∨(∃ ks,(nm,ks)∈dl∧v.ownBlock=(X.R nm).1∧v=rowV X nm (zaa dl nm).length)):=by
 have hl:=fun (W:World) (hW:W.heap[B.dm]? = w.heap[B.dm]?)=>zbr (P:=Tryz.prog) zcW (z:=.slice none 0 0) zeroD (h.dirt.same (w':=W) hW) nm false
 simp only [Bool.false_eq_true,if_false] at hl;have e:lookM (dl.map fun e=>(e.1,((X.R e.1).1,e.2.length,(X.R e.1).2))) nm=(lookM dl nm).map fun ks=>((X.R nm).1,ks.length,(X.R nm).2):=zh4 (fun a (b:List Nat)=>((X.R a).1,b.length,(X.R a).2)) dl nm
 rw [e] at hl;unfold zaa;cases e2:lookM dl nm with
 | none=>
  rw [e2] at hl;exact ⟨_,hl,PRow.nil w, .inl rfl⟩
 | some ks=>
  rw [e2] at hl;have hm:=zeX e2;exact ⟨rowV X nm ks.length,hl,h.rows nm ks hm, .inr ⟨ks,hm,zbw _ _ _,rfl⟩⟩
theorem znv (PK:PageOk) (h:PHave K w0 w B Fd Fp X sl p) (hZ:K.Z w0) (hS:Sizes w0) {M:Nat} (hb:Bnd M p.fr) (hM:M≤1000000000000) (nm:List UInt8) (hnm:nm.length≤maxLen) :
 Calls Tryz.prog 121 #[.pointer (some ⟨B.pb,0,none⟩), .string (str nm)] w fun e w'=>e = .returned (.int .i64 ((zao p nm).2:Int))∧Left K w0 w w' B (Both Fd Fp) (zao p nm).1:=by
 have NO:=zH (fun (V:World) (kk:Keeps w V)=>show Left K w0 w V B (Both Fd Fp) p from ⟨Fd,Fp,X,sl,h.keep kk,Turns.of_keeps kk⟩);have FI:=zH (zc9 h hZ nm hnm hb hM);unfold zao;have h24:(findP p nm).2=0→nm.length≤24:=fun e=>(zcg e).2
 obtain ⟨m,E,hq⟩:∃ m E,findP p nm=(m,E):=⟨_,_,rfl⟩
 rw [hq] at FI h24 ⊢;simp only at FI h24 ⊢;by_cases hE:E=0
 ·subst hE;rw [if_neg (by simp)];have p3:∀ V,Keeps w V→V.cell? ⟨B.pb,3,none⟩=some (.map (some B.dm)):=(fun V kk=>(h.I.box.keep kk).cell 3 rfl);have P3:=zH p3;obtain ⟨fs,f1,f2,f3,f4,-⟩:=h.frames nm (zaa p.dl nm) (fun k' hk'=>hk') (h.I.dlok.rise_of nm);rw [←f4];obtain ⟨v,hl,hr,ho⟩:=h.I.dvalK nm;have hO:=Own.of_row hr;obtain ⟨A,c,rfl,hc,hcm,hz,-⟩:=hO.form;have LK:=zH (fun (V:World) (kk:Keeps w V)=>hl V (kk.block _ (h.I.lt _ h.I.inP.dm)));have hdl:=h.I.dlen nm;have hmost:=h.I.most;have hlen:=zbV X nm (zaa p.dl nm);have CLO:=zH (fun (V:World) (kk:Keeps w V)=>zgG A (zan X nm (zaa p.dl nm)).length c (zan X nm (zaa p.dl nm)) V (hO.keep kk).at_ rfl (fun e=>(hz e).2) (by omega) (zes X nm _));obtain ⟨q,hw⟩:∃ q,wbS p (fs.map Fx.f)=q:=⟨_,rfl⟩
  obtain ⟨p1,E1⟩:=q;rw [hw];simp only;have WB:=zH (fun (V V2:World) (kk:Keeps w V) (k2:Keeps V V2) (v':Value) (o:Own V2 V.heap.size 194 1 v' (zan X nm (zaa p.dl nm)).length (zan X nm (zaa p.dl nm)))=>show ∃ A' c',v' = .slice A' (zan X nm (zaa p.dl nm)).length c'∧Calls Tryz.prog 163 #[.pointer (some ⟨B.pb,0,none⟩), .slice A' (zan X nm (zaa p.dl nm)).length c'] V2 (Got K w0 V2 B (Both Fd Fp) sl p1 (.int .i64 (E1:Int))) from by
   obtain ⟨A',c',rfl,-,-,-,hbk⟩:=o.form;have e3:(fs.map fun x=>Value.pointer (some ⟨x.blk,0,none⟩))=zan X nm (zaa p.dl nm):=f3;refine ⟨A',c',rfl,zeI PK (h.keep (zK kk k2)) hZ hS f1 A' _ c' (by rw [hlen,f2]) (by rw [e3];exact o.at_) (fun ad ha hB=>?_) hb hM (by omega) hw⟩;have h1:=(hbk ad ha).2.1;have h2:=kk.size;have h3:=h.below _ hB;omega)
  have hlow:=h.D.kp.size;have BEL:=zH h.below;have h24':=h24 rfl;clear h24 h hb hr ho hl hO f1 f2 f3 f4 hw hc hcm hz hdl hmost hlen p3;generalize (zan X nm (zaa p.dl nm)).length=n at *;generalize zan X nm (zaa p.dl nm)=ys at *;by_cases hE1:E1=0
  ·subst hE1;rw [if_neg (by simp)];generalize hsv:str nm=sv at *;go_enter Tryz.func121,Tryz.ntmps121;go_wp2_with fail
   refine FI.out.mono ?_;rintro e w2 ⟨k2,⟨-,f,rfl,hf,hfl⟩|⟨h0,-⟩⟩
   ·have l2:=LK.out _ k2;have c3:=P3.out _ k2;have K2:=zH k2;have HF:=zH (And.intro hf hfl);clear k2 hf hfl;go_wp2_with fail
    refine (CLO.out _ K2.out).mono ?_;rintro e w3 ⟨v',rfl,o3,k3⟩;obtain ⟨A',c',rfl,WC⟩:=WB.out _ _ K2.out k3 _ o3;have K3:=zH (zK K2.out k3);have F3:=zH (HF.out.1.keep k3);clear o3 k3;go_wp2_with fail
    refine WC.mono ?_;rintro e w4 ⟨rfl,Fd4,Fp4,X4,H4,T4⟩;have hnf:¬ Both Fd Fp f:=fun e=>by have:=BEL.out f e;have:=HF.out.2;omega
    have F4:=Box.turned F3.out T4 hnf;have SY:=zH (zl0 H4.D hZ F4 (by unfold maxLen;omega) (s':=(syncS p1.d nm).1) (E:=(syncS p1.d nm).2) rfl);have R4:=zH (And.intro H4 ((Turns.of_keeps K3.out).trans T4));clear H4 T4 F4 hnf;go_wp2_with fail
    refine SY.out.mono ?_;rintro e w5 ⟨rfl,F',D',t'⟩;have R:=zH (R4.out.1.disk D' t');clear D' t';go_wp2;go_returns;exact ⟨rfl,F',Fp4,X4,sl,R.out.1,R4.out.2.trans R.out.2⟩
   ·exact absurd rfl h0
  ·rw [if_pos hE1];have hne:((E1:Int) != 0)=true:=by rw [bne_iff_ne];omega
   generalize hsv:str nm=sv at *;go_enter Tryz.func121,Tryz.ntmps121;go_wp2_with fail
   refine FI.out.mono ?_;rintro e w2 ⟨k2,⟨-,f,rfl,hf,hfl⟩|⟨h0,-⟩⟩
   ·have l2:=LK.out _ k2;have c3:=P3.out _ k2;have K2:=zH k2;clear k2 hf hfl;go_wp2_with fail
    refine (CLO.out _ K2.out).mono ?_;rintro e w3 ⟨v',rfl,o3,k3⟩;obtain ⟨A',c',rfl,WC⟩:=WB.out _ _ K2.out k3 _ o3;have K3:=zH (zK K2.out k3);clear o3 k3;go_wp2_with fail
    refine WC.mono ?_;rintro e w4 ⟨rfl,Fd4,Fp4,X4,H4,T4⟩;have R:=zH (And.intro H4 ((Turns.of_keeps K3.out).trans T4));clear H4 T4;go_wp2;go_returns;exact ⟨rfl,Fd4,Fp4,X4,sl,R.out.1,R.out.2⟩
   ·exact absurd rfl h0
 ·rw [if_pos hE];have hne:((E:Int) != 0)=true:=by rw [bne_iff_ne];omega
  clear h hb h24;generalize str nm=sv at *;go_enter Tryz.func121,Tryz.ntmps121;go_wp2_with fail
  refine FI.out.mono ?_;rintro e w2 ⟨k2,⟨h0,-⟩|⟨-,rfl⟩⟩
  ·exact absurd h0 hE
  ·have R:=zH (NO.out w2 k2);clear k2;go_wp2;go_returns;exact ⟨rfl,R.out⟩
end
end Go.Proofs.YtjpldnjldindkaaGreatDoor
