/- A call of a disk, and its turn: what is known before and behind. -/
import Derived.Test.YtjpldnjldindkaaGreatDoorQLawDisk
import Derived.Test.YtjpldnjldindkaaGreatDoorQLawPage
set_option linter.all false
set_option maxHeartbeats 0
set_option maxRecDepth 100000
namespace Go.Proofs.YtjpldnjldindkaaGreatDoor
open Go.RowKit
theorem zgJ {K:DiskOk} {w0 w:World} {b:Nat} {F:Nat→Prop} {s:Ds} (hS:Sizes w0) (h:Have K w0 w b F s):Sizes w:=hS.keep h.kp
section
variable {K:DiskOk} {w0 w:World} {b:Nat} {F:Nat→Prop} {s:Ds}
def WentU (K:DiskOk) (w0 w:World) (b:Nat) (F:Nat→Prop) (s':Ds) (E:Nat) (e:Ending) (w':World):Prop:=e = .returned (.int .i64 (E:Int))∧∃ F',Have K w0 w' b F' s'∧Turns w w' F F'
theorem Have.went (h:Have K w0 w b F s) {fn:FuncId} {args:Array Value} {r:Ds×Nat} {s':Ds} {E:Nat} (hr:r=(s',E))
 (c:Calls Tryz.prog fn args w fun e w'=>e = .returned (.int .i64 (r.2:Int))∧∃ F',K.D w' b F' r.1∧Turns w w' F F'):Calls Tryz.prog fn args w (WentU K w0 w b F s' E):=by
 subst hr;exact c.mono fun e w' q=>by obtain ⟨he,F',hD,ht⟩:=q;exact ⟨he,F',h.step hD ht,ht⟩
theorem zdF {w':World} {E:Nat} (h:Have K w0 w b F s) (k:Keeps w w'):WentU K w0 w b F s E (.returned (.int .i64 (E:Int))) w':=⟨rfl,F,h.keep k,Turns.of_keeps k⟩
end
def PfAt (w:World) (f b:Nat) (nm:List UInt8):Prop:=Box w f 184 #[.pointer (some ⟨b,0,none⟩), .string (str nm)]
theorem PfAt.keep {w w':World} {f b:Nat} {nm:List UInt8} (h:PfAt w f b nm) (k:Keeps w w'):PfAt w' f b nm:=Box.keep h k
section
variable {K:DiskOk} {w0 w:World} {b f:Nat} {F:Nat→Prop} {s:Ds}
def MadeF (w0 w:World) (K:DiskOk) (b:Nat) (F:Nat→Prop) (s':Ds) (E:Nat) (nm:List UInt8) (e:Ending) (w':World):Prop:=
 ∃ F',Have K w0 w' b F' s'∧Turns w w' F F'∧((E=0∧∃ f,e = .returned (.tuple #[.pointer (some ⟨f,0,none⟩), .int .i64 0])∧PfAt w' f b nm∧w.heap.size≤f∧¬ F' f)∨(E≠0∧e = .returned (.tuple #[.pointer none, .int .i64 (E:Int)])))
theorem zjr (h:Have K w0 w b F s) (hZ:K.Z w0) (nm:List UInt8) (hnm:nm.length≤maxLen) {s':Ds} {E:Nat} (hs:zaw s nm=(s',E)) :
 Calls Tryz.prog 82 #[.pointer (some ⟨b,0,none⟩), .string (str nm)] w (MadeF w0 w K b F s' E nm):=by
 have C:=zH (h.went hs (K.create nm (h.z hZ) h.D hnm));unfold dpt strV at C;clear h hZ hs;go_enter Tryz.func82,Tryz.ntmps82;go_wp2_with fail
 refine C.out.mono ?_;rintro e w1 ⟨rfl,F1,h1,t1⟩;have H1:=zH h1;have T1:=zH t1;clear h1 t1;by_cases h0:E=0
 ·subst h0;go_wp2;go_returns;have lt:=K.lt H1.out.D;exact ⟨F1,H1.out.keep (zA _ _),T1.out.trans (Turns.of_keeps (zA _ _)), .inl ⟨rfl,w1.heap.size,rfl,Box.new _ _ _,T1.out.only.size,fun hf=>by have:=lt _ hf;omega⟩⟩
 ·have hne:((E:Int) != 0)=true:=by rw [bne_iff_ne];omega
  go_wp2;go_returns;exact ⟨F1,H1.out,T1.out, .inr ⟨h0,rfl⟩⟩
theorem zlZ (h:Have K w0 w b F s) (hZ:K.Z w0) (nm:List UInt8) (hnm:nm.length≤maxLen) {n E:Nat} (hs:sizeS s nm=(n,E)) (hn:n≤16777216) :
 Calls Tryz.prog 146 #[.pointer (some ⟨b,0,none⟩), .string (str nm)] w fun e w'=>Keeps w w'∧((openE s nm=0∧∃ f,e = .returned (.tuple #[.pointer (some ⟨f,0,none⟩), .int .i64 0])∧PfAt w' f b nm∧w.heap.size≤f)∨(openE s nm≠0∧e = .returned (.tuple #[.pointer none, .int .i64 (openE s nm:Int)]))):=by
 have C:=zH (h.size_ hZ nm (str nm) rfl hs hnm);obtain ⟨o,ho⟩:∃ o,openE s nm=o:=⟨_,rfl⟩
 rw [ho];unfold openE at ho;rw [hs] at ho;have HO:=zH ho;have H:=zH h;have hni:(n:Int)≤16777216:=by omega
 clear h hZ hs ho hn;go_enter Tryz.func146,Tryz.ntmps146;go_wp2_with fail
 refine C.out.mono ?_;rintro e w1 ⟨rfl,-,k1⟩;by_cases h0:E=0
 ·subst h0;by_cases h1:n%256=0
  ·have hm2:((n:Int).tmod 256)=0:=by rw [Int.tmod_eq_emod_of_nonneg (by omega)];omega
   have e0:=zH (show o=0 by have:=HO.out;simpa [h1] using this.symm);clear h1;go_wp2;go_returns;exact ⟨zK k1 (zA _ _), .inl ⟨e0.out,w1.heap.size,rfl,Box.new _ _ _,k1.size⟩⟩
  ·obtain ⟨r,hr⟩:∃ r:Int,(n:Int).tmod 256=r:=(⟨_,rfl⟩);have hr0:(r != 0)=true:=by
    rw [Int.tmod_eq_emod_of_nonneg (by omega)] at hr;rw [bne_iff_ne];omega
   have e0:=zH (show o=7 by have:=HO.out;simpa [h1] using this.symm);clear h1;go_wp2;go_returns;rw [e0.out];exact ⟨k1, .inr ⟨by decide,rfl⟩⟩
 ·have hne:((E:Int) != 0)=true:=by rw [bne_iff_ne];omega
  have e0:=zH (show o=E by have:=HO.out;simpa [h0] using this.symm);go_wp2;go_returns;rw [e0.out];exact ⟨k1, .inr ⟨h0,rfl⟩⟩
theorem zcT {nm:List UInt8} (h:Have K w0 w b F s) (hZ:K.Z w0) (hf:PfAt w f b nm) (hnm:nm.length≤maxLen) {n E:Nat} (hs:sizeS s nm=(n,E)) (hn:n≤16777216) :
 Calls Tryz.prog 147 #[.pointer (some ⟨f,0,none⟩)] w fun e w'=>e = .returned (.tuple #[.int .i64 ((n/256:Nat):Int), .int .i64 (E:Int)])∧Keeps w w':=by
 have C:=zH ((h.keep (zD w)).size_ hZ nm (str nm) rfl hs hnm);have c0:=Box.cell hf 0 rfl;have c1:=Box.cell hf 1 rfl;have hni:(n:Int)≤16777216:=by omega
 obtain ⟨q,hq⟩:∃ q,n/256=q:=⟨_,rfl⟩
 have hq2:(n:Int).tdiv 256=(q:Int):=by rw [Int.tdiv_eq_ediv_of_nonneg (by omega)];omega
 have hqi:(q:Int)≤65536:=by omega
 rw [hq];have HQ:=zH hq;clear h hZ hs hf hn hq;generalize str nm=sv at *;go_enter Tryz.func147,Tryz.ntmps147;go_wp2_with fail
 go_region_with (go_at_call 191;refine C.out.mono ?_;rintro ee w2 ⟨rfl,-,k2⟩)
 all_goals
  go_wp2;go_returns;exact ⟨rfl,zK (zD w) k2⟩
theorem zl0 {nm:List UInt8} (h:Have K w0 w b F s) (hZ:K.Z w0) (hf:PfAt w f b nm) (hnm:nm.length≤maxLen) {s':Ds} {E:Nat} (hs:syncS s nm=(s',E)) :
 Calls Tryz.prog 165 #[.pointer (some ⟨f,0,none⟩)] w (WentU K w0 w b F s' E):=by
 have k:=K.sync nm ((h.keep (zD w)).z hZ) (h.keep (zD w)).D hnm;rw [hs] at k;have C:=zH k;have H:=zH h;have c0:=Box.cell hf 0 rfl;have c1:=Box.cell hf 1 rfl;unfold dpt strV at *;clear h hZ hs hf k;generalize str nm=sv at *;go_enter Tryz.func165,Tryz.ntmps165;go_wp2_with fail
 go_region_with (go_at_call 202;refine C.out.mono ?_;rintro ee w2 ⟨rfl,F2,D2,t2⟩)
 all_goals
  go_wp2;go_ret;have tt:=(Turns.of_keeps (S:=F) (zD w)).trans t2;exact ⟨rfl,F2,H.out.step D2 tt,tt⟩
end
theorem Own.capm {w:World} {base:Nat} {e:TypeId} {size:Nat} {A:Option Addr} {n c:Nat} {xs:List Value} (h:Own w base e size (.slice A n c) n xs):c≤maxLen:=by
 obtain ⟨A',c',hv,hc',hm,-⟩:=h.form;injection hv with _ _ e3;subst e3;exact hm
section
variable {K:DiskOk} {w0 w:World} {b f:Nat} {F:Nat→Prop} {s:Ds}
def GaveU (w:World) (l:List UInt8) (E:Nat) (e:Ending) (w':World):Prop:=∃ A c,e = .returned (.tuple #[.slice A l.length c, .int .i64 (E:Int)])∧l.length≤c∧Own w' w.heap.size 5 1 (.slice A l.length c) l.length (cel l)∧Keeps w w'
theorem GaveU.none {w w':World} {E:Nat} (k:Keeps w w'):GaveU w [] E (.returned (.tuple #[.slice none 0 0, .int .i64 (E:Int)])) w':=⟨Option.none,0,rfl,Nat.le_refl _,Own.nil _ _ _ _,k⟩
theorem zl1 (PK:PageOk) {nm:List UInt8} (h:Have K w0 w b F s) (hZ:K.Z w0) (hS:Sizes w0) (hf:PfAt w f b nm) (hnm:nm.length≤100000) (k:Int) (hk:IsI k) {l:List UInt8} {E:Nat} (hs:readP s nm k=(l,E)) :
 Calls Tryz.prog 227 #[.pointer (some ⟨f,0,none⟩), .int .i64 k] w (GaveU w l E):=by
 have hn:=zdZ (K.ok h.D) nm;have hml:nm.length≤maxLen:=by unfold maxLen;omega
 obtain ⟨n,E0,hz⟩:∃ n E0,sizeS s nm=(n,E0):=⟨_,_,rfl⟩
 rw [hz] at hn;have PG:=zH (zcT h hZ hf hml hz hn);unfold readP at hs;rw [hz] at hs;simp only at hs;have hki:=hk.2;have hkl:=hk.1;have HS:=zH hs;have HF:=zH hf;have H:=zH h;by_cases k0:k<0
 ·have e:=HS.out;rw [if_pos k0] at e;obtain ⟨rfl,rfl⟩:=Prod.mk.inj e;clear h hZ hS hf hs e hz hn PG;go_enter Tryz.func227,Tryz.ntmps227;go_wp2;go_returns;exact GaveU.none (zab _)
 ·obtain ⟨kn,rfl⟩:∃ kn:Nat,k=(kn:Int):=(⟨k.toNat,by omega⟩);by_cases e0:E0=0
  ·subst e0;obtain ⟨q,hq⟩:∃ q,n/256=q:=(⟨_,rfl⟩);have hq2:q≤65536:=by omega
   have hqi:(q:Int)≤65536:=(by omega);rw [hq] at PG;by_cases big:q≤kn
   ·have hb:(q:Int)≤(kn:Int):=(by omega);have e:=HS.out;rw [if_neg k0,if_neg (by simp),if_pos (by rw [hq];simpa using big)] at e;obtain ⟨rfl,rfl⟩:=Prod.mk.inj e;clear h hZ hS hf hs e hz hn hq big hq2;go_enter Tryz.func227,Tryz.ntmps227;go_wp2_with fail
    refine PG.out.mono ?_;rintro e w1 ⟨rfl,k1⟩;go_wp2;go_returns;exact GaveU.none k1
   ·have hb:(kn:Int)<(q:Int):=(by omega);obtain ⟨f0,-,-,hr⟩:=zqT (s:=s) (nm:=nm) (by rw [hz]);obtain ⟨p,hp⟩:∃ p,readS s nm ((kn:Int)*256) 256=(p,0):=(⟨_,hr _ _ (by omega) (by decide)⟩);have e:=HS.out;rw [if_neg k0,if_neg (by simp),if_neg (by rw [hq];simpa using big),hp] at e;simp only [Int.toNat_natCast] at e;obtain ⟨off,hoff⟩:∃ off:Nat,(kn:Int)*256=(off:Int):=⟨kn*256,by omega⟩
    have hofi:(off:Int)≤16777216:=(by omega);rw [hoff] at hp;have hwr:IntKind.i64.wrap (off:Int)=(off:Int):=IntWalk.i64_in _ (by omega);have RD:=zH (fun (V:World) (kk:Keeps w V)=>(h.keep kk).read_ hZ nm (off:Int) 256 ⟨by omega,by omega⟩ ⟨by decide,by decide⟩ (str nm) rfl hp hml);have TG:=zH (fun V=>PK.tag nm V hnm);have SZ:=zH (fun (V:World) (kk:Keeps w V)=>(zgJ hS h).keep kk);have CC:=zH (fun (V:World) (kk:Keeps w V)=>And.intro (Box.cell (hf.keep kk) 0 rfl) (Box.cell (hf.keep kk) 1 rfl));have TL:=zH (show extC 0 nm<4294967296 from zk1 nm);have hkk:(kn:Int)≤65535:=by omega
    have hwu:IntKind.u32.wrap (kn:Int)=(kn:Int):=by simp [IntKind.wrap,IntKind.bits,IntKind.signed];omega
    have hk32:(kn:Int)%4294967296=(kn:Int):=(by omega);have HKN:=zH (show kn<4294967296 by omega);have HE:=zH e;have e1:((0:Int) != 0)=false:=rfl;clear h hZ hS hf hs e hz hn hq big hq2 HS HF H hp hr hki hkl k0 hk;unfold tagN at HE;generalize extC 0 nm=t at *;generalize str nm=sv at *;go_enter Tryz.func227,Tryz.ntmps227;go_wp2_with fail
    refine PG.out.mono ?_;rintro e w1 ⟨rfl,k1⟩;have K1:=zH k1;obtain ⟨c0,c1⟩:=CC.out _ k1;clear k1;go_wp2_with fail
    go_region_with (go_at_call 243;refine (RD.out _ (zK K1.out (zD w1))).mono ?_;rintro ee w2 ⟨A,c,rfl,hc,o2,-,k2⟩)
    all_goals
     have K2:=zH (zK (zK K1.out (zD w1)) k2);obtain ⟨d0,d1⟩:=CC.out _ K2.out;have hcm:=zH o2.capm;have O2:=zH o2;clear c0 c1 k2;go_wp2_with fail
     refine (TG.out _).mono ?_;rintro e w3 ⟨rfl,k3⟩;have K3:=zH (zK K2.out k3);have B3:=zH (Bs.keep (Own.at_ O2.out) k3);clear k3;by_cases isp:zaS p t kn
     ·have e:=HE.out;rw [if_pos isp] at e;obtain ⟨rfl,rfl⟩:=Prod.mk.inj e;have OP:=zH (PK.takes t kn TL.out HKN.out A p.length c p w3 (SZ.out _ K3.out) B3.out rfl hc hcm.out isp);clear e isp;go_wp2_with fail
      refine OP.out.mono ?_;rintro e w4 ⟨v4,rfl,o4,k4⟩;obtain ⟨A4,c4,rfl,hc4,-⟩:=o4.form;go_wp2;go_returns;exact ⟨A4,c4,rfl,hc4,o4.base_le K3.out.size,zK K3.out k4⟩
     ·have e:=HE.out;rw [if_neg isp] at e;obtain ⟨rfl,rfl⟩:=Prod.mk.inj e;have OP:=zH (PK.rot t kn TL.out HKN.out A p.length c p w3 (SZ.out _ K3.out) B3.out rfl hc hcm.out isp);clear e isp;go_wp2_with fail
      refine OP.out.mono ?_;rintro e w4 ⟨rfl,k4⟩;go_wp2;go_returns;exact GaveU.none (zK K3.out k4)
  ·have hne:((E0:Int) != 0)=true:=by rw [bne_iff_ne];omega
   have e:=HS.out;rw [if_neg k0,if_pos e0] at e;obtain ⟨rfl,rfl⟩:=Prod.mk.inj e;generalize n/256=q at *;clear h hZ hS hf hs e hz hn;go_enter Tryz.func227,Tryz.ntmps227;go_wp2_with fail
   refine PG.out.mono ?_;rintro e w1 ⟨rfl,k1⟩;go_wp2;go_returns;exact GaveU.none k1
end
section
variable {K:DiskOk} {w0 w:World} {b f:Nat} {F:Nat→Prop} {s:Ds}
theorem zkw (PK:PageOk) {nm:List UInt8} (h:Have K w0 w b F s) (hZ:K.Z w0) (hS:Sizes w0) (hf:PfAt w f b nm) (hnm:nm.length≤100000) (k:Int) (hk:IsI k)
 (A:Option Addr) (m c:Nat) (l:List UInt8) (hB:Bs w A l) (hm:m=l.length) (hc:m≤c) (hcm:c≤maxLen) {s':Ds} {E:Nat} (hs:zaG s nm k l=(s',E)) :
 Calls Tryz.prog 200 #[.pointer (some ⟨f,0,none⟩), .int .i64 k, .slice A m c] w (WentU K w0 w b F s' E):=by
 have hn:=zdZ (K.ok h.D) nm;have hml:nm.length≤maxLen:=by unfold maxLen;omega
 obtain ⟨n,E0,hz⟩:∃ n E0,sizeS s nm=(n,E0):=⟨_,_,rfl⟩
 rw [hz] at hn;unfold zaG at hs;rw [hz] at hs;simp only at hs;have hki:=hk.2;have hkl:=hk.1;have HS:=zH hs;have H:=zH h;by_cases k0:k<0
 ·have e:=HS.out;rw [if_pos k0] at e;obtain ⟨rfl,rfl⟩:=Prod.mk.inj e;clear h hZ hS hf hs e hz hn hB hcm;go_enter Tryz.func200,Tryz.ntmps200;go_wp2;go_ret;exact zdF H.out (zab _)
 ·obtain ⟨kn,rfl⟩:∃ kn:Nat,k=(kn:Int):=(⟨k.toNat,by omega⟩);obtain ⟨km,hkm⟩:∃ km:Nat,(kn:Int)%4294967296=(km:Int):=⟨kn%4294967296,by omega⟩
  have hkm2:km<4294967296:=(by omega);have TG:=zH (fun V=>PK.tag nm V hnm);have CC:=zH (fun (V:World) (kk:Keeps w V)=>And.intro (Box.cell (hf.keep kk) 0 rfl) (Box.cell (hf.keep kk) 1 rfl));have TL:=zk1 nm;unfold tagN at TL;obtain ⟨c0,c1⟩:=CC.out _ (zab _);have hmx:m≤maxLen:=by omega
  by_cases big:240<m
  ·have MN:=zH (fun V=>PK.many (extC 0 nm) km A m c V big hmx);have e:=HS.out;rw [if_neg k0,if_pos (by omega)] at e;obtain ⟨rfl,rfl⟩:=Prod.mk.inj e;clear h hZ hS hf hs e hz hn hB hcm hm big TL hmx;generalize extC 0 nm=t at *;generalize str nm=sv at *;go_enter Tryz.func200,Tryz.ntmps200;go_wp2_with fail
   refine (TG.out _).mono ?_;rintro e w1 ⟨rfl,k1⟩;go_wp2_with fail
   refine (MN.out _).mono ?_;rintro e w2 ⟨rfl,k2⟩;go_wp2;go_ret;exact zdF H.out (zK k1 k2)
  ·have hb:l.length≤240:=(by omega);have MK:=zH (fun (V:World) (kk:Keeps w V)=>PK.make (extC 0 nm) km TL hkm2 A m c l V ((zgJ hS h).keep kk) (hB.keep kk) hm hc hcm hb);have HL:=zH (zaF (b:=l) (extC 0 nm) km hb);have PG:=zH (fun (V:World) (kk:Keeps w V)=>zcT (h.keep kk) hZ (hf.keep kk) hml hz hn);by_cases e0:E0=0
   ·subst e0;obtain ⟨q,hq⟩:∃ q,n/256=q:=(⟨_,rfl⟩);have hq2:q≤65536:=by omega
    have hqi:(q:Int)≤65536:=(by omega);rw [hq] at PG;by_cases far:q<kn
    ·have hfar:(q:Int)<(kn:Int):=(by omega);have e:=HS.out;rw [if_neg k0,if_neg (by omega),if_neg (by simp),if_pos (by rw [hq];simpa using far)] at e;obtain ⟨rfl,rfl⟩:=Prod.mk.inj e;have e1:((0:Int) != 0)=false:=rfl;clear h hZ hS hf hs e hz hn hB hcm hm big TL hmx hb hq hq2 far;generalize pageB (extC 0 nm) km l=p at *;generalize extC 0 nm=t at *;generalize str nm=sv at *;go_enter Tryz.func200,Tryz.ntmps200;go_wp2_with fail
     refine (TG.out _).mono ?_;rintro e w1 ⟨rfl,k1⟩;have M1:=zH (MK.out _ k1);have K1:=zH k1;clear k1;go_wp2_with fail
     refine M1.out.mono ?_;rintro e w2 ⟨v2,rfl,o2,k2⟩;obtain ⟨A2,c2,rfl,-⟩:=o2.form;have K2:=zH (zK K1.out k2);have P2:=zH (PG.out _ K2.out);clear k2;go_wp2_with fail
     refine P2.out.mono ?_;rintro e w3 ⟨rfl,k3⟩;go_wp2;go_ret;exact zdF H.out (zK K2.out k3)
    ·have hfar:(kn:Int)≤(q:Int):=(by omega);obtain rfl:kn=km:=by omega
     obtain ⟨off,hoff⟩:∃ off:Nat,(kn:Int)*256=(off:Int):=(⟨kn*256,by omega⟩);have hofi:(off:Int)≤16777216:=by omega
     have e:=HS.out;rw [if_neg k0,if_neg (by omega),if_neg (by simp),if_neg (by rw [hq];simpa using far),hoff] at e;simp only [Int.toNat_natCast] at e;unfold tagN at e;have WR:=zH (fun (V:World) (kk:Keeps w V) (A3:Option Addr) (c3:Nat) (o:Own V w.heap.size 5 1 (.slice A3 256 c3) 256 (cel (pageB (extC 0 nm) kn l)))=>
      (h.keep kk).went e (K.write nm (off:Int) A3 256 c3 (pageB (extC 0 nm) kn l) ((h.keep kk).z hZ) (h.keep kk).D hml (by omega) (by omega) o.at_ (fun ad ha hf=>by
       obtain ⟨A',c',hv,hc',hm',-,hb'⟩:=o.form;injection hv with h3 h4 h5;subst h3;have h6:=(hb' ad ha).2.1;have h7:=K.lt h.D _ hf;omega) HL.out.symm (by obtain ⟨A',c',hv,hc',-⟩:=o.form;injection hv with h3 h4 h5;subst h5;exact hc') (by decide)))
     have hwr:IntKind.i64.wrap (off:Int)=(off:Int):=IntWalk.i64_in _ (by omega);have e1:((0:Int) != 0)=false:=rfl;unfold dpt strV at WR;rw [←hkm] at *;clear h hZ hS hf hs e hz hn hB hcm hm big TL hmx hb hq hq2 far HS hki hkl hk;generalize pageB (extC 0 nm) kn l=p at *;generalize extC 0 nm=t at *;generalize str nm=sv at *;go_enter Tryz.func200,Tryz.ntmps200;go_wp2_with fail
     refine (TG.out _).mono ?_;rintro e w1 ⟨rfl,k1⟩;have M1:=zH (MK.out _ k1);have K1:=zH k1;clear k1;go_wp2_with fail
     refine M1.out.mono ?_;rintro e w2 ⟨v2,rfl,o2,k2⟩;rw [HL.out] at o2;obtain ⟨A2,c2,rfl,-⟩:=o2.form;have O2:=zH (o2.base_le K1.out.size);have K2:=zH (zK K1.out k2);have P2:=zH (PG.out _ K2.out);clear k2;go_wp2_with fail
     refine P2.out.mono ?_;rintro e w3 ⟨rfl,k3⟩;have K3:=zH (zK K2.out k3);have O3:=zH (O2.out.keep k3);obtain ⟨d0,d1⟩:=CC.out _ K3.out;have W3:=zH (WR.out _ (zK K3.out (zD w3)) A2 c2 (O3.out.keep (zD w3)));clear k3 c0 c1;go_wp2_with fail
     go_region_with (go_at_call 223;refine W3.out.mono ?_;rintro ee w4 ⟨rfl,F4,h4,t4⟩)
     all_goals
      go_wp2;go_ret;exact ⟨rfl,F4,h4,(Turns.of_keeps (zK K3.out (zD w3))).trans t4⟩
   ·have hne:((E0:Int) != 0)=true:=by rw [bne_iff_ne];omega
    have e:=HS.out;rw [if_neg k0,if_neg (by omega),if_pos e0] at e;obtain ⟨rfl,rfl⟩:=Prod.mk.inj e;generalize n/256=q at *;clear h hZ hS hf hs e hz hn hB hcm hm big TL hmx hb;generalize pageB (extC 0 nm) km l=p at *;generalize extC 0 nm=t at *;generalize str nm=sv at *;go_enter Tryz.func200,Tryz.ntmps200;go_wp2_with fail
    refine (TG.out _).mono ?_;rintro e w1 ⟨rfl,k1⟩;have M1:=zH (MK.out _ k1);have K1:=zH k1;clear k1;go_wp2_with fail
    refine M1.out.mono ?_;rintro e w2 ⟨v2,rfl,o2,k2⟩;obtain ⟨A2,c2,rfl,-⟩:=o2.form;have K2:=zH (zK K1.out k2);have P2:=zH (PG.out _ K2.out);clear k2;go_wp2_with fail
    refine P2.out.mono ?_;rintro e w3 ⟨rfl,k3⟩;go_wp2;go_ret;exact zdF H.out (zK K2.out k3)
end
end Go.Proofs.YtjpldnjldindkaaGreatDoor
