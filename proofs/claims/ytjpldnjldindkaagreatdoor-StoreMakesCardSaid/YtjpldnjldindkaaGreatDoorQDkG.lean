/- Package disk: how much room there is; which sectors become loose; Write. -/
import Derived.Test.YtjpldnjldindkaaGreatDoorQDkA
import Derived.Test.YtjpldnjldindkaaGreatDoorQLaySt
import Derived.Sort.OwnSorted
import Derived.Sort.KeysCollected
set_option linter.all false
set_option maxHeartbeats 0
set_option maxRecDepth 100000
namespace Go.Proofs.YtjpldnjldindkaaGreatDoor
open Go.RowKit Go.Shelf
section
variable {w w':World} {b:Nat} {F:Nat→Prop} {s:Ds}
def roomE (s:Ds) (len off count:Nat):Nat:=if len<off then 1 else if 16777216<off+count then 9 else if sect len<sect (max len (off+count))∧s.q<usedL s.l+(sect (max len (off+count))-sect len) then 5 else 0
theorem zeJ (h:Dk w b F s) {k:Nat} {v1 v2:Value} {now lasts:List UInt8} {c:Nat→Prop} (hA:FileAt w c k v1 v2 now lasts) (hn:now.length≤16777216) (off count:Nat) (ho:off≤9223372036854775807) (hc:count≤70000) :
 Calls Tryz.prog 240 #[.pointer (some ⟨b,0,none⟩), .pointer (some ⟨k,0,none⟩), .int .i64 (off:Int), .int .i64 (count:Int)] w fun e w'=>e = .returned (.int .i64 (roomE s now.length off count:Int))∧Keeps w w':=by
 obtain ⟨A,cap,rfl,hcap,hcm,-⟩:=hA.own1.form;have c0:w.cell? ⟨k,0,none⟩=some (.slice A now.length cap):=hA.box.cell 0 rfl;have hkl:=hA.lt;obtain ⟨mf,ml,fb,col,hb,hx⟩:=h.at_;have q2:w.cell? ⟨b,2,none⟩=some (.int .i64 (s.q:Int)):=hb.cell 2 rfl;have hbl:=hb.lt;have HQ:=h.ok.q;have HU:=h.used;have US:=zH (fun (V:World) (kp:Keeps w V)=>show Calls Tryz.prog 252 #[.pointer (some ⟨b,0,none⟩)] V (fun e w'=>e = .returned (.int .i64 (usedL s.l:Int))∧Keeps V w') from zjo (h.keep kp));have QS:=zH (fun (V:World) (kp:Keeps w V)=>show V.cell? ⟨b,2,none⟩=some (.int .i64 (s.q:Int)) from kp.cellOf q2);clear hb hx hA hcm hcap h;generalize hln:now.length=len at *;clear hln;by_cases h1:len<off
 ·have e:roomE s len off count=1:=by unfold roomE;rw [if_pos h1]
  rw [e];have h1':(len:Int)<(off:Int):=(by omega);clear e h1 HQ HU;go_enter Tryz.func240,Tryz.ntmps240;go_wp2;go_ret;exact ⟨rfl,zab _⟩
 ·by_cases h2:16777216<off+count
  ·have e:roomE s len off count=9:=by unfold roomE;rw [if_neg h1,if_pos h2]
   rw [e];have h1':(off:Int)≤(len:Int):=(by omega);have h1b:(off:Int)≤16777216:=by omega
   have h2':(16777216:Int)-(off:Int)<(count:Int):=(by omega);clear e h1 h2 HQ HU hn ho hc;go_enter Tryz.func240,Tryz.ntmps240;go_wp2;go_ret;exact ⟨rfl,zab _⟩
  ·obtain ⟨sa,hsa⟩:∃ sa,sa=sect (off+count):=(⟨_,rfl⟩);obtain ⟨sb,hsb⟩:∃ sb,sb=sect len:=⟨_,rfl⟩
   have e:roomE s len off count=if sb<sa∧s.q<usedL s.l+(sa-sb) then 5 else 0:=by
    unfold roomE;rw [if_neg h1,if_neg h2];by_cases hm:off+count≤len
    ·have:=zhi hm;rw [Nat.max_eq_left hm,if_neg (by omega),if_neg (by omega)]
    ·rw [Nat.max_eq_right (by omega),hsa,hsb]
   rw [e];have S1:=zH (zc2 (off+count) (by omega));have S2:=zH (zc2 len (by omega));rw [←hsa] at S1;rw [←hsb] at S2;have hsum:((off+count:Nat):Int)=(off:Int)+(count:Int):=by omega
   rw [hsum] at S1;have b1:(sa:Int)≤262144:=by rw [hsa];unfold sect;omega
   have b2:(sb:Int)≤262144:=by rw [hsb];unfold sect;omega
   have h1':(off:Int)≤(len:Int):=(by omega);have h1b:(off:Int)≤16777216:=by omega
   have h2b:(count:Int)≤70000:=(by omega);have h2':(count:Int)≤(16777216:Int)-(off:Int):=by omega
   obtain ⟨us,hus⟩:∃ us,us=usedL s.l:=(⟨_,rfl⟩);obtain ⟨qq,hqq⟩:∃ qq,qq=s.q:=⟨_,rfl⟩
   rw [←hus] at US HU ⊢;rw [←hqq] at QS q2 HQ ⊢;have b3:(us:Int)≤1048576:=(by omega);have b4:(qq:Int)≤1048576:=by omega
   clear e h1 h2 hn ho hc hsa hsb hsum hus hqq HQ HU;by_cases h3:sb<sa
   ·have h3':(0:Int)<(sa:Int)-(sb:Int):=(by omega);have hdb:(sa:Int)-(sb:Int)≤262144:=by omega
    have hw:IntKind.i64.wrap ((us:Int)+((sa:Int)-(sb:Int)))=(us:Int)+((sa:Int)-(sb:Int)):=by simp [IntKind.wrap,IntKind.bits,IntKind.signed];omega
    by_cases h4:qq<us+(sa-sb)
    ·rw [if_pos ⟨h3,h4⟩];have h4':(qq:Int)<(us:Int)+((sa:Int)-(sb:Int)):=(by omega);clear h3 h4;go_enter Tryz.func240,Tryz.ntmps240;go_wp2;go_quiet (first|(go_at_call_of 251 (Value.int .i64 ((off:Int)+(count:Int)));exact Calls.quiet_of_same ((S1.out _).mono fun _ _ h=>⟨h.1,h.2.symm⟩))|(go_at_call_of 251 (Value.int .i64 (len:Int));exact Calls.quiet_of_same ((S2.out _).mono fun _ _ h=>⟨h.1,h.2.symm⟩)))
     have k9:=zam w nq;have q9:=QS.out _ k9;generalize w.drewN nq=wq at *;have KQ:=zH k9;clear k9 q2 c0;go_wp2_with fail
     generalize ((sa:Int)-(sb:Int))=dd at *;clear h1' h1b h2b h2' b1 b2;go_region_held3 (fun V=>V.cell? ⟨b,2,none⟩=some (.int .i64 (qq:Int))∧Keeps w V) (first|exact ⟨QS.out _ (by first|assumption|exact KQ.out|exact zK KQ.out (zD _)),by first|assumption|exact KQ.out|exact zK KQ.out (zD _)⟩|assumption) (first|(go_at_call 252;refine (US.out _ (by first|assumption|exact KQ.out|exact zK KQ.out (zD _))).mono ?_;rintro ee w1 ⟨rfl,hk1⟩;have hk2:=zK (zK KQ.out (zD _)) hk1))
     go_wp2;go_ret;exact ⟨rfl,by first|assumption|exact zK hk2 (zD _)⟩
    ·rw [if_neg (fun h=>h4 h.2)];have h4':decide ((qq:Int)<(us:Int)+((sa:Int)-(sb:Int)))=false:=decide_eq_false (by omega);clear h3 h4;go_enter Tryz.func240,Tryz.ntmps240;go_wp2;go_quiet (first|(go_at_call_of 251 (Value.int .i64 ((off:Int)+(count:Int)));exact Calls.quiet_of_same ((S1.out _).mono fun _ _ h=>⟨h.1,h.2.symm⟩))|(go_at_call_of 251 (Value.int .i64 (len:Int));exact Calls.quiet_of_same ((S2.out _).mono fun _ _ h=>⟨h.1,h.2.symm⟩)))
     have k9:=zam w nq;have q9:=QS.out _ k9;generalize w.drewN nq=wq at *;have KQ:=zH k9;clear k9 q2 c0;go_wp2_with fail
     generalize ((sa:Int)-(sb:Int))=dd at *;clear h1' h1b h2b h2' b1 b2;go_region_held3 (fun V=>V.cell? ⟨b,2,none⟩=some (.int .i64 (qq:Int))∧Keeps w V) (first|exact ⟨QS.out _ (by first|assumption|exact KQ.out|exact zK KQ.out (zD _)),by first|assumption|exact KQ.out|exact zK KQ.out (zD _)⟩|assumption) (first|(go_at_call 252;refine (US.out _ (by first|assumption|exact KQ.out|exact zK KQ.out (zD _))).mono ?_;rintro ee w1 ⟨rfl,hk1⟩;have hk2:=zK (zK KQ.out (zD _)) hk1))
     go_wp2;go_ret;exact ⟨rfl,by first|assumption|exact zK hk2 (zD _)⟩
   ·rw [if_neg (fun h=>h3 h.1)];have h3':decide (sb<sa)=false:=decide_eq_false h3;clear h3;go_enter Tryz.func240,Tryz.ntmps240;go_wp2;go_quiet (first|(go_at_call_of 251 (Value.int .i64 ((off:Int)+(count:Int)));exact Calls.quiet_of_same ((S1.out _).mono fun _ _ h=>⟨h.1,h.2.symm⟩))|(go_at_call_of 251 (Value.int .i64 (len:Int));exact Calls.quiet_of_same ((S2.out _).mono fun _ _ h=>⟨h.1,h.2.symm⟩)))
    have k9:=zam w nq;generalize w.drewN nq=wq at *;have KQ:=zH k9;clear k9 q2 c0;go_wp2;go_quiet (fail)
    go_wp2;go_ret;exact ⟨rfl,zK KQ.out (zam _ _)⟩
end
section
variable {w w':World} {b:Nat} {F:Nat→Prop} {s:Ds}
theorem zok (l:List (Pl×Unit)) (k:Pl) (p:Pl):p∈(putM l k ()).map Prod.fst↔p=k∨p∈l.map Prod.fst:=by
 unfold putM delM;rw [List.map_cons,List.mem_cons];constructor
 ·rintro (h|h)
  ·exact .inl h
  ·obtain ⟨x,hx,rfl⟩:=List.mem_map.1 h;exact .inr (List.mem_map.2 ⟨x,(List.mem_filter.1 hx).1,rfl⟩)
 ·rintro (h|h)
  ·exact .inl h
  ·by_cases e:p=k
   ·exact .inl e
   ·obtain ⟨x,hx,rfl⟩:=List.mem_map.1 h;exact .inr (List.mem_map.2 ⟨x,List.mem_filter.2 ⟨hx,decide_eq_true e⟩,rfl⟩)
theorem zmr {mf ml q armed:Nat} {off:Bool} (h:Box w b 88 (dkC mf ml q armed off)) {l2:List (Pl×Unit)} (hm:zaW w ml l2) (nm:List UInt8) (be n:Nat) (hb:be≤16777216) (hn:n≤70000) :
 Calls Tryz.prog 242 #[.pointer (some ⟨b,0,none⟩), .string (str nm), .int .i64 (be:Int), .int .i64 ((be:Int)+(n:Int))] w fun e w'=>e = .returned (.tuple #[])∧∃ l3,zaW w' ml l3∧(∀ p,p∈l3.map Prod.fst↔p∈l2.map Prod.fst∨(p.1=nm∧0<n∧be/64≤p.2∧p.2≤(be+n-1)/64))∧Only w w' (fun c=>c=ml):=by
 have HB:=zH h;have HM:=zH hm;have HNE:=zH (hm.ne h);have hbl:=h.lt;have hb2:(be:Int)≤16777216:=by omega
 have hn2:(n:Int)≤70000:=by omega
 have BN:=zH (And.intro hb hn);obtain ⟨en,hen⟩:∃ en,en=be+n:=⟨_,rfl⟩
 have hei:(be:Int)+(n:Int)=(en:Int):=by omega
 have HE:=zH hen;have he2:(en:Int)≤16900000:=by omega
 rw [hei];clear h hm hb hn hen hei hn2 hb2;go_enter Tryz.func242,Tryz.ntmps242;go_wp2;go_loopw [8,9] (fun a _ wr=>∃ (at_ cur:Nat) (l3:List (Pl×Unit)),a = .int .i64 (at_:Int)∧at_/64=cur∧be≤at_∧at_≤en+64∧(be/64<cur→at_=64*cur∧64*(cur-1)<en∧be<en)∧(cur=be/64→at_=be)∧zaW wr ml l3∧(∀ p,p∈l3.map Prod.fst↔p∈l2.map Prod.fst∨(p.1=nm∧be/64≤p.2∧p.2<cur))∧Only w wr (fun c=>c=ml)) (fun a _ _=>en+64-(intOf a).toNat)
 case atStart=>exact ⟨be,be/64,l2,rfl,rfl,Nat.le_refl _,by have:=HE.out;omega,fun h=>by omega,fun _=>rfl,HM.out,fun p=>⟨fun h=>.inl h,fun h=>by rcases h with h|h;exact h;omega⟩,Only.refl _ _⟩
 case round=>
  obtain ⟨at_,cur,l3,rfl,hc,hge,hle,hup,hst,hM3,hk3,hO3⟩:=hrel;have HC:=zH hc;have HGE:=zH hge;have HUP:=zH hup;have HST:=zH hst;have HM3:=zH hM3;have HK3:=zH hk3;have HO3:=zH hO3;have HLE:=zH hle;have ha2:(at_:Int)≤16900100:=by omega
  have B3:Box wr b 88 (dkC mf ml q armed off):=(hO3.block b HB.out.lt HNE.out).trans HB.out;have c1:wr.cell? ⟨b,1,none⟩=some (.map (some ml)):=B3.cell 1 rfl;have hlb:=B3.lt;by_cases hlt:at_<en
  ·have hq:Int.tdiv (at_:Int) 64=(cur:Int):=by rw [Int.tdiv_eq_ediv_of_nonneg (by omega)];omega
   have hcb:(cur:Int)≤300000:=(by omega);have hli:(at_:Int)<(en:Int):=by omega
   have HLT:=zH hlt;clear hc hge hup hst hM3 hk3 hO3 B3 hlt hle;go_wp2_with (at_mapUpdate;refine zfD _ rfl _ _ _ rfl looseT ml l3 rfl HM3.out (nm,cur) (by simp [Act.eval,plV,hq]) () rfl ?_;intro w2 hM2 hO2)
   have h1:=HC.out;have h2:=HGE.out;have h3:=HLT.out;have h4:=HLE.out;refine ⟨⟨64*(cur+1),cur+1,_,by congr 1;omega,by omega,by omega,by omega,fun _=>⟨rfl,by omega,by omega⟩,fun e=>?_,hM2,fun p=>?_,HO3.out.trans hO2 (fun i hi=>.inl hi)⟩,?_⟩
   ·have:=HUP.out;have:=HST.out;omega
   ·rw [zok,HK3.out p];have h5:be/64≤cur:=(by omega);constructor
    ·rintro (rfl|q|⟨q1,q2,q3⟩)
     ·exact .inr ⟨rfl,h5,by omega⟩
     ·exact .inl q
     ·exact .inr ⟨q1,q2,by omega⟩
    ·rintro (q|⟨q1,q2,q3⟩)
     ·exact .inr (.inl q)
     ·by_cases e:p.2=cur
      ·exact .inl (Prod.ext q1 e)
      ·exact .inr (.inr ⟨q1,q2,by omega⟩)
   ·have e1:((cur:Int)+1)*64=((64*(cur+1):Nat):Int):=(by omega);rw [e1];simp only [intOf,Int.toNat_natCast];omega
  ·have HLT:=zH hlt;have hli:(en:Int)≤(at_:Int):=(by omega);clear hc hge hup hst hM3 hk3 hO3 B3 hlt hle c1;go_wp2;go_returns;refine ⟨rfl,l3,HM3.out,fun p=>?_,HO3.out⟩;have h1:=HC.out;have h2:=HGE.out;have h3:=HUP.out;have h4:=HST.out;have h5:=HLT.out;have h6:=HE.out;rw [HK3.out p];constructor
   ·rintro (h|⟨q1,q2,q3⟩)
    ·exact .inl h
    ·have h7:=h3 (by omega);exact .inr ⟨q1,by omega,q2,by omega⟩
   ·rintro (h|⟨q1,q2,q3,q4⟩)
    ·exact .inl h
    ·refine .inr ⟨q1,q3,?_⟩;by_cases e:cur=be/64
     ·have:=h4 e;omega
     ·have:=h3 (by omega);omega
end
section
variable {w w':World} {b:Nat} {F:Nat→Prop} {s:Ds}
theorem zkH (s:Ds) (nm:List UInt8) (off:Nat) (l:List UInt8) {f:Fl} (ho:(goneS s).off=false) (hn:zaf nm=true) (hg:getF s.l nm=some f) :
 zaN s nm (off:Int) l=if roomE s f.now.length off l.length=0 then ({goneS s with l:=setF s.l (zaU f off l)},0) else (goneS s,roomE s f.now.length off l.length):=by
 unfold zaN roomE;rw [ho,if_neg (by simp),if_neg (by rw [hn];simp),hg];simp only [Int.toNat_natCast];by_cases h1:f.now.length<off
 ·simp [h1]
 ·rw [if_neg h1,if_neg h1];by_cases h2:16777216<off+l.length
  ·simp [h2]
  ·rw [if_neg h2,if_neg h2];by_cases h3:sect f.now.length<sect (max f.now.length (off+l.length))∧s.q<usedL s.l+(sect (max f.now.length (off+l.length))-sect f.now.length)
   ·rw [if_pos h3,if_pos h3];simp
   ·rw [if_neg h3,if_neg h3];simp
theorem zol {s:Ds} {len off n:Nat} (h:roomE s len off n=0):off≤len∧off+n≤16777216∧¬ (sect len<sect (max len (off+n))∧s.q<usedL s.l+(sect (max len (off+n))-sect len)):=by
 unfold roomE at h;by_cases h1:len<off
 ·rw [if_pos h1] at h;cases h
 ·rw [if_neg h1] at h;by_cases h2:16777216<off+n
  ·rw [if_pos h2] at h;cases h
  ·rw [if_neg h2] at h;refine ⟨by omega,by omega,fun h3=>?_⟩;rw [if_pos h3] at h;cases h
theorem zqo (s:Ds) (len off n:Nat):roomE s len off n≤9:=by
 unfold roomE;split
 ·decide
 ·split
  ·decide
  ·split<;>decide
theorem Bs.turns {A:Option Addr} {l:List UInt8} {F':Nat→Prop} (h:Bs w A l) (ht:Turns w w' F F') (hF:∀ ad,A=some ad→¬ F ad.block):Bs w' A l:=Turns.at_ ht h hF
theorem zom (h:Dk w b F s) (nm:List UInt8) (off:Int) (A:Option Addr) (n c:Nat) (l:List UInt8) (hnm:nm.length≤maxLen) (h1 : -9223372036854775808≤off) (h2:off≤9223372036854775807)
 (hB:Bs w A l) (hAF:∀ ad,A=some ad→¬ F ad.block) (hnl:n=l.length) (hnc:n≤c) (hn7:n≤70000) :
 Calls Tryz.prog 223 #[dpt b,strV nm, .int .i64 off, .slice A n c] w fun e w'=>e = .returned (.int .i64 ((zaN s nm off l).2:Int))∧∃ F',Dk w' b F' (zaN s nm off l).1∧Turns w w' F F':=by
 show Calls _ _ #[.pointer (some ⟨b,0,none⟩), .string (str nm),_,_] w _;have BG:=zH (zer h);have TB:=zH (fun (V:World) (hO:Only w V (fun c=>c=b))=>h.turnsB hO);have GP:=zH (zcp h);have HBS:=zH hB;have HAF:=zH hAF;have HNL:=zH hnl;have HNC:=zH hnc;have HN7:=zH hn7;clear hB hAF hnl hnc hn7;cases ho:(goneS s).off
 ·rw [ho] at BG;by_cases hneg:off<0
  ·have e:zaN s nm off l=(goneS s,1):=by unfold zaN;rw [ho,if_neg (by simp),if_pos (.inr hneg)]
   rw [e];clear e h;go_enter Tryz.func223,Tryz.ntmps223;go_wp2_with (go_at_call 144;refine BG.out.mono ?_;rintro e w1 ⟨rfl,hD,hO⟩)
   go_ret;exact ⟨rfl,F,hD,TB.out _ hO⟩
  ·obtain ⟨o,rfl⟩:=Int.eq_ofNat_of_zero_le (show 0≤off by omega);have hon:¬ (o:Int)<0:=(by omega);cases hn:zaf nm
   ·have e:zaN s nm (o:Int) l=(goneS s,1):=by unfold zaN;rw [ho,if_neg (by simp),if_pos (.inl hn)]
    rw [e];clear e h;go_enter Tryz.func223,Tryz.ntmps223;go_wp2_with (first
     | (go_at_call 144;refine BG.out.mono ?_;rintro e w1 ⟨rfl,hD,hO⟩)
     | (go_at_call 145;obtain ⟨mf,ml,fb,col,hb,hx⟩:=hD.at_;refine (zaY hb hx nm hnm).mono ?_;rw [zcq hn];rintro e w' ⟨rfl,rfl⟩))
    go_ret;exact ⟨rfl,F,hD,TB.out _ hO⟩
   ·cases hg:getF s.l nm with
    | none=>
     have e:zaN s nm (o:Int) l=(goneS s,3):=by unfold zaN;rw [ho,if_neg (by simp),if_neg (by rw [hn];simp),hg]
     rw [e];have hg2:getF (goneS s).l nm=none:=by rw [GP.out.1];exact hg
     clear e h;go_enter Tryz.func223,Tryz.ntmps223;go_wp2_with (first
      | (go_at_call 144;refine BG.out.mono ?_;rintro e w1 ⟨rfl,hD,hO⟩)
      | (go_at_call 145;obtain ⟨mf,ml,fb,col,hb,hx⟩:=hD.at_;refine (zaY hb hx nm hnm).mono ?_;rw [zb1 hn hg2];rintro e w' ⟨rfl,rfl⟩))
     go_ret;exact ⟨rfl,F,hD,TB.out _ hO⟩
    | some f=>
     have hg2:getF (goneS s).l nm=some f:=by rw [GP.out.1];exact hg
     have HFN:=zH (zbq hg);have e:=zkH s nm o l ho hn hg;have er:roomE (goneS s) f.now.length o l.length=roomE s f.now.length o l.length:=by unfold roomE;rw [GP.out.1,GP.out.2.1]
     by_cases hr:roomE s f.now.length o l.length=0
     ·rw [if_pos hr] at e;rw [e];rw [hr] at er;obtain ⟨r1,r2,r3⟩:=zol er;have ROOM:=zH (And.intro r1 (And.intro r2 r3));rw [←GP.out.1];clear e h hr r1 r2 r3;go_enter Tryz.func223,Tryz.ntmps223;go_wp2_with (first
       | (go_at_call 144;refine BG.out.mono ?_;rintro e w1 ⟨rfl,hD,hO⟩)
       | (go_at_call 145;obtain ⟨mf,ml,fb,col,hb,hx⟩:=hD.at_;refine (zaY hb hx nm hnm).mono ?_;rw [zbD hn hg2];rintro e w' ⟨rfl,rfl⟩;obtain ⟨v1,v2,hA⟩:=hx.each f (zaR hg2);have hfo:=hD.ok.files f (zaR hg2))
       | (go_at_call 240;refine (zeJ hD hA hfo.size o n (by omega) HN7.out).mono ?_;rw [HNL.out,er];rintro e w3 ⟨rfl,k3⟩))
      have hfm:=zaR hg2;have X3:=hx.keep k3;have B3:Box w3 b 88 (dkC mf ml (goneS s).q (goneS s).armed (goneS s).off):=hb.keep k3;have T3:Turns w w3 F F:=(TB.out _ hO).trans (Turns.of_keeps k3);have PU:=zH (zq3 (hA.keep k3) o ROOM.out.1 hfo.size A l.length c l (HBS.out.turns T3 HAF.out) rfl (by rw [←HNL.out];exact HNC.out) (by rw [←HNL.out];exact HN7.out) (fun ad ea hh=>HAF.out ad ea hh.1));have HX3:=zH X3;have HB3:=zH B3;have HT3:=zH T3;have HD:=zH hD;have HFO:=zH hfo;have HFM:=zH hfm;have hol:(o:Int)≤16777216:=by have:=ROOM.out.1;have:=hfo.size;omega
      have hll:(l.length:Int)≤70000:=by have:=HN7.out;have:=HNL.out;omega
      have HOL:=zH (And.intro hol hll);clear hb hx hA hD hfo hfm X3 B3 T3 k3 hO;go_wp2_with (go_at_call 241;refine PU.out.mono ?_;rintro e w4 ⟨rfl,u1,F4,O4⟩)
      have X4:=HX3.out.turn (f':={f with now:=layB f.now o l}) HFM.out rfl (fun _=>rfl) O4 F4;have T4:Turns w w4 F (more w3 w4 F):=HT3.out.trans (zgH O4 (fun i hi=>hi.1));have B4:Box w4 b 88 (dkC mf ml (goneS s).q (goneS s).armed (goneS s).off):=HX3.out.box HB3.out O4;obtain ⟨l4,hm4,hmem⟩:=X4.loose;have LO:=zH (zmr B4 hm4 nm o l.length (by have:=HOL.out;omega) (by have:=HOL.out;omega));have FIN:=zH (show ∀ w5 l3,zaW w5 ml l3→(∀ p,p∈l3.map Prod.fst↔p∈l4.map Prod.fst∨(p.1=nm∧0<l.length∧o/64≤p.2∧p.2≤(o+l.length-1)/64))→Only w4 w5 (fun c=>c=ml)→Dk w5 b (more w3 w4 F) {goneS s with l:=setF (goneS s).l (zaU f o l)}∧Turns w w5 F (more w3 w4 F) from fun w5 l3 hL5 hk5 hO5=>by
       have X5:=X4.remark (f2:=zaU f o l) rfl rfl rfl ⟨l3,hL5,fun p=>by
        rw [hk5 p,hmem p,zdU (f:=f) (f':={f with now:=layB f.now o l}) HX3.out.nodup HFM.out rfl (fun _=>rfl) p,ze6 (f:=f) (f':=zaU f o l) HX3.out.nodup HFM.out rfl p];have hwl:(zaU f o l).loose p.2=true↔(f.loose p.2=true∨(0<l.length∧o/64≤p.2∧p.2≤(o+l.length-1)/64)):=by
         show (f.loose p.2||(decide (0<l.length)&&decide (o/64≤p.2)&&decide (p.2≤(o+l.length-1)/64)))=true↔_;simp only [Bool.or_eq_true,Bool.and_eq_true,decide_eq_true_eq,and_assoc]
        rw [hwl,HFN.out];constructor
        ·rintro (h1|⟨h1,h2⟩)
         ·by_cases e:p.1=nm
          ·exact .inr ⟨e, .inl ((zfK HX3.out.nodup HFM.out (p:=p) (by rw [HFN.out];exact e)).1 h1)⟩
          ·exact .inl ⟨e,h1⟩
         ·exact .inr ⟨h1, .inr h2⟩
        ·rintro (⟨h1,h2⟩|⟨h1,h2|h2⟩)
         ·exact .inl h2
         ·exact .inl ((zfK HX3.out.nodup HFM.out (p:=p) (by rw [HFN.out];exact h1)).2 h2)
         ·exact .inr ⟨h1,h2⟩⟩ (hO5.weak fun i hi=>.inl hi)
       have hne:b≠ml:=hm4.ne B4;have hlw:(zaU f o l).now.length=max f.now.length (o+l.length):=zdO f.now o l ROOM.out.1;refine ⟨HD.out.make (HD.out.lok.set (f:=f) (f':=zaU f o l) (by show getF _ f.name=_;rw [HFN.out];exact hg2) (HFO.out.write ROOM.out.1 ROOM.out.2.1) (by
        rw [hlw];have h1:=HD.out.used;have h2:=ROOM.out.2.2;have h3:=HD.out.ok.q;have h4:=zhi (show f.now.length≤max f.now.length (o+l.length) by omega);omega)) ⟨mf,ml,fb,_,(hO5.block b B4.lt hne).trans B4,X5⟩,⟨T4.only.trans hO5 (fun i hi=>.inl (by rw [hi];exact HX3.out.nl.1)),T4.next⟩⟩)
      clear F4 O4 X4 T4 B4 hm4 hmem;go_wp2_with (go_at_call 242;refine LO.out.mono ?_;rintro e w5 ⟨rfl,l3,hL5,hk5,hO5⟩)
      have FF:=FIN.out w5 l3 hL5 hk5 hO5;go_ret;exact ⟨rfl,_,FF.1,FF.2⟩
     ·rw [if_neg hr] at e;rw [e];have hr9:=zqo s f.now.length o l.length;rw [←er] at hr hr9 ⊢;clear e h;generalize hrr:roomE (goneS s) f.now.length o l.length=rr at *;have hri:((rr:Int) == 0)=false:=by rw [beq_eq_false_iff_ne];omega
      have hri2:((rr:Int) != 0)=true:=by rw [bne_iff_ne];omega
      go_enter Tryz.func223,Tryz.ntmps223;go_wp2_with (first
       | (go_at_call 144;refine BG.out.mono ?_;rintro e w1 ⟨rfl,hD,hO⟩)
       | (go_at_call 145;obtain ⟨mf,ml,fb,col,hb,hx⟩:=hD.at_;refine (zaY hb hx nm hnm).mono ?_;rw [zbD hn hg2];rintro e w' ⟨rfl,rfl⟩;obtain ⟨v1,v2,hA⟩:=hx.each f (zaR hg2);have hfo:=hD.ok.files f (zaR hg2))
       | (go_at_call 240;refine (zeJ hD hA hfo.size o n (by omega) HN7.out).mono ?_;rw [HNL.out,hrr];rintro e w3 ⟨rfl,k3⟩))
      go_ret;exact ⟨by rw [er];rfl,F,hD.keep k3,(TB.out _ hO).trans (Turns.of_keeps k3)⟩
 ·rw [ho] at BG;have e:zaN s nm off l=(goneS s,6):=by unfold zaN;rw [ho];simp
  rw [e];clear e h;go_enter Tryz.func223,Tryz.ntmps223;go_wp2_with (go_at_call 144;refine BG.out.mono ?_;rintro e w1 ⟨rfl,hD,hO⟩)
  go_ret;exact ⟨rfl,F,hD,TB.out _ hO⟩
end
section
variable {w w':World} {b:Nat} {F:Nat→Prop} {s:Ds}
end
def encS (x:List UInt8):Value:=(.string (str x))
def celS (x:List UInt8):List Value:=[.string (str x)]
theorem infoS:(Tryz.prog.info? 9).map (fun i=>(i.zero,i.size,i.bytes))=some (some (.string ⟨#[]⟩),1,16):=by kernel_rfl
theorem zsx (l Bm b:Nat) (es:List ((List UInt8)×Nat)) (J:List (List UInt8)→World→Prop) (W:World)
 (hY:∀ pre x W1,J pre W1→pre.length<es.length→YieldAt Fence.wide 0 Tryz.prog l #[(.string (str x))] W1 fun e W'=>e = .returned (.bool true)∧J (pre++[x]) W'∧KeepsWalks W1 W')
 (hJ:AbidesFrom W.heap.size J) (hm:W.cell? ⟨Bm,0,none⟩=some (.map (some b))) (hown:MapW strW dpt W b es) (h0:J [] W) :
 Calls Tryz.prog 96 #[.func (.yield l) #[] #[], .pointer (some ⟨Bm,0,none⟩)] W fun e W'=>(∃ v,e = .returned v)∧∃ ss:List (List UInt8),ss.Perm (es.map Prod.fst)∧J ss W':=by
 refine (callsIn_wide (n:=1)).1 ?_;have OW:=zH hown;have HY:=zH hY;have HJ:=zH hJ;have H0:=zH h0;clear hown hY hJ h0;refine callsIn_of_wp Tryz.func96 rfl trivial ?_ rfl;simp only [Tryz.ntmps96,List.size_toArray,List.length_cons,List.length_nil,Nat.reduceAdd,Nat.reduceSub,Array.replicate_succ,Array.replicate_zero,List.push_toArray,List.append_toArray,List.nil_append,List.cons_append]
 gi_wp2_with (first
  | (gi_at_range;refine zdC _ rfl _ rfl zco b es rfl OW.out ?_;intro w0 hi0 hk0 hs0)
  | gi_in)
 go_frame
 have HI0:=zH hi0;have HK0:=zH hk0;clear hi0 hk0 hs0
 gi_loopw [3] (fun _ wr=>∃ (lf:List ((List UInt8)×Nat)) (ss:List (List UInt8)),IterV strW dpt wr b W.heap.size es lf∧(ss++lf.map Prod.fst).Perm (es.map Prod.fst)∧J ss wr)
  (fun _ wr=>wr.rangeLeft b W.heap.size)
 case atStart=>exact ⟨es,[],HI0.out,by simp,HJ.out [] W w0 none H0.out ⟨HK0.out.os,HK0.out.tape,HK0.out.output,HK0.out.size,fun k hk _=>HK0.out.block k hk⟩ (fun r e=>by cases e)⟩
 case round=>
  obtain ⟨lf,ss,hI,hP,hJs⟩:=hrel;have HP:=zH hP;have HS:=zH hJs;have HI:=zH hI;clear hP hJs
  gi_wp2_with (first
   | (gi_at_next;refine zd0 _ rfl _ rfl zco b W.heap.size es lf rfl HI.out (fun s:List UInt8=>Value.string (str s)) rfl (fun k:Nat=>Value.pointer (some ⟨k,0,none⟩)) rfl ?_ ?_)
   | gi_in)
  ·intro hd;have HD:=zH hd;clear hd
   gi_wp2
   go_end0
   exact ⟨⟨_,rfl⟩,ss,by have:=HP.out;rw [HD.out] at this;simpa using this,HS.out⟩
  ·rintro x y lf' w2 hp hI2 ho2 hen;have hJ2:J ss w2:=HJ.out ss wr w2 (some W.heap.size) HS.out (Only.grownBy ho2) (fun r e=>by cases e;exact ⟨Nat.le_refl _,HI.out.walk⟩);have hlen:ss.length<es.length:=by
    have h1:=HP.out.length_eq;have h2:=hp.length_eq;simp only [List.length_append,List.length_map,List.length_cons] at h1 h2;omega
   have HPP:=zH hp;obtain ⟨fn,tmps,assign,body,hy,hR⟩:=HY.out ss x w2 hJ2 hlen;have HI2:=zH hI2;clear hp hI2 ho2 hJ2 hlen
   gi_wp2
   refine hR.mono ?_;rintro e W3 ⟨rfl,hJ3,hk3⟩
   gi_wp2
   have hI3:=HI2.out.walks hk3;go_roundw
   case rel=>
    refine ⟨lf',ss++[x],hI3,?_,hJ3⟩;have h1:=HPP.out.map Prod.fst;have h2:(ss++lf.map Prod.fst).Perm ((ss++[x])++lf'.map Prod.fst):=by
     rw [List.append_assoc];exact List.Perm.append_left ss (by simpa using h1)
    exact h2.symm.trans HP.out
   case measure=>
    rw [hI3.left_eq,HI.out.left_eq];have:=HPP.out.length_eq;simp at this;omega
theorem keysS (mb:Option Nat) (w:World):Calls Tryz.prog 59 #[.map mb] w fun e w'=>e = .returned (.func (.func 96) #[] #[.pointer (some ⟨w.heap.size,0,none⟩)])∧w'=w.alloc (.cells #[.map mb] 85):=by
 go_enter Tryz.func59,Tryz.ntmps59;go_wp2;go_ret;exact ⟨rfl,rfl⟩
def apAS : Code:=Code.region 2 #[{dst:=some 5,op:=Op.assign (Operand.tmp 7),type:=9,pos := "iter.go:51",after:=#[],guard:=none}] false
def apBS : Code:=Code.block 1 (Code.region 3 #[{dst:=some 8,op:=Op.load 74 (Operand.tmp 2),type:=74,pos := "iter.go:52",after:=#[],guard:=none},{dst:=some 9,op:=Op.move (Operand.tmp 5),type:=9,pos := "iter.go:52",after:=#[],guard:=none},{dst:=some 10,op:=Op.buildSlice 74 1 #[(0,Operand.tmp 9)],type:=74,pos := "iter.go:52",after:=#[{on:=1,ground:=Ground.data}],guard:=none},{dst:=some 11,op:=Op.call {callee:=Callee.builtin Builtin.append,args:=#[Operand.tmp 8,Operand.tmp 10],argTypes:=#[74,74]},type:=74,pos := "iter.go:52",after:=#[{on:=0,ground:=Ground.data},{on:=2,ground:=Ground.data}],guard:=none},{dst:=none,op:=Op.store 74 (Operand.tmp 2) (Operand.tmp 11),type:=0,pos := "iter.go:52",after:=#[{on:=3,ground:=Ground.data},{on:=3,ground:=Ground.chain},{on:=0,ground:=Ground.phase},{on:=1,ground:=Ground.phase},{on:=2,ground:=Ground.phase},{on:=3,ground:=Ground.phase}],guard:=none}] false)
def apRS (fn:FuncId) (sv:Value) (Bs D:Nat) (st:LoopState):Loop:=
 {state:=st,pending:=none,fn,tmps:=#[.slice none 0 0,sv, .pointer (some ⟨Bs,0,none⟩),undef, .slice none 0 0,undef,sv,undef,undef,undef,undef,undef,undef],params:=#[7],assign:=apAS,body:=apBS,defers:=D}
structure ApAtS (w0:World) (fn:FuncId) (sv:Value) (Bs l D:Nat) (ss:List (List UInt8)) (W:World):Prop where
 box:∃ v,W.heap[Bs]? = some (.cells #[v] 74 (0,0))∧W.ownsRow w0.heap.size 9 1 v ss.length (ss.flatMap celS)
 L:W.heap[l]? = some (.loop (apRS fn sv Bs D .ready))
 K:W.heap[D]? = some (.deferred (some []))
 below:Keeps w0 W
theorem zms (w0:World) (fn:FuncId) (sv:Value) (Bs l D B:Nat) (hB:w0.heap.size≤B):AbidesFrom B (ApAtS w0 fn sv Bs l D):=fun s W W' row h hg hrow=>by
 have hrow':∀ r,row=some r→∃ o:Obj,W.heap[r]? = some o∧o.isWalk=true:=fun r e=>(hrow r e).2
 obtain ⟨v,hv,hr⟩:=h.box;exact ⟨⟨v,(grownBy_keeps hg hrow' hv rfl).trans hv,zd1 hr hg hrow'⟩,(grownBy_keeps hg hrow' h.L rfl).trans h.L,(grownBy_keeps hg hrow' h.K rfl).trans h.K,h.below.grown hg h.below.size (fun k e=>Nat.le_trans hB (hrow k e).1)⟩
theorem zqp (w0:World) (fn:FuncId) (sv:Value) (Bs l D:Nat) (hBl:Bs≠l) (hDl:D≠l) (hDB:D≠Bs) (h0B:w0.heap.size≤Bs) (h0l:w0.heap.size≤l)
 (N:Nat) (hN:N≤1000000000) (ss:List (List UInt8)) (x:List UInt8) (W:World) (h:ApAtS w0 fn sv Bs l D ss W) (hlen:ss.length<N) :
 YieldAt Fence.wide 0 Tryz.prog l #[(.string (str x))] W fun e W'=>e = .returned (.bool true)∧ApAtS w0 fn sv Bs l D (ss++[x]) W'∧KeepsWalks W W':=by
 obtain ⟨i0,hi,hz0,hz1,hz2⟩:=info_parts infoS;obtain ⟨Wa,hWa⟩:∃ Wa,W=Wa:=⟨_,rfl⟩
 have hA:ApAtS w0 fn sv Bs l D ss Wa:=by rw [←hWa];exact h
 have hkw:KeepsWalks W Wa:=by rw [←hWa];exact KeepsWalks.refl _
 obtain ⟨v,hv,hrow⟩:=hA.box;have hne:74≠9:=by decide
 refine ⟨fn,#[.slice none 0 0,sv, .pointer (some ⟨Bs,0,none⟩),undef, .slice none 0 0,undef,sv,(.string (str x)),undef,undef,undef,undef,undef],apAS,apBS,by simpa [apRS] using run_yield (P:=Tryz.prog) (args:=#[(.string (str x))]) h.L rfl,roundIn_of_wpIn trivial ?_⟩;have hl:l<Wa.heap.size:=(zJ9.1 hA.L).1;have hbr:=run_beginRound (P:=Tryz.prog) hA.L rfl;obtain ⟨W2,hW2⟩:∃ W2,Wa.putObj l (.loop {apRS fn sv Bs D .ready with state:=.busy})=W2:=⟨_,rfl⟩
 rw [hW2] at hbr;have hg2:Wa.grownBy W2 (some l):=by rw [←hW2];exact zaK _ _ _
 have hk2:KeepsWalks W W2:=hkw.trans (by rw [←hW2];exact KeepsWalks.putObj _ hA.L rfl);have hv2:W2.heap[Bs]? = some (.cells #[v] 74 (0,0)):=by rw [←hW2];exact (World.putObj_heap_other hBl).trans hv
 have hK2:W2.heap[D]? = some (.deferred (some [])):=by rw [←hW2];exact (World.putObj_heap_other hDl).trans hA.K
 have hL2:W2.heap[l]? = some (.loop (apRS fn sv Bs D .busy)):=by rw [←hW2];exact World.putObj_heap_same hl
 have hrow2:W2.ownsRow w0.heap.size 9 1 v ss.length (ss.flatMap celS):=hrow.kept hg2 (zaD hrow hA.L (fun cur e=>by cases e));have hb2:Keeps w0 W2:=hA.below.grown hg2 hA.below.size (fun k e=>by cases e;exact h0l);obtain ⟨hc2,hf2⟩:=zcD hv2;have hBlt:Bs<W2.heap.size:=(zJ9.1 hv2).1;have hl2:l<W2.heap.size:=(zJ9.1 hL2).1;have hDlt:D<W2.heap.size:=(zJ9.1 hK2).1;have no1:∀ cur:Array Value,Obj.cells #[v] 74 (0,0)≠.cells cur 9 (0,0):=fun cur e=>hne (Obj.cells.inj e).2.1
 have ne_of:∀ {j:Nat} {o:Obj},W2.heap[j]? = some o→(∀ cur,o≠.cells cur 9 (0,0))→some j≠v.ownBlock:=fun hj hno=>by
  rcases zaD hrow2 hj hno with e|e
  ·rw [e];simp
  ·exact fun e'=>e e'.symm
 have HB2:=zH hb2;have HR2:=zH hrow2;have HK2:=zH hk2;subst hWa;clear hW2 hb2 hrow2 hk2 hg2 hrow hv hA hkw h;unfold apAS
 gi_wp2_with (rw [Oper.semAt_eq _ _ _ (fun c h=>by cases h)];go_simp;try go_bits)
 refine ⟨W2,hbr,?_⟩;unfold apBS
 gi_wp2_with (first
  | (gi_at_builtin;refine wpListIn_append_own _ rfl _ _ 74 rfl w0.heap.size 9 i0 (.string ⟨#[]⟩) 1 16 Tryz.underlying74 hi hz0 hz1 hz2 rfl (by decide) _ _ _ rfl (HR2.out.alloc _) ⟨W2.heap.size,0,none⟩ 1 1 (celS x) rfl rfl (by exact cell_one_new _ _ _) (by intro u hu;simp only [celS,List.mem_singleton] at hu;subst hu;rfl) (by unfold maxLen;omega) (by omega) (by have:=HB2.out.size;simp;omega) ?_;intro v' w3 hown' hg3 hnil3
     have hv3:w3.heap[Bs]? = some (.cells #[v] 74 (0,0)):=(hg3.block Bs (by simp;omega) (ne_of hv2 no1)).trans ((Below.heap_alloc _ _ Bs hBlt).trans hv2);obtain ⟨hc3,hf3⟩:=zcD hv3;obtain ⟨g',cap',cur',rfl,hbase',hgb',hr1,hr2,hr3,hr4⟩:∃ g' cap' cur',v' = .slice (some ⟨g',0,none⟩) (ss.length+1) cap'∧w0.heap.size≤g'∧w3.heap[g']? = some (.cells cur' 9 (0,0))∧ss.length+1≤cap'∧cap'≤maxLen∧cur'.size=cap'*1∧cur'.toList.take ((ss.length+1)*1)=ss.flatMap celS++celS x:=by
      rcases hown'.2 with ⟨_,h0⟩|h'
      ·exact absurd h0 (by omega)
      ·exact h'
     go_frame)
  | (rw [Oper.semAt_eq _ _ _ (fun c h=>by cases h)];go_simp;try go_bits))
 have hL3:w3.heap[l]? = some (.loop (apRS fn sv Bs D .busy)):=(hg3.block l (by simp;omega) (ne_of hL2 (fun cur e=>by cases e))).trans ((Below.heap_alloc _ _ l hl2).trans hL2);have hK3:w3.heap[D]? = some (.deferred (some [])):=(hg3.block D (by simp;omega) (ne_of hK2 (fun cur e=>by cases e))).trans ((Below.heap_alloc _ _ D hDlt).trans hK2);obtain ⟨w4,hw4⟩:∃ w4,w3.setCell ⟨Bs,0,none⟩ (.slice (some ⟨g',0,none⟩) (ss.length+1) cap')=w4:=⟨_,rfl⟩
 rw [hw4];have hg4:w3.grownBy w4 (some Bs):=by rw [←hw4];exact zeG _ _ _
 have hv4:w4.heap[Bs]? = some (.cells #[.slice (some ⟨g',0,none⟩) (ss.length+1) cap'] 74 (0,0)):=by rw [←hw4];exact zfE _ hv3
 have hL4:w4.heap[l]? = some (.loop (apRS fn sv Bs D .busy)):=(hg4.block l (zJ9.1 hL3).1 (fun e=>hBl (by cases e;rfl))).trans hL3;have hK4:w4.heap[D]? = some (.deferred (some [])):=(hg4.block D (zJ9.1 hK3).1 (fun e=>hDB (by cases e;rfl))).trans hK3;have hrow4:=hown'.kept hg4 (zaD hown' hv3 no1);have hl4:l<w4.heap.size:=(zJ9.1 hL4).1;have hb3:Keeps w0 w3:=Below.grown (Below.alloc HB2.out HB2.out.size _) hg3 (by have:=HB2.out.size;simp;omega) (fun k e=>(HR2.out.lt k e).1);have hb4:Keeps w0 w4:=hb3.grown hg4 hb3.size (fun k e=>by cases e;exact h0B);have hk4:KeepsWalks W w4:=((HK2.out.trans (KeepsWalks.alloc _ _)).trans (KeepsWalks.of_grownBy hg3 (zdD (HR2.out.alloc _)))).trans (by rw [←hw4];exact KeepsWalks.setCell _ _ _);clear hw4;refine ⟨_,_,run_endRound none hL4,rfl,⟨⟨_,(World.putObj_heap_other hBl).trans hv4,?_⟩,World.putObj_heap_same hl4,(World.putObj_heap_other hDl).trans hK4,hb4.grown (zaK _ _ _) hb4.size (fun k e=>by cases e;exact h0l)⟩,hk4.trans (KeepsWalks.putObj _ hL4 rfl)⟩;have:=hrow4.kept (zaK w4 l (.loop {apRS fn sv Bs D .busy with state:=if (none:Option Code).isNone then .ready else .done,pending:=none})) (zaD hrow4 hL4 (fun cur e=>by cases e));simpa using this
theorem zmt (Bm b:Nat) (es:List ((List UInt8)×Nat)) (w:World) (hm:w.cell? ⟨Bm,0,none⟩=some (.map (some b))) (hown:MapW strW dpt w b es) (hN:es.length≤1000000000) :
 Calls Tryz.prog 125 #[.slice none 0 0, .func (.func 96) #[] #[.pointer (some ⟨Bm,0,none⟩)]] w fun e w'=>∃ (v:Value) (ss:List (List UInt8)),e = .returned v∧ss.Perm (es.map Prod.fst)∧w'.ownsRow w.heap.size 9 1 v ss.length (ss.flatMap celS)∧Keeps w w':=by
 have hBm:Bm<w.heap.size:=block_lt_of_cell hm;have eg:∀ args w,(callFunc 96 args).run Tryz.prog w = .ok (.enter 96 args) w:=enters_of Tryz.func96 (by kernel_rfl) rfl;refine (callsIn_wide (n:=2)).1 ?_;refine callsIn_of_wp_marks Tryz.func125 rfl trivial ?_ rfl;simp only [Tryz.ntmps125,List.size_toArray,List.length_cons,List.length_nil,Nat.reduceAdd,Nat.reduceSub,Array.replicate_succ,Array.replicate_zero,List.push_toArray,List.append_toArray,List.nil_append,List.cons_append]
 gi_wp2
 refine wpIn_rangeFunc ?_;intro fn hfn;rw [zgy];obtain ⟨W0,hW0⟩:∃ W0,w.alloc (.cells #[.slice none 0 0] 74)=W0:=⟨_,rfl⟩
 have hs0:W0.heap.size=w.heap.size+1:=by rw [←hW0];simp
 have hv0:W0.heap[w.heap.size]? = some (.cells #[.slice none 0 0] 74 (0,0)):=by rw [←hW0];exact World.alloc_heap_new w _
 have hb0:Keeps w W0:=by rw [←hW0];exact zA _ _
 rw [hW0];obtain ⟨sv,hsv⟩:∃ sv,Value.func (.func 96) #[] #[.pointer (some ⟨Bm,0,none⟩)]=sv:=⟨_,rfl⟩
 obtain ⟨W1,hW1⟩:∃ W1,(W0.alloc (.deferred (some []))).alloc (.loop (apRS fn (.func (.func 96) #[] #[.pointer (some ⟨Bm,0,none⟩)]) w.heap.size W0.heap.size .ready))=W1:=⟨_,rfl⟩
 have hold:∀ k,k<W0.heap.size→W1.heap[k]? = W0.heap[k]?:=fun k hk=>by
  rw [←hW1];exact (Below.heap_alloc _ _ k (by simp;omega)).trans (Below.heap_alloc _ _ k hk)
 have hb1:Keeps w W1:=by rw [←hW1];exact zK (zK hb0 (zA _ _)) (zA _ _)
 have hs1:W1.heap.size=W0.heap.size+2:=by rw [←hW1];simp
 have hM:ApAtS w fn (.func (.func 96) #[] #[.pointer (some ⟨Bm,0,none⟩)]) w.heap.size (W0.heap.size+1) W0.heap.size [] W1:=
  ⟨⟨_,(hold w.heap.size (by omega)).trans hv0,⟨rfl, .inl ⟨rfl,rfl⟩⟩⟩,
   by rw [←hW1];have:=World.alloc_heap_new (W0.alloc (.deferred (some []))) (.loop (apRS fn (.func (.func 96) #[] #[.pointer (some ⟨Bm,0,none⟩)]) w.heap.size W0.heap.size .ready));rwa [World.size_alloc] at this,
   by rw [←hW1];exact (Below.heap_alloc _ _ _ (by simp)).trans (World.alloc_heap_new W0 _),hb1⟩
 refine ⟨W0.heap.size+1,[{target:=.collected W0.heap.size,args:=#[]}],W1,{target:=.fn (.func 96) #[.pointer (some ⟨Bm,0,none⟩)],args:=#[.func (.yield (W0.heap.size+1)) #[] #[]]},W1,96,
  #[.func (.yield (W0.heap.size+1)) #[] #[]] ++ #[.pointer (some ⟨Bm,0,none⟩)],W1,?_,?_,fun _ _=>trivial,?_,fun e=>(by cases e),?_⟩
 ·rw [←hW1];exact run_enterLoop_outer _ _ _ _ _
 ·simp [resolve,go_sem]
 ·simp [invoke,go_sem,eg]
 ·refine callsIn_wide.2 ((zsx (W0.heap.size+1) Bm b es (ApAtS w fn (.func (.func 96) #[] #[.pointer (some ⟨Bm,0,none⟩)]) w.heap.size (W0.heap.size+1) W0.heap.size) W1
   (fun pre x W hJ hl=>zqp w fn _ w.heap.size (W0.heap.size+1) W0.heap.size (by omega) (by omega) (by omega) (Nat.le_refl _) (by omega) es.length hN pre x W hJ hl) (zms _ _ _ _ _ _ _ hb1.size) (hb1.cellOf hm) (hown.keep hb1) hM).mono ?_)
  rintro e W2 ⟨⟨v0,rfl⟩,ss,hS,h2⟩;obtain ⟨v,hv,hrow⟩:=h2.box;have hend:=run_endLoop (P:=Tryz.prog) h2.L (by simp [apRS]);obtain ⟨W3,hW3⟩:∃ W3,W2.putObj (W0.heap.size+1) (.loop {apRS fn (.func (.func 96) #[] #[.pointer (some ⟨Bm,0,none⟩)]) w.heap.size W0.heap.size .ready with state:=.exhausted})=W3:=⟨_,rfl⟩
  rw [hW3] at hend;have hg3:W2.grownBy W3 (some (W0.heap.size+1)):=by rw [←hW3];exact zaK _ _ _
  have hv3:W3.heap[w.heap.size]? = some (.cells #[v] 74 (0,0)):=by rw [←hW3];exact (World.putObj_heap_other (by omega)).trans hv
  have hK3:W3.heap[W0.heap.size]? = some (.deferred (some [])):=by rw [←hW3];exact (World.putObj_heap_other (by omega)).trans h2.K
  have hrow3:=hrow.kept hg3 (zaD hrow h2.L (fun cur e=>by cases e));have hb3:Keeps w W3:=h2.below.grown hg3 h2.below.size (fun k e=>by cases e;omega);obtain ⟨hc3,hf3⟩:=zcD hv3;clear hW3;refine ⟨none,W3,hend,?_⟩
  gi_wp2
  rw [←hs0];refine ⟨by simp, .inl ⟨_,_,rfl,run_takeDeferred hK3,?_⟩⟩;exact ⟨_,results_tmp rfl _ _ _,v,ss,rfl,hS,hrow3.kept (zaK _ _ _) (zaD hrow3 hK3 (fun cur e=>by cases e)),hb3.grown (zaK _ _ _) hb3.size (fun k e=>by cases e;omega)⟩
theorem zqq (Bm b:Nat) (es:List ((List UInt8)×Nat)) (w:World) (hm:w.cell? ⟨Bm,0,none⟩=some (.map (some b))) (hown:MapW strW dpt w b es) (hN:es.length≤1000000000) :
 Calls Tryz.prog 94 #[.func (.func 96) #[] #[.pointer (some ⟨Bm,0,none⟩)]] w fun e w'=>∃ (v:Value) (ss:List (List UInt8)),e = .returned v∧ss.Perm (es.map Prod.fst)∧w'.ownsRow w.heap.size 9 1 v ss.length (ss.flatMap celS)∧Keeps w w':=by
 have AP:=zH (zmt Bm b es w hm hown hN);clear hm hown;go_enter Tryz.func94,Tryz.ntmps94;go_wp2_with (go_at_call 125;refine AP.out.mono ?_;rintro e w' ⟨v,ss,rfl,hS,hrow,hb⟩)
 go_ret;exact ⟨v,ss,rfl,hS,hrow,hb⟩
end Go.Proofs.YtjpldnjldindkaaGreatDoor
namespace Go.Proofs.YtjpldnjldindkaaGreatDoor
open Go.RowKit Go.Sort
theorem zqr (ss:List (List UInt8)):ss.flatMap celS=ss.map encStr:=by
 induction ss with
 | nil=>rfl
 | cons a ss ih=>
  rw [List.flatMap_cons,ih];rfl
theorem zhA (Bm b:Nat) (es:List ((List UInt8)×Nat)) (w:World) (hm:w.cell? ⟨Bm,0,none⟩=some (.map (some b))) (hown:MapW strW dpt w b es) (hN:es.length≤1000000000) :
 Calls Tryz.prog 58 #[.func (.func 96) #[] #[.pointer (some ⟨Bm,0,none⟩)]] w fun e w'=>∃ (v:Value) (ss:List (List UInt8)),e = .returned v∧ss.Perm (es.map Prod.fst)∧Own w' w.heap.size 9 1 v ss.length ((ss.mergeSort leB).map encStr)∧Keeps w w':=by
 have CO:=zH (zqq Bm b es w hm hown hN);have S0:=zH (fun (p:Option Addr) (cap:Nat) (W:World)=>AnyG.slices_Sort_string_none zkY p cap W);have S1:=zH (fun (blk off cap:Nat) (zs:List (List UInt8)) (W:World) (h1:Holds encStr W blk off zs.toArray) (h2:blk<W.heap.size) (h3:zs.length<4611686018427387904)=>AnyG.slices_Sort_string zkY blk off cap zs W h1 h2 h3);have HN:=zH hN;clear hm hown hN;go_enter Tryz.func58,Tryz.ntmps58;go_wp2_with (go_at_call 94;refine CO.out.mono ?_;rintro e W ⟨v,ss,rfl,hS,hrow,hb⟩)
 rw [zqr] at hrow;have HS:=zH hS;have HB:=zH hb;have HR:=zH hrow;have hlen:ss.length≤1000000000:=by have h1:=hS.length_eq;rw [List.length_map] at h1;have:=HN.out;omega
 have HL:=zH hlen;clear hS hb hlen;rcases hrow.2 with ⟨rfl,hz⟩|⟨gb,cap,cur,rfl,hbase,hgb,r1,r2,r3,r4⟩
 ·obtain rfl:ss=[]:=List.eq_nil_of_length_eq_zero hz;clear hrow hz;go_wp2_with (go_at_call 95;refine (S0.out none 0 W).mono ?_;rintro e w' ⟨rfl,rfl⟩)
  go_ret;exact ⟨_,[],rfl,HS.out,Own.of_row (by simpa using HR.out),HB.out⟩
 ·have hH:Holds encStr W gb 0 ss.toArray:=holds_of_block hgb (by simpa using r4);have hgl:gb<W.heap.size:=(zJ9.1 hgb).1;have C1:=zH (S1.out gb 0 cap ss W hH hgl (by have:=HL.out;omega));have OWN:=zH (fun (n:Nat) (os:Array Obj)=>ownsRow_sorted (n:=n) (os:=os) (ts:=ss.mergeSort leB) (by simp) hbase hgb r1 r2 r3);have HBB:=zH (fun (n:Nat) (os:Array Obj)=>HB.out.grown (grownBy_sorted (g:=gb) (n:=n) (os:=os) ((ss.mergeSort leB).toArray)) HB.out.size (fun j hj=>by cases hj;exact hbase));clear hrow hH hgl hgb r1 r2 r3 r4 hbase;go_wp2_with (go_at_call 95;refine C1.out.mono ?_;rintro e w' ⟨rfl,nn,os,rfl⟩)
  go_ret;exact ⟨_,ss,rfl,HS.out,Own.of_row (OWN.out nn os),HBB.out nn os⟩
theorem zmu {ss:List (List UInt8)} {l:List Fl} (hp:ss.Perm (l.map (·.name))) (hl:l.Pairwise fun f g=>f.name<g.name):ss.mergeSort leB=l.map (·.name):=by
 rw [mergeSort_of_perm hp];apply List.mergeSort_of_pairwise;rw [List.pairwise_map];exact hl.imp fun {a b} hab=>by
  unfold leB;exact decide_eq_true (List.le_of_lt hab)
theorem zix {w:World} {b:Nat} {F:Nat→Prop} {s:Ds} (h:Dk w b F s) (hl:s.l.length≤70000):Calls Tryz.prog 26 #[dpt b] w fun e w'=>∃ v,e = .returned v∧Own w' w.heap.size 9 1 v s.l.length (s.l.map fun f=>strV f.name)∧Keeps w w':=by
 obtain ⟨mf,ml,fb,col,hb,hx⟩:=h.at_;have c0:w.cell? ⟨b,0,none⟩=some (.map (some mf)):=hb.cell 0 rfl;have hk0:=zA w (.cells #[.map (some mf)] 85);have hbx:=Box.new w 85 #[.map (some mf)];have hlen:(s.l.map fun f=>(f.name,fb f.name)).length≤1000000000:=by
  rw [List.length_map];omega
 have SK:=zH (zhA w.heap.size mf _ _ (hbx.cell 0 rfl) (hx.files.keep hk0) hlen);have SN:=zH (fun (ss:List (List UInt8)) (hp:ss.Perm ((s.l.map fun f=>(f.name,fb f.name)).map Prod.fst))=>zmu (l:=s.l) (by simpa [List.map_map,Function.comp_def] using hp) h.ok.rise);have KS:=zH (keysS (some mf) w);have HK:=zH hk0;clear h hb hx hbx hlen hk0 hl;show Calls _ _ #[.pointer (some ⟨b,0,none⟩)] w _;go_enter Tryz.func26,Tryz.ntmps26;go_wp2_with (first
  | (go_at_call 59;refine KS.out.mono ?_;rintro e w' ⟨rfl,rfl⟩)
  | (go_at_call 58;refine SK.out.mono ?_;rintro e w' ⟨v,ss,rfl,hp,hown,hkp⟩))
 have hs:=SN.out ss hp;rw [hs] at hown;have hlen:ss.length=s.l.length:=by have:=hp.length_eq;simpa using this
 rw [hlen] at hown;go_ret;refine ⟨_,rfl,?_,zK HK.out hkp⟩;have e1:(s.l.map (·.name)).map encStr=s.l.map fun f=>strV f.name:=by
  rw [List.map_map];rfl
 rw [e1] at hown;exact hown.base_le (by simp)
end Go.Proofs.YtjpldnjldindkaaGreatDoor
namespace Go.Proofs.YtjpldnjldindkaaGreatDoor
open Go.RowKit Go.Shelf
theorem zon:(Tryz.prog.info? 43).map (fun i=>(i.zero,i.size,i.bytes))=some (some (.agg #[.string ⟨#[]⟩, .slice none 0 0]),2,40):=by kernel_rfl
theorem zoo:5≠43:=by decide
theorem zsy (w:World) (t:TypeId) (cs:Array Value):At (w.alloc (.cells cs t)) (w.alloc (.cells cs t)).heap.size (some ⟨w.heap.size,0,none⟩) cs.toList:=by
 refine .inr ⟨_,rfl,by simp,fun j u hu=>?_⟩;rw [Addr.add_lit];have:=(Box.new w t cs).cell j (v:=u) (by simpa using hu);simpa using this
def filC (L:List (List UInt8×List UInt8)) (vs:List Value):List Value:=(L.zip vs).flatMap fun p=>[strV p.1.1,p.2]
theorem zop (L:List (List UInt8×List UInt8)) (vs:List Value) (x:Value) {j:Nat} (hv:vs.length=j) {p:List UInt8×List UInt8} (hp:L[j]? = some p):filC (L.take (j+1)) (vs++[x])=filC (L.take j) vs++[strV p.1,x]:=by
 unfold filC;rw [List.take_add_one,hp,Option.toList_some,List.zip_append (by rw [List.length_take,hv];have:=(zI9.1 hp).1;omega),List.flatMap_append];rfl
section
variable {w w':World} {b:Nat} {F:Nat→Prop} {s:Ds}
theorem zoq (h:Dk w b F s) (hl:s.l.length≤70000):Calls Tryz.prog 9 #[dpt b] w fun e w'=>∃ v,e = .returned v∧FilesAt w' w.heap.size v (s.l.map fun f=>(f.name,f.now))∧Keeps w w':=by
 show Calls _ _ #[.pointer (some ⟨b,0,none⟩)] w _;obtain ⟨i0,hi,hz0,hz1,hz2⟩:=info_parts zon;have NA:=zH (show Calls Tryz.prog 26 #[.pointer (some ⟨b,0,none⟩)] w _ from zix h hl);obtain ⟨N,hN⟩:∃ N,N=s.l.length:=⟨_,rfl⟩
 rw [←hN] at NA hl;have hN2:(N:Int)≤70000:=by omega
 have HN:=zH hN;have HL:=zH hl;have H:=zH h;clear h hN hl;go_enter Tryz.func9,Tryz.ntmps9;go_wp2_with (go_at_call 26;refine NA.out.mono ?_;rintro e w1 ⟨nv,rfl,hnv,k1⟩;obtain ⟨An,cn,rfl,hcn,hcnm,-⟩:=hnv.form)
 have NV:=zH hnv;have K1:=zH k1;have D1:=zH (H.out.keep k1);clear hnv k1 hcnm;obtain ⟨mf,ml,fb,col,hb,hx⟩:=D1.out.at_;have HB:=zH hb;have HX:=zH hx;clear hb hx;go_loopw [3,5,9] (fun v _ i wr=>∃ (j:Nat) (vs:List Value),j≤N∧i = .int .i64 (j:Int)∧vs.length=j∧Own wr w1.heap.size 43 2 v j (filC ((s.l.map fun f=>(f.name,f.now)).take j) vs)∧(∀ (t:Nat) (l:List UInt8) (x:Value),((s.l.map fun f=>(f.name,f.now))[t]?).map Prod.snd=some l→vs[t]? = some x→Own wr w1.heap.size 5 1 x l.length (cel l))∧Keeps w1 wr) (fun _ _ i _=>N-(intOf i).toNat)
 case atStart=>exact ⟨0,[],Nat.zero_le _,rfl,rfl,by simpa [filC] using Own.nil w1 w1.heap.size 43 2,fun t l x _ hx=>by simp at hx,zab _⟩
 case round=>
  obtain ⟨j,vs,hj,rfl,hvl,hrow,hby,hk⟩:=hrel;have HV:=zH hvl;have HR:=zH hrow;have HY:=zH hby
  have HK:=zH hk;have HJ:=zH hj;by_cases hlt:j<N
  ·have hjl:j<s.l.length:=by rw [←HN.out];exact hlt
   obtain ⟨f,hf⟩:∃ f,s.l[j]? = some f:=(⟨_,zG9 hjl⟩);have hfm:=List.mem_of_getElem? hf;have hjn:(j:Int)<(N:Int):=by omega
   have Bq:Box wr b 88 (dkC mf ml s.q s.armed s.off):=HB.out.keep hk;have c0:wr.cell? ⟨b,0,none⟩=some (.map (some mf)):=Bq.cell 0 rfl;have hbl:=Bq.lt;have FM:=zH (HX.out.files.keep hk);have LK:=zH (show lookM (s.l.map fun f=>(f.name,fb f.name)) f.name=some (fb f.name) by rw [HX.out.find,zb0 HX.out.nodup hfm];rfl);obtain ⟨v1,v2,hA⟩:=HX.out.each f hfm;have hA':=hA.keep hk;obtain ⟨A,cap,rfl,hcap,hcm,-⟩:=hA'.own1.form;have f0:wr.cell? ⟨fb f.name,0,none⟩=some (.slice A f.now.length cap):=hA'.box.cell 0 rfl;have hkl:=hA'.lt;have CL:=zH (zbN A f.now.length cap f.now wr hA'.own1.at_ rfl (fun ea=>by
    have:=hA'.own1;rw [ea] at this;exact this.nil_len.2) (by have:=(D1.out.ok.files f hfm).size;omega))
   obtain ⟨ad,rfl,hadc⟩:∃ ad,An=some ad∧wr.cell? (ad.add j)=some (.string (str f.name)):=by
    have h1:=(NV.out.keep hk).at_;obtain ⟨ad,e,_,hc⟩:=At.get h1 (k:=j) (by rw [List.length_map];exact hjl);exact ⟨ad,e,by rw [hc,List.getElem?_map,hf];rfl⟩
   have HF:=zH hf;have hjb:(j:Int)≤70000:=(by omega);clear hvl hrow hby hk hj hfm Bq hA hA' hcm hcap hjl hf;go_wp2_with (first
    | (at_lookup;refine zc6 _ rfl _ _ rfl zco zeroF mf _ rfl FM.out f.name rfl (fb f.name) LK.out (.pointer (some ⟨fb f.name,0,none⟩)) rfl ?_)
    | (go_at_call 32;refine CL.out.mono ?_;rintro e w3 ⟨x,rfl,hxo,kx⟩;obtain ⟨Ax,cx,rfl,-⟩:=hxo.form)
    | (at_builtin; refine zaj _ rfl _ _ 36 rfl w1.heap.size 43 i0 (.agg #[.string ⟨#[]⟩, .slice none 0 0]) 2 40 Tryz.underlying36 hi hz0 hz1 hz2 rfl (by decide) _ j _ rfl ((HR.out.keep kx).keep (zA w3 _)) _ (some ⟨w3.heap.size,0,none⟩) 1 1 [.string (str f.name), .slice Ax f.now.length cx] rfl rfl (zsy w3 43 #[.string (str f.name), .slice Ax f.now.length cx]) (by intro u hu; simp only [List.mem_cons,List.not_mem_nil,or_false] at hu; rcases hu with rfl|rfl<;>rfl) (by have:=HJ.out; have:=HL.out; unfold maxLen; omega) (by have:=HJ.out; have:=HL.out; omega) (by have:=HK.out.size; have:=kx.size; simp; omega) ?_; intro v4 w4 hown4 hgrow4 hblk4))
   have ka:=zA w3 (.cells #[.string (str f.name), .slice Ax f.now.length cx] 43);have HR3:=(HR.out.keep kx).keep ka;have hp:(s.l.map fun f=>(f.name,f.now))[j]? = some (f.name,f.now):=by rw [List.getElem?_map,HF.out];rfl
   have kw:Keeps w1 w4:=Below.grown (zK (zK HK.out kx) ka) hgrow4 (zK (zK HK.out kx) ka).size (fun g hg=>(HR3.lt g hg).1);have byt:∀ {l:List UInt8} {x:Value},Own w3 w1.heap.size 5 1 x l.length (cel l)→Own w4 w1.heap.size 5 1 x l.length (cel l):=(fun o=>(o.keep ka).grown hgrow4 ((o.keep ka).apart HR3 zoo));refine ⟨⟨j+1,vs++[.slice Ax f.now.length cx],by omega,by go_num,by rw [List.length_append,HV.out];rfl,?_,fun t l x h1 h2=>?_,kw⟩,by simp [intOf];omega⟩
   ·rw [zop _ _ _ HV.out hp];exact hown4
   ·have htl:t<(vs++[Value.slice Ax f.now.length cx]).length:=(zI9.1 h2).1;rw [List.length_append,HV.out] at htl;simp only [List.length_cons,List.length_nil] at htl;by_cases e:t<j
    ·rw [List.getElem?_append_left (by rw [HV.out];exact e)] at h2;exact byt ((HY.out t l x h1 h2).keep kx)
    ·obtain rfl:t=j:=(by omega);rw [List.getElem?_append_right (by rw [HV.out];exact Nat.le_refl _),HV.out,Nat.sub_self] at h2;obtain rfl:=Option.some.inj h2;rw [hp] at h1;obtain rfl:=Option.some.inj h1;exact byt (hxo.base_le HK.out.size)
  ·obtain rfl:j=N:=(by omega);clear hvl hrow hby hk hj hlt;go_wp2;go_ret;refine ⟨_,rfl,⟨vs,by rw [HV.out,List.length_map,HN.out],?_,fun t l x h1 h2=>?_⟩,zK K1.out HK.out⟩
   ·have h1:=HR.out;rw [List.take_of_length_le (by rw [List.length_map,HN.out];exact Nat.le_refl _)] at h1;rw [List.length_map,←HN.out];exact h1.base_le K1.out.size
   ·exact (HY.out t l x h1 h2).base_le K1.out.size
end
end Go.Proofs.YtjpldnjldindkaaGreatDoor
