/- ExtsortTwice. (Written by mktwice12.py.) -/
import Derived.Test.YthoklfbnmndclaaGreatDoorQLawExt0
set_option linter.unusedVariables false
set_option linter.unusedSimpArgs false
set_option maxRecDepth 100000
namespace Go.Proofs.YthoklfbnmndclaaGreatDoor
open Go.RowKit
def aN:List UInt8:=[97]
def bN:List UInt8:=[98]
def cN:List UInt8:=[99]
def dN:List UInt8:=[100]
theorem strA12:str aN=⟨#[97]⟩:=rfl
theorem strB12:str bN=⟨#[98]⟩:=rfl
theorem strC12:str cN=⟨#[99]⟩:=rfl
theorem strD12:str dN=⟨#[100]⟩:=rfl
theorem out_isS {V V':Vw} {nm:List UInt8} {a:List Ed} (h:V'=upV V nm (some (pagesS 12 (a.map edB)))):IsS V' nm 20 (a.map edB):=⟨⟨by decide,by decide⟩,fun r hr=>by
 obtain ⟨y,-,rfl⟩:=List.mem_map.1 hr
 exact edB_len y,by rw [h,upV_self]⟩
set_option maxHeartbeats 16000000 in
theorem twice12_walk (K:DiskOk) (PK:PageOk) (SK:SortOk K) (w:World) (hZ:K.Z w) (hS:Sizes w) (n:Nat) (hn:n<256) {Al:Option Addr} {m c:Nat} {l:List Ed} (hB:At w w.heap.size Al (edsC l)) (hok:∀ e∈l,EdOk e) (hm:m=l.length) :
 Calls Tryz.prog 8 #[.int .u8 (n:Int), .slice Al m c] w (Yes12 w):=by
 have WK:=Lib.hid (fun (W:World) (k:Keeps w W)=>works12 K PK SK W (K.keep hZ k) (hS.keep k))
 have HZ:=Lib.hid hZ
 have HS:=Lib.hid hS
 by_cases h6:600<m
 · have h6':(600:Int)<(m:Int):=by omega
   clear hB hok hm h6
   go_enter Tryz.func8,Tryz.ntmps8
   go_wp2_with fail
   refine (WK.out w (keeps_refl w)).mono ?_
   rintro e w1 ⟨rfl,k1⟩
   have K1:=Lib.hid k1
   clear k1
   go_wp2_with fail
   go_ret
   exact ⟨rfl,K1.out⟩
 · have h6':decide ((600:Int)<(m:Int))=false:=decide_eq_false (by omega)
   have h6'':decide (600<m)=false:=decide_eq_false (by omega)
   have FR:=Lib.hid (frames8_any n hn w)
   obtain ⟨N,hN⟩:∃ N,N=8+n%56:=⟨_,rfl⟩
   have N8:=Lib.hid (show 8≤N∧N≤4096 by omega)
   rw [←hN] at FR
   have BG:=Lib.hid (begun12_any K PK w hZ hS (n:=N) (Q:=65536) ⟨by omega,by omega⟩ (by decide) (c:=c) hB hok hm (by omega))
   have OK0:=Lib.hid hok
   have LE0:=Lib.hid (show l.length≤600 by omega)
   clear hB hok hm h6 hN
   go_enter Tryz.func8,Tryz.ntmps8
   go_wp2_with fail
   refine FR.out.mono ?_
   rintro e w' ⟨rfl,rfl⟩
   go_wp2_with fail
   refine BG.out.mono ?_
   rintro e w0' ⟨B,S0,p0,V0,rfl,x1,s1,d1⟩
   have X0:=Lib.hid (x1.more (A':=64) (C':=50) (by decide) (Nat.le_refl _) (by decide))
   have Sin0:=Lib.hid s1
   have Din0:=Lib.hid d1
   clear x1 s1 d1
   have SO:=Lib.hid (fun (bi:Int) (hb:bi=0∨bi=1)=>SK.sort (nmO:=aN) (bi:=bi) X0.out HZ.out HS.out N8.out.1 N8.out.2 Sin0.out OK0.out Din0.out (by decide) (by decide) (by decide) (by decide) hb (by decide) (by have:=LE0.out;omega) (by have:=LE0.out;omega))
   rw [strIn12,strA12] at SO
   go_wp2_with fail
   refine (SO.out _ (by decide)).mono ?_
   rintro e wz1 ⟨E,p1,V1,ns',S1,rfl,x1,-,⟨rfl,⟨la,ha,hV⟩,rfl,dd,keep⟩|⟨-,hbad,-⟩⟩
   rotate_left
   · exact absurd hbad (by decide)
   have X1:=Lib.hid x1
   have Ra:=Lib.hid ha
   have OKa:=Lib.hid (show ∀ e∈la,EdOk e from fun e he=>OK0.out e (ha.mem e he))
   have LEa:=Lib.hid (show la.length≤600 from Nat.le_trans ha.len_le LE0.out)
   have Sa1:=Lib.hid (out_isS hV)
   have Da1:=Lib.hid dd
   have Sin1:=Lib.hid (show IsS V1 inN 20 _ by rw [hV];exact Sin0.out.other (by decide) _)
   have Din1:=Lib.hid ((keep inN (by simp) Din0.out).1)
   clear x1 ha dd keep hV SO
   have SO:=Lib.hid (fun (bi:Int) (hb:bi=0∨bi=1)=>SK.sort (nmO:=bN) (bi:=bi) X1.out HZ.out HS.out N8.out.1 N8.out.2 Sa1.out OKa.out Da1.out (by decide) (by decide) (by decide) (by decide) hb (by decide) (by have:=LEa.out;omega) (by have:=LEa.out;omega))
   rw [strA12,strB12] at SO
   go_wp2_with fail
   refine (SO.out _ (by decide)).mono ?_
   rintro e wz2 ⟨E,p2,V2,ns',S2,rfl,x2,-,⟨rfl,⟨lb,hb,hV⟩,rfl,dd,keep⟩|⟨-,hbad,-⟩⟩
   rotate_left
   · exact absurd hbad (by decide)
   have X2:=Lib.hid x2
   have Rb:=Lib.hid hb
   have OKb:=Lib.hid (show ∀ e∈lb,EdOk e from fun e he=>OKa.out e (hb.mem e he))
   have LEb:=Lib.hid (show lb.length≤600 from Nat.le_trans hb.len_le LEa.out)
   have Sb2:=Lib.hid (out_isS hV)
   have Db2:=Lib.hid dd
   have Sin2:=Lib.hid (show IsS V2 inN 20 _ by rw [hV];exact Sin1.out.other (by decide) _)
   have Din2:=Lib.hid ((keep inN (by simp) Din1.out).1)
   have Sa2:=Lib.hid (show IsS V2 aN 20 _ by rw [hV];exact Sa1.out.other (by decide) _)
   have Da2:=Lib.hid ((keep aN (by simp) Da1.out).1)
   clear x2 hb dd keep hV SO
   have SO:=Lib.hid (fun (bi:Int) (hb:bi=0∨bi=1)=>SK.sort (nmO:=cN) (bi:=bi) X2.out HZ.out HS.out N8.out.1 N8.out.2 Sb2.out OKb.out Db2.out (by decide) (by decide) (by decide) (by decide) hb (by decide) (by have:=LEb.out;omega) (by have:=LEb.out;omega))
   rw [strB12,strC12] at SO
   go_wp2_with fail
   refine (SO.out _ (by decide)).mono ?_
   rintro e wz3 ⟨E,p3,V3,ns',S3,rfl,x3,-,⟨rfl,⟨lc,hc,hV⟩,rfl,dd,keep⟩|⟨-,hbad,-⟩⟩
   rotate_left
   · exact absurd hbad (by decide)
   have X3:=Lib.hid x3
   have Rc:=Lib.hid hc
   have OKc:=Lib.hid (show ∀ e∈lc,EdOk e from fun e he=>OKb.out e (hc.mem e he))
   have LEc:=Lib.hid (show lc.length≤600 from Nat.le_trans hc.len_le LEb.out)
   have Sc3:=Lib.hid (out_isS hV)
   have Dc3:=Lib.hid dd
   have Sin3:=Lib.hid (show IsS V3 inN 20 _ by rw [hV];exact Sin2.out.other (by decide) _)
   have Din3:=Lib.hid ((keep inN (by simp) Din2.out).1)
   have Sa3:=Lib.hid (show IsS V3 aN 20 _ by rw [hV];exact Sa2.out.other (by decide) _)
   have Da3:=Lib.hid ((keep aN (by simp) Da2.out).1)
   have Sb3:=Lib.hid (show IsS V3 bN 20 _ by rw [hV];exact Sb2.out.other (by decide) _)
   have Db3:=Lib.hid ((keep bN (by simp) Db2.out).1)
   clear x3 hc dd keep hV SO
   have SO:=Lib.hid (fun (bi:Int) (hb:bi=0∨bi=1)=>SK.sort (nmO:=dN) (bi:=bi) X3.out HZ.out HS.out N8.out.1 N8.out.2 Sa3.out OKa.out Da3.out (by decide) (by decide) (by decide) (by decide) hb (by decide) (by have:=LEa.out;omega) (by have:=LEa.out;omega))
   rw [strA12,strD12] at SO
   go_wp2_with fail
   refine (SO.out _ (by decide)).mono ?_
   rintro e wz4 ⟨E,p4,V4,ns',S4,rfl,x4,-,⟨rfl,⟨ld,hd,hV⟩,rfl,dd,keep⟩|⟨-,hbad,-⟩⟩
   rotate_left
   · exact absurd hbad (by decide)
   have X4:=Lib.hid x4
   have Rd:=Lib.hid hd
   have OKd:=Lib.hid (show ∀ e∈ld,EdOk e from fun e he=>OKa.out e (hd.mem e he))
   have LEd:=Lib.hid (show ld.length≤600 from Nat.le_trans hd.len_le LEa.out)
   have Sd4:=Lib.hid (out_isS hV)
   have Dd4:=Lib.hid dd
   have Sin4:=Lib.hid (show IsS V4 inN 20 _ by rw [hV];exact Sin3.out.other (by decide) _)
   have Din4:=Lib.hid ((keep inN (by simp) Din3.out).1)
   have Sa4:=Lib.hid (show IsS V4 aN 20 _ by rw [hV];exact Sa3.out.other (by decide) _)
   have Da4:=Lib.hid ((keep aN (by simp) Da3.out).1)
   have Sb4:=Lib.hid (show IsS V4 bN 20 _ by rw [hV];exact Sb3.out.other (by decide) _)
   have Db4:=Lib.hid ((keep bN (by simp) Db3.out).1)
   have Sc4:=Lib.hid (show IsS V4 cN 20 _ by rw [hV];exact Sc3.out.other (by decide) _)
   have Dc4:=Lib.hid ((keep cN (by simp) Dc3.out).1)
   clear x4 hd dd keep hV SO
   have ec:lc=la:=RedB.eq OK0.out ((Ra.out.trans Rb.out).trans Rc.out) Ra.out
   have ed:ld=la:=RedB.eq OK0.out (Ra.out.trans Rd.out) Ra.out
   subst ec
   subst ed
   have hl:p4.d.l.length=5:=x_num X4.out
   have NM:=Lib.hid (names_pj X4.out.pj HZ.out (by omega))
   rw [hl] at NM
   clear hl
   go_wp2_with fail
   refine NM.out.mono ?_
   rintro e w5 ⟨v5,rfl,o5,k5⟩
   obtain ⟨A5,c5,rfl,-⟩:=o5.form
   have X5:=Lib.hid (X4.out.keep k5)
   obtain ⟨ps,hps⟩:∃ ps,ps=pagesS (240/20) (ld.map edB):=⟨_,rfl⟩
   have Va:=Lib.hid (show V4 aN=some ps by rw [hps];exact Sa4.out.file)
   have Vc:=Lib.hid (show V4 cN=some ps by rw [hps];exact Sc4.out.file)
   have Vd:=Lib.hid (show V4 dN=some ps by rw [hps];exact Sd4.out.file)
   have hpl:ps.length≤50:=X4.out.tid.len Va.out
   have hpi:(ps.length:Int)≤50:=by omega
   have PG1:=Lib.hid (x_pages X5.out HZ.out Va.out)
   rw [strA12] at PG1
   clear o5 k5 NM hps
   go_wp2_with fail
   refine PG1.out.mono ?_
   rintro e w6 ⟨rfl,k6⟩
   have X6:=Lib.hid (X5.out.keep k6)
   have PG2:=Lib.hid (x_pages X6.out HZ.out Vc.out)
   rw [strC12] at PG2
   clear k6 PG1
   go_wp2_with fail
   refine PG2.out.mono ?_
   rintro e w7 ⟨rfl,k7⟩
   have X7:=Lib.hid (X6.out.keep k7)
   have PG3:=Lib.hid (x_pages X7.out HZ.out Vd.out)
   rw [strD12] at PG3
   clear k7 PG2
   go_wp2_with fail
   refine PG3.out.mono ?_
   rintro e w8 ⟨rfl,k8⟩
   have X8:=Lib.hid (X7.out.keep k8)
   clear k8 PG3
   go_wp2_with fail
   go_loopw [14] (fun i wr=>∃ (k:Nat) (q:Pst) (S:Nat→Prop),k≤ps.length∧i = .int .i64 k∧ExS K w B N 65536 64 50 q V4 [dN,cN,bN,aN,inN] S wr) (fun i _=>ps.length-(intOf i).toNat)
   case atStart=>exact ⟨0,p4,S4,Nat.zero_le _,rfl,X8.out⟩
   case round=>
    obtain ⟨k,q,S,hk,rfl,hx⟩:=hrel
    have XQ:=Lib.hid hx
    clear hx
    by_cases hlt:k<ps.length
    · obtain ⟨t,ht⟩:∃ t,ps[k]? = some t:=⟨_,List.getElem?_eq_getElem hlt⟩
      have HT:=Lib.hid ht
      have hki:(k:Int)<(ps.length:Int):=by omega
      have RD1:=Lib.hid (x_read PK XQ.out HZ.out HS.out N8.out.2 Va.out k ⟨by omega,by omega⟩ ht)
      rw [strA12] at RD1
      clear ht
      go_wp2_with fail
      refine RD1.out.mono ?_
      rintro e u1 ⟨E,t1,q1,v1,T1,rfl,o1,f1,x1,-,-,⟨rfl,rfl⟩|⟨-,-,hbad⟩⟩
      rotate_left
      · exact absurd hbad (by decide)
      obtain ⟨A1,c1,rfl,-,-,-,-⟩:=o1.form
      have Y1:=Lib.hid x1
      have O1:=Lib.hid o1
      have F1:=Lib.hid f1
      have RD2:=Lib.hid (x_read PK x1 HZ.out HS.out N8.out.2 Vc.out k ⟨by omega,by omega⟩ HT.out)
      rw [strC12] at RD2
      clear x1 o1 f1 RD1
      go_wp2_with fail
      refine RD2.out.mono ?_
      rintro e u2 ⟨E,t2,q2,v2,T2,rfl,o2,f2,x2,tt2,-,⟨rfl,rfl⟩|⟨-,-,hbad⟩⟩
      rotate_left
      · exact absurd hbad (by decide)
      obtain ⟨A2,c2,rfl,-,-,-,-⟩:=o2.form
      obtain ⟨o12,f12⟩:=own_far O1.out F1.out tt2
      have O12:=Lib.hid o12
      have F12:=Lib.hid f12
      have O2:=Lib.hid o2
      have F2:=Lib.hid f2
      have RD3:=Lib.hid (x_read PK x2 HZ.out HS.out N8.out.2 Vd.out k ⟨by omega,by omega⟩ HT.out)
      rw [strD12] at RD3
      clear x2 o2 f2 o12 f12 tt2 RD2
      go_wp2_with fail
      refine RD3.out.mono ?_
      rintro e u3 ⟨E,t3,q3,v3,T3,rfl,o3,f3,x3,tt3,-,⟨rfl,rfl⟩|⟨-,-,hbad⟩⟩
      rotate_left
      · exact absurd hbad (by decide)
      obtain ⟨A3,c3,rfl,-,-,-,-⟩:=o3.form
      obtain ⟨o13,-⟩:=own_far O12.out F12.out tt3
      obtain ⟨o23,-⟩:=own_far O2.out F2.out tt3
      have E1:=Lib.hid (eqBytes12_yes A1 _ c1 t3 A2 c2 u3 (Own.at_ o13) rfl (Own.at_ o23))
      have E2:=Lib.hid (eqBytes12_yes A1 _ c1 t3 A3 c3 u3 (Own.at_ o13) rfl (Own.at_ o3))
      have Y3:=Lib.hid x3
      clear x3 o3 f3 o13 o23 tt3 RD3
      go_wp2_with fail
      refine E1.out.mono ?_
      rintro e w13 ⟨rfl,rfl⟩
      go_wp2_with fail
      refine E2.out.mono ?_
      rintro e w13 ⟨rfl,rfl⟩
      go_wp2_with fail
      refine ⟨⟨k+1,q3,T3,by omega,by go_num,Y3.out⟩,?_⟩
      (simp [intOf];try omega)
    · have hke:k=ps.length:=by omega
      have hki:decide ((k:Int)<(ps.length:Int))=false:=decide_eq_false (by omega)
      have hki2:decide (k<ps.length)=false:=decide_eq_false (by omega)
      clear hlt hke
      go_wp2_with fail
      refine (WK.out _ XQ.out.pj.kp).mono ?_
      rintro e w16 ⟨rfl,k16⟩
      have K16:=Lib.hid (keeps_trans XQ.out.pj.kp k16)
      clear k16
      go_wp2_with fail
      go_ret
      exact ⟨rfl,K16.out⟩
end Go.Proofs.YthoklfbnmndclaaGreatDoor
