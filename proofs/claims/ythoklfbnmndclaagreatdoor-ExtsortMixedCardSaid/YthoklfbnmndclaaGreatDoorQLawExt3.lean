/- ExtsortBudget. -/
import Derived.Test.YthoklfbnmndclaaGreatDoorQLawExt0
set_option linter.unusedVariables false
set_option linter.unusedSimpArgs false
set_option maxRecDepth 100000
namespace Go.Proofs.YthoklfbnmndclaaGreatDoor
open Go.RowKit
section
variable {K:DiskOk} {w0 w1 w:World} {B:PB} {S:Nat→Prop} {p:Pst} {N Q A C:Nat} {V:Vw} {ns:List (List UInt8)} {nm:List UInt8} {rs:List (List UInt8)}
theorem PJ.rebase (h:PJ K w1 B p S w) (k:Keeps w0 w1):PJ K w0 B p S w:=by
 obtain ⟨Fd,Fp,X,sl,rfl,h⟩:=h
 exact ⟨Fd,Fp,X,sl,rfl,⟨h.D.D,fun i hi=>Nat.le_trans k.size (h.D.low i hi),keeps_trans k h.D.kp⟩,h.I,h.fr,h.ok,fun i hi=>Nat.le_trans k.size (h.low i hi),h.ap⟩
theorem ExS.rebase (h:ExS K w1 B N Q A C p V ns S w) (k:Keeps w0 w1):ExS K w0 B N Q A C p V ns S w:=⟨h.pj.rebase k,h.runs,h.tid,h.pk⟩
end
set_option maxHeartbeats 16000000 in
theorem budget12_walk (K:DiskOk) (PK:PageOk) (SK:SortOk K) (w:World) (hZ:K.Z w) (hS:Sizes w) (n1 n2:Nat) (hn1:n1<256) (hn2:n2<256) {Al:Option Addr} {m c:Nat} {l:List Ed} (hB:At w w.heap.size Al (edsC l)) (hok:∀ e∈l,EdOk e) (hm:m=l.length) (hd:Bool) :
 Calls Tryz.prog 4 #[.int .u8 (n1:Int), .int .u8 (n2:Int), .slice Al m c, .bool hd] w (Yes12 w):=by
 have WK:=Lib.hid (fun (W:World) (k:Keeps w W)=>works12 K PK SK W (K.keep hZ k) (hS.keep k))
 have HZ:=Lib.hid hZ
 have HS:=Lib.hid hS
 by_cases h6:600<m
 · have h6':(600:Int)<(m:Int):=by omega
   clear hB hok hm h6
   go_enter Tryz.func4,Tryz.ntmps4
   go_wp2_with fail
   refine (WK.out w (keeps_refl w)).mono ?_
   rintro e w1 ⟨rfl,k1⟩
   have K1:=Lib.hid k1
   clear k1
   go_wp2_with fail
   go_ret
   exact ⟨rfl,K1.out⟩
 · have h6':decide ((600:Int)<(m:Int))=false:=decide_eq_false (by omega)
   have h6'':decide (600<m)=false:=decide_eq_false (by omega)
   have FR:=Lib.hid (frames8_any n1 hn1 w)
   have FR2:=Lib.hid (fun W=>frames8_any n2 hn2 W)
   obtain ⟨N,hN⟩:∃ N,N=8+n1%56:=⟨_,rfl⟩
   obtain ⟨M,hM⟩:∃ M,M=8+n2%56:=⟨_,rfl⟩
   have N8:=Lib.hid (show 8≤N∧N≤4096 by omega)
   have M8:=Lib.hid (show 8≤M∧M≤4096 by omega)
   rw [←hN] at FR
   rw [←hM] at FR2
   have BG:=Lib.hid (begun12_any K PK w hZ hS (n:=N) (Q:=65536) ⟨by omega,by omega⟩ (by decide) (c:=c) hB hok hm (by omega))
   have HB:=Lib.hid hB
   have HOK:=Lib.hid hok
   have HM:=Lib.hid (show m=l.length∧m≤600 from ⟨hm,by omega⟩)
   clear hB hok hm h6 hN hM
   cases hd
   all_goals
    go_enter Tryz.func4,Tryz.ntmps4
    go_wp2_with fail
    refine FR.out.mono ?_
    rintro e w' ⟨rfl,rfl⟩
    go_wp2_with fail
    refine BG.out.mono ?_
    rintro e w1 ⟨B,S,p,V,rfl,x1,s1,d1⟩
    have X1:=Lib.hid x1
    have S1:=Lib.hid s1
    have D1:=Lib.hid d1
    have KP1:=Lib.hid x1.pj.kp
    have BG2:=Lib.hid (begun12_any K PK w1 (K.keep HZ.out x1.pj.kp) (HS.out.keep x1.pj.kp) (n:=M) (Q:=65536) ⟨by have:=M8.out;omega,M8.out.2⟩ (by decide) (c:=c) ((HB.out.keep x1.pj.kp).more x1.pj.kp.size) HOK.out HM.out.1 HM.out.2)
    clear x1 s1 d1
    go_wp2_with fail
    refine (FR2.out w1).mono ?_
    rintro e w' ⟨rfl,rfl⟩
    go_wp2_with fail
    refine BG2.out.mono ?_
    rintro e w2 ⟨B2,S2,p2,V2,rfl,x2,s2,d2⟩
    have X1:=Lib.hid (X1.out.keep x2.pj.kp)
    have X2:=Lib.hid (x2.rebase KP1.out)
    have DJ:=Lib.hid (show ∀ i,S2 i→¬ S i from fun i h2 h1=>by
     have a1:=x2.pj.low i h2
     have a2:=(‹Hid (ExS K w B N 65536 1 50 p V [inN] S w1)›).out.pj.lt i h1
     omega)
    have Z2:=Lib.hid s2
    have D2:=Lib.hid d2
    have SO:=Lib.hid (fun (bi:Int) (hb:bi=0∨bi=1)=>SK.sort (nmO:=outN) (bi:=bi) (X1.out.more (A':=61) (C':=50) (by decide) (Nat.le_refl _) (by decide)) HZ.out HS.out N8.out.1 N8.out.2 S1.out HOK.out D1.out (by decide) (by decide) (by decide) (by decide) hb (by decide) (by have:=HM.out;omega) (by have:=HM.out;omega))
    rw [strIn12,strOut12] at SO
    clear x2 s2 d2 BG2
    go_wp2_with fail
    refine (SO.out _ (by decide)).mono ?_
    rintro e w3 ⟨E,q,V',ns',S',rfl,x3,t3,⟨rfl,⟨a,ha,hV⟩,rfl,d3,-⟩|⟨-,hbad,-⟩⟩
    rotate_left
    · exact absurd hbad (by decide)
    obtain ⟨x23,dj3⟩:=X2.out.far t3 X1.out.pj.low DJ.out
    have T3:=Lib.hid (show IsS V' outN 20 (a.map edB) from ⟨⟨by decide,by decide⟩,fun r hr=>by
     obtain ⟨y,-,rfl⟩:=List.mem_map.1 hr
     exact edB_len y,by rw [hV,upV_self]⟩)
    have X3:=Lib.hid x3
    have X23:=Lib.hid x23
    have DJ3:=Lib.hid dj3
    have D3:=Lib.hid d3
    have RA:=Lib.hid ha
    have SO2:=Lib.hid (fun (bi:Int) (hb:bi=0∨bi=1)=>SK.sort (nmO:=outN) (bi:=bi) (X23.out.more (A':=61) (C':=50) (by decide) (Nat.le_refl _) (by decide)) HZ.out HS.out M8.out.1 M8.out.2 Z2.out HOK.out D2.out (by decide) (by decide) (by decide) (by decide) hb (by decide) (by have:=HM.out;omega) (by have:=HM.out;omega))
    rw [strIn12,strOut12] at SO2
    clear x3 x23 dj3 d3 ha hV t3 SO
    go_wp2_with fail
    refine (SO2.out _ (by decide)).mono ?_
    rintro e w4 ⟨E,q2,V2',ns',S2',rfl,x4,t4,⟨rfl,⟨a2,ha,hV⟩,rfl,d4,-⟩|⟨-,hbad,-⟩⟩
    rotate_left
    · exact absurd hbad (by decide)
    obtain rfl:=RedB.eq HOK.out ha RA.out
    obtain ⟨x34,-⟩:=X3.out.far t4 X23.out.pj.low (fun i h1 h2=>DJ3.out i h2 h1)
    have T4:=Lib.hid (show IsS V2' outN 20 (a2.map edB) from ⟨⟨by decide,by decide⟩,fun r hr=>by
     obtain ⟨y,-,rfl⟩:=List.mem_map.1 hr
     exact edB_len y,by rw [hV,upV_self]⟩)
    have X4:=Lib.hid x4
    have X34:=Lib.hid x34
    have D4:=Lib.hid d4
    have FI:=Lib.hid (x_files x34 HZ.out (by simp))
    clear x4 x34 d4 ha hV t4 SO2
    go_wp2_with fail
    refine FI.out.mono ?_
    rintro e w5 ⟨v5,rfl,g5,k5⟩
    have LK:=Lib.hid (fileOf12_any w4.heap.size v5 _ outN ⟨#[111,117,116]⟩ rfl w5 g5 (by rw [List.length_map,x_num X34.out];decide))
    rw [x_look X34.out T3.out D3.out] at LK
    have K5:=Lib.hid k5
    clear g5 k5 FI
    go_wp2_with fail
    refine LK.out.mono ?_
    rintro e w6 ⟨k6,A6,c6,rfl,o6⟩
    have K6:=Lib.hid (keeps_trans K5.out k6)
    have O6:=Lib.hid o6
    have FI:=Lib.hid (x_files (X4.out.keep K6.out) HZ.out (by simp))
    clear k6 o6 LK
    go_wp2_with fail
    refine FI.out.mono ?_
    rintro e w7 ⟨v7,rfl,g7,k7⟩
    have LK:=Lib.hid (fileOf12_any w6.heap.size v7 _ outN ⟨#[111,117,116]⟩ rfl w7 g7 (by rw [List.length_map,x_num X4.out];decide))
    rw [x_look X4.out T4.out D4.out] at LK
    have K7:=Lib.hid k7
    clear g7 k7 FI
    go_wp2_with fail
    refine LK.out.mono ?_
    rintro e w8 ⟨k8,A8,c8,rfl,o8⟩
    have K8:=Lib.hid (keeps_trans K7.out k8)
    have E1:=Lib.hid (eqBytes12_yes A6 _ c6 (fileB outN 0 (pagesS 12 (a2.map edB))) A8 c8 w8 (Own.at_ (O6.out.keep K8.out)) rfl (Own.at_ o8))
    have KE:=Lib.hid (keeps_trans X4.out.pj.kp (keeps_trans K6.out K8.out))
    clear k8 o8 LK
    go_wp2_with fail
    refine E1.out.mono ?_
    rintro e w13 ⟨rfl,rfl⟩
    go_wp2_with fail
    refine (WK.out _ KE.out).mono ?_
    rintro e w16 ⟨rfl,k16⟩
    have K16:=Lib.hid (keeps_trans KE.out k16)
    clear k16
    go_wp2_with fail
    go_ret
    exact ⟨rfl,K16.out⟩
end Go.Proofs.YthoklfbnmndclaaGreatDoor
