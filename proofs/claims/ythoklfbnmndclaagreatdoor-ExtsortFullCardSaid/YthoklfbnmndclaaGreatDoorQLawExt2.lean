/- ExtsortFull. -/
import Derived.Test.YthoklfbnmndclaaGreatDoorQLawExt1
set_option linter.unusedVariables false
set_option linter.unusedSimpArgs false
set_option maxRecDepth 100000
namespace Go.Proofs.YthoklfbnmndclaaGreatDoor
open Go.RowKit
section
variable {K:DiskOk} {w0 w:World} {B:PB} {S:Nat→Prop} {p:Pst} {N Q A C:Nat} {V:Vw} {ns:List (List UInt8)} {nm:List UInt8} {rs:List (List UInt8)}
theorem x_used (h:ExS K w0 B N Q A C p V ns S w) (hZ:K.Z w0):Calls Tryz.prog 29 #[.pointer (some ⟨B.db,0,none⟩)] w fun e w'=>e = .returned (.int .i64 (usedL p.d.l:Int))∧Keeps w w':=by
 obtain ⟨Fd,Fp,X,sl,rfl,hp⟩:=h.pj
 exact K.used (hp.D.z hZ) hp.D.D
theorem x_usedL (h:ExS K w0 B N Q A C p V ns S w):usedL p.d.l≤ns.length*(4*C):=by
 have:=hl_used h.tid.heal.big
 rwa [x_num h] at this
end
set_option maxHeartbeats 16000000 in
theorem full12_walk (K:DiskOk) (PK:PageOk) (SK:SortOk K) (w:World) (hZ:K.Z w) (hS:Sizes w) (n:Nat) (hn:n<256) {Al:Option Addr} {m c:Nat} {l:List Ed} (hB:At w w.heap.size Al (edsC l)) (hok:∀ e∈l,EdOk e) (hm:m=l.length) (r:Nat) (hr:r<65536) :
 Calls Tryz.prog 6 #[.int .u8 (n:Int), .slice Al m c, .int .u16 (r:Int)] w (Yes12 w):=by
 have WK:=hD (fun (W:World) (k:Keeps w W)=>works12 K PK SK W (K.keep hZ k) (hS.keep k))
 have HZ:=hD hZ
 have HS:=hD hS
 by_cases h6:600<m
 ·have h6':(600:Int)<(m:Int):=by omega
  clear hB hok hm h6
  go_enter Tryz.func6,Tryz.ntmps6
  go_wp2_with fail
  refine (WK.out w (keeps_refl w)).mono ?_
  rintro e w1 ⟨rfl,k1⟩
  have K1:=hD k1
  clear k1
  go_wp2_with fail
  go_ret
  exact ⟨rfl,K1.out⟩
 ·have h6':decide ((600:Int)<(m:Int))=false:=decide_eq_false (by omega)
  have h6'':decide (600<m)=false:=decide_eq_false (by omega)
  have FR:=hD (frames8_any n hn w)
  obtain ⟨N,hN⟩:∃ N,N=8+n%56:=⟨_,rfl⟩
  have N8:=hD (show 8≤N∧N≤4096 by omega)
  rw [←hN] at FR
  have BG:=hD (begun12_any K PK w hZ hS (n:=N) (Q:=65536) ⟨by omega,by omega⟩ (by decide) (c:=c) hB hok hm (by omega))
  have HB:=hD hB
  have HOK:=hD hok
  have HM:=hD (show m=l.length∧m≤600 from ⟨hm,by omega⟩)
  have hrm:((r:Int)).tmod 400=((r%400:Nat):Int):=by rw [Int.tmod_eq_emod_of_nonneg (by omega)];omega
  have hr4:r%400<400:=Nat.mod_lt _ (by decide)
  clear hB hok hm h6 hN
  generalize r%400=rm at *
  go_enter Tryz.func6,Tryz.ntmps6
  go_wp2_with fail
  refine FR.out.mono ?_
  rintro e w' ⟨rfl,rfl⟩
  go_wp2_with fail
  refine BG.out.mono ?_
  rintro e w1 ⟨B,S,p0,V,rfl,x1,s1,d1⟩
  have X0:=hD x1
  have hU:usedL p0.d.l≤200:=x_usedL x1
  have US:=hD (x_used x1 HZ.out)
  have S1:=hD s1
  have D0:=hD d1
  clear x1 s1 d1
  obtain ⟨U,hUU⟩:∃ U,U=usedL p0.d.l:=⟨_,rfl⟩
  rw [←hUU] at hU US
  clear hUU
  go_wp2_with fail
  refine US.out.mono ?_
  rintro e w1b ⟨rfl,k1b⟩
  have QT:=hD (x_quota (X0.out.keep k1b) HZ.out (U+rm) (by omega))
  have hcast:((U+rm:Nat):Int)=(U:Int)+(rm:Int):=by omega
  rw [hcast] at QT
  have hUi:(U:Int)≤200:=by omega
  have hri:(rm:Int)<400:=by omega
  clear k1b hcast
  go_wp2_with fail
  refine QT.out.mono ?_
  rintro e w1c ⟨p,S,rfl,x1,-,hl1,hd1⟩
  have X1:=hD x1
  have D1:=hD (show Tidy p inN from ⟨by rw [hd1];exact D0.out.dl,fun f hf=>D0.out.file f (hl1▸hf)⟩)
  have FI:=hD (x_files x1 HZ.out (by simp))
  clear x1 hl1 hd1 X0 D0 QT US
  go_wp2_with fail
  refine FI.out.mono ?_
  rintro e w2 ⟨v2,rfl,f2,k2⟩
  have LK:=hD (fileOf12_any w1c.heap.size v2 _ inN ⟨#[105,110]⟩ rfl w2 f2 (by rw [List.length_map,x_num X1.out];decide))
  rw [x_look X1.out S1.out D1.out] at LK
  have K2:=hD k2
  clear f2 k2 FI
  go_wp2_with fail
  refine LK.out.mono ?_
  rintro e w3 ⟨k3,A3,c3,rfl,o3⟩
  have K3:=hD (kT K2.out k3)
  have O3:=hD o3
  have X3:=hD (X1.out.keep K3.out)
  have F3:=hD (show ∀ g,(Value.slice A3 (fileB inN 0 (pagesS 12 (l.map edB))).length c3).ownBlock=some g→¬ S g from fun g hg hs=>by have h1:=(O3.out.lt g hg).1;have h2:=X1.out.pj.lt _ hs;omega)
  clear k3 o3 LK
  have SO:=hD (fun (bi:Int) (hb:bi=0∨bi=1)=>SK.sort (nmO:=outN) (bi:=bi) (X3.out.more (A':=61) (C':=50) (by decide) (Nat.le_refl _) (by decide)) HZ.out HS.out N8.out.1 N8.out.2 S1.out HOK.out D1.out (by decide) (by decide) (by decide) (by decide) hb (by decide) (by have:=HM.out;omega) (by have:=HM.out;omega))
  rw [strIn12,strOut12] at SO
  go_wp2_with fail
  refine (SO.out _ (by decide)).mono ?_
  rintro e w4 ⟨E,q,V',ns',S',rfl,x4,t4,hcase⟩
  have HC:=hD hcase
  have G4:=hD (show getF q.d.l inN=getF p.d.l inN by
   rcases hcase with ⟨-,-,-,-,keep4⟩|⟨-,-,-,h⟩
   ·exact (keep4 inN (by simp) D1.out).2
   ·exact h)
  have L4:=hD (show lookF (q.d.l.map fun f=>(f.name,f.now)) inN=some (fileB inN 0 (pagesS 12 (l.map edB))) by
   rw [look_get,G4.out,←look_get]
   exact x_look X1.out S1.out D1.out)
  have EE:=hD (show E=0∨E=5 by rcases hcase with ⟨h,-⟩|⟨h,-⟩<;>omega)
  obtain ⟨o4,f4⟩:=own_far O3.out F3.out t4
  have O4:=hD o4
  have X4:=hD x4
  have N4:=hD (show ns'.length≤61 from x4.tid.most)
  have FI:=hD (x_files x4 HZ.out (by have:=N4.out;omega))
  clear x4 o4 f4 t4 hcase SO
  go_wp2_with fail
  refine FI.out.mono ?_
  rintro e w5 ⟨v5,rfl,g5,k5⟩
  have LK:=hD (fileOf12_any w4.heap.size v5 _ inN ⟨#[105,110]⟩ rfl w5 g5 (by rw [List.length_map,x_num X4.out];have:=N4.out;omega))
  rw [L4.out] at LK
  have K5:=hD k5
  clear g5 k5 FI
  go_wp2_with fail
  refine LK.out.mono ?_
  rintro e w6 ⟨k6,A6,c6,rfl,o6⟩
  have K6:=hD (kT K5.out k6)
  have X6:=hD (X4.out.keep K6.out)
  have E2:=hD (eqBytes12_yes A3 _ c3 (fileB inN 0 (pagesS 12 (l.map edB))) A6 c6 w6 (Own.at_ (O4.out.keep K6.out)) rfl (Own.at_ o6))
  clear k6 o6 LK
  go_wp2_with fail
  refine E2.out.mono ?_
  rintro e w7 ⟨rfl,rfl⟩
  rcases EE.out with rfl|rfl
  rotate_left
  ·go_wp2_with fail
   refine (WK.out _ X6.out.pj.kp).mono ?_
   rintro e w16 ⟨rfl,k16⟩
   have K16:=hD (kT X6.out.pj.kp k16)
   clear k16
   go_wp2_with fail
   go_ret
   exact ⟨rfl,K16.out⟩
  obtain ⟨-,⟨a,ha,hV⟩,rfl,d4,keep4⟩|⟨hbad,-⟩:=HC.out
  rotate_left
  ·exact absurd hbad (by decide)
  have T4:=hD (show IsS V' outN 20 (a.map edB) from ⟨⟨by decide,by decide⟩,fun r hr=>by
   obtain ⟨y,-,rfl⟩:=List.mem_map.1 hr
   exact edB_len y,by rw [hV,upV_self]⟩)
  have D4:=hD d4
  have RA:=hD ha
  have FI:=hD (x_files X6.out HZ.out (by simp))
  clear d4 keep4 ha hV HC EE
  go_wp2_with fail
  refine FI.out.mono ?_
  rintro e w7 ⟨v7,rfl,g7,k7⟩
  have LK:=hD (fileOf12_any w6.heap.size v7 _ outN ⟨#[111,117,116]⟩ rfl w7 g7 (by rw [List.length_map,x_num X6.out];decide))
  rw [x_look X6.out T4.out D4.out] at LK
  have K7:=hD k7
  clear g7 k7 FI
  go_wp2_with fail
  refine LK.out.mono ?_
  rintro e w8 ⟨k8,A8,c8,rfl,o8⟩
  have K8:=hD (kT K7.out k8)
  have O8:=hD o8
  have X8:=hD (X6.out.keep K8.out)
  have SR:=hD (fun bi=>refSorted_any Al m c l bi w8 ((HB.out.keep X8.out.pj.kp).more X8.out.pj.kp.size) HOK.out HM.out.1 (by have:=HM.out;omega))
  clear k8 o8 LK
  go_wp2_with fail
  refine (SR.out _).mono ?_
  rintro e w9 ⟨a',ha',v9,rfl,o9,k9⟩
  obtain rfl:=RedB.eq HOK.out ha' RA.out
  obtain ⟨A9,c9,rfl,hc9,-,-,-⟩:=o9.form
  have AL:=hD (show a'.length≤600 by have:=ha'.len_le;have:=HM.out;omega)
  have RC:=hD (refRecords_any A9 a'.length c9 a' w9 (Own.at_ o9) (fun e he=>HOK.out e (ha'.mem e he)) rfl (by have:=AL.out;omega))
  have K9:=hD k9
  clear o9 k9 hc9 SR
  go_wp2_with fail
  refine RC.out.mono ?_
  rintro e w10 ⟨v10,lz,rfl,r10,e10,k10⟩
  obtain ⟨A10,c10,rfl,-,-,-,-⟩:=r10.row.form
  have LZ:=hD (show lz.length=a'.length by have:=congrArg List.length e10;simpa using this)
  have BY:=hD (refBytes_any outN (by decide) A10 c10 w9.heap.size lz w10 r10 (by have:=LZ.out;have:=AL.out;omega) (fun x hx=>by
   have:x.b∈lz.map (·.b):=List.mem_map_of_mem hx
   rw [e10] at this
   obtain ⟨y,-,hy⟩:=List.mem_map.1 this
   rw [←hy]
   exact edB_len y))
  rw [e10,strOut12] at BY
  have K10:=hD k10
  clear r10 k10 e10 RC
  go_wp2_with fail
  refine BY.out.mono ?_
  rintro e w11 ⟨v11,rfl,o11,k11⟩
  obtain ⟨A11,c11,rfl,-,-,-,-⟩:=o11.form
  have K11:=hD (kT K9.out (kT K10.out k11))
  have E1:=hD (eqBytes12_yes A8 _ c8 (fileB outN 0 (pagesS 12 (a'.map edB))) A11 c11 w11 (Own.at_ (O8.out.keep K11.out)) rfl (Own.at_ o11))
  have KE:=hD (kT X8.out.pj.kp K11.out)
  clear o11 k11 BY
  go_wp2_with fail
  refine E1.out.mono ?_
  rintro e w13 ⟨rfl,rfl⟩
  go_wp2_with fail
  refine (WK.out _ KE.out).mono ?_
  rintro e w16 ⟨rfl,k16⟩
  have K16:=hD (kT KE.out k16)
  clear k16
  go_wp2_with fail
  go_ret
  exact ⟨rfl,K16.out⟩
end Go.Proofs.YthoklfbnmndclaaGreatDoor
