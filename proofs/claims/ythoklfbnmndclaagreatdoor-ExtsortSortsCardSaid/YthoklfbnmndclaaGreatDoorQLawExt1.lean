/- ExtsortSorts. -/
import Derived.Test.YthoklfbnmndclaaGreatDoorQExtBegun
import Derived.Test.YthoklfbnmndclaaGreatDoorQRefExt
set_option linter.unusedVariables false
set_option linter.unusedSimpArgs false
set_option maxRecDepth 100000
namespace Go.Proofs.YthoklfbnmndclaaGreatDoor
open Go.RowKit
theorem look_get (l:List Fl) (nm:List UInt8):lookF (l.map fun f=>(f.name,f.now)) nm=(getF l nm).map (·.now):=by
 unfold lookF getF
 induction l with
 | nil=>rfl
 | cons f l ih=>
  rw [List.map_cons,List.find?_cons,List.find?_cons]
  by_cases h:f.name=nm
  ·simp [h]
  ·simp only [h,decide_false]
   exact ih
theorem eqBytes12_yes (A:Option Addr) (n c:Nat) (b:List UInt8) (B:Option Addr) (d:Nat) (w:World) (hA:Bs w A b) (hn:n=b.length) (hB:Bs w B b) :
 Calls Tryz.prog 20 #[.slice A n c, .slice B n d] w fun e w'=>e = .returned (.bool true)∧w=w':=
 (eqBytes_any A n c b B n d b w hA hn hB hn).mono fun e w' h=>⟨by rw [h.1,decide_eq_true rfl],h.2⟩
section
variable {K:DiskOk} {w0 w:World} {B:PB} {S:Nat→Prop} {p:Pst} {N Q A C:Nat} {V:Vw} {ns:List (List UInt8)} {nm:List UInt8} {rs:List (List UInt8)}
theorem x_num (h:ExS K w0 B N Q A C p V ns S w):p.d.l.length=ns.length:=by simpa using h.tid.names.length_eq
theorem x_files (h:ExS K w0 B N Q A C p V ns S w) (hZ:K.Z w0) (hl:ns.length≤70000) :
 Calls Tryz.prog 14 #[.pointer (some ⟨B.db,0,none⟩)] w fun e w'=>∃ v,e = .returned v∧FilesAt w' w.heap.size v (p.d.l.map fun f=>(f.name,f.now))∧Keeps w w':=files_pj h.pj hZ (by rw [x_num h];exact hl)
theorem x_look (h:ExS K w0 B N Q A C p V ns S w) (s:IsS V nm 20 rs) (t:Tidy p nm):lookF (p.d.l.map fun f=>(f.name,f.now)) nm=some (fileB nm 0 (pagesS 12 rs)):=by
 obtain ⟨f,h1,h2⟩:=h.tid.bytes s t
 rw [look_get,h1,←h2]
 rfl
theorem x_frames (h:ExS K w0 B N Q A C p V ns S w):Calls Tryz.prog 23 #[.pointer (some ⟨B.pb,0,none⟩)] w fun e w'=>e = .returned (.int .i64 (N:Int))∧Keeps w w':=by
 have hl:=h.runs.len
 obtain ⟨Fd,Fp,X,sl,rfl,hp⟩:=h.pj
 have:=frames_any hp
 rwa [hl] at this
end
set_option maxHeartbeats 16000000 in
theorem sorts12_walk (K:DiskOk) (PK:PageOk) (SK:SortOk K) (w:World) (hZ:K.Z w) (hS:Sizes w) (n:Nat) (hn:n<256) {Al:Option Addr} {m c:Nat} {l:List Ed} (hB:At w w.heap.size Al (edsC l)) (hok:∀ e∈l,EdOk e) (hm:m=l.length) (hd:Bool) :
 Calls Tryz.prog 3 #[.int .u8 (n:Int), .slice Al m c, .bool hd] w (Yes12 w):=by
 have WK:=hD (fun (W:World) (k:Keeps w W)=>works12 K PK SK W (K.keep hZ k) (hS.keep k))
 have HZ:=hD hZ
 have HS:=hD hS
 by_cases h6:600<m
 ·have h6':(600:Int)<(m:Int):=by omega
  clear hB hok hm h6
  go_enter Tryz.func3,Tryz.ntmps3
  go_wp2_with fail
  refine (WK.out w (keeps_refl w)).mono ?_
  rintro e w1 ⟨rfl,k1⟩
  have K1:=hD k1
  clear k1
  go_wp2_with fail
  go_ret
  exact ⟨rfl,K1.out⟩
 ·have h6':decide ((600:Int)<(m:Int))=false:=decide_eq_false (by omega)
  have h6'':decide (600<m)=false:=decide_eq_false (by omega)
  have FR:=hD (frames8_any n hn w)
  obtain ⟨N,hN⟩:∃ N,N=8+n%56:=⟨_,rfl⟩
  have N8:=hD (show 8≤N∧N≤4096 by omega)
  rw [←hN] at FR
  have BG:=hD (begun12_any K PK w hZ hS (n:=N) (Q:=65536) ⟨by omega,by omega⟩ (by decide) (c:=c) hB hok hm (by omega))
  have HB:=hD hB
  have HOK:=hD hok
  have HM:=hD (show m=l.length∧m≤600 from ⟨hm,by omega⟩)
  clear hB hok hm h6 hN
  cases hd
  all_goals
   go_enter Tryz.func3,Tryz.ntmps3
   go_wp2_with fail
   refine FR.out.mono ?_
   rintro e w' ⟨rfl,rfl⟩
   go_wp2_with fail
   refine BG.out.mono ?_
   rintro e w1 ⟨B,S,p,V,rfl,x1,s1,d1⟩
   have X1:=hD x1
   have S1:=hD s1
   have D1:=hD d1
   have FI:=hD (x_files x1 HZ.out (by simp))
   clear x1 s1 d1
   go_wp2_with fail
   refine FI.out.mono ?_
   rintro e w2 ⟨v2,rfl,f2,k2⟩
   have LK:=hD (fileOf12_any w1.heap.size v2 _ inN ⟨#[105,110]⟩ rfl w2 f2 (by rw [List.length_map,x_num X1.out];decide))
   rw [x_look X1.out S1.out D1.out] at LK
   have K2:=hD k2
   clear f2 k2 FI
   go_wp2_with fail
   refine LK.out.mono ?_
   rintro e w3 ⟨k3,A3,c3,rfl,o3⟩
   have K3:=hD (kT K2.out k3)
   have O3:=hD o3
   have X3:=hD (X1.out.keep K3.out)
   have F3:=hD (show ∀ g,(Value.slice A3 (fileB inN 0 (pagesS 12 (l.map edB))).length c3).ownBlock=some g→¬ S g from fun g hg hs=>by have h1:=(O3.out.lt g hg).1;have h2:=X1.out.pj.lt _ hs;omega)
   clear k3 o3 LK
   have SO:=hD (fun (bi:Int) (hb:bi=0∨bi=1)=>SK.sort (nmO:=outN) (bi:=bi) (X3.out.more (A':=61) (C':=50) (by decide) (Nat.le_refl _) (by decide)) HZ.out HS.out N8.out.1 N8.out.2 S1.out HOK.out D1.out (by decide) (by decide) (by decide) (by decide) hb (by decide) (by have:=HM.out;omega) (by have:=HM.out;omega))
   rw [strIn12,strOut12] at SO
   go_wp2_with fail
   refine (SO.out _ (by decide)).mono ?_
   rintro e w4 ⟨E,q,V',ns',S',rfl,x4,t4,⟨rfl,⟨a,ha,hV⟩,rfl,d4,keep4⟩|⟨-,hbad,-⟩⟩
   rotate_left
   ·exact absurd hbad (by decide)
   obtain ⟨di4,-⟩:=keep4 inN (by simp) D1.out
   obtain ⟨o4,f4⟩:=own_far O3.out F3.out t4
   have O4:=hD o4
   have S4:=hD (show IsS V' inN 20 (l.map edB) by rw [hV];exact S1.out.other (by decide) _)
   have T4:=hD (show IsS V' outN 20 (a.map edB) from ⟨⟨by decide,by decide⟩,fun r hr=>by
    obtain ⟨y,-,rfl⟩:=List.mem_map.1 hr
    exact edB_len y,by rw [hV,upV_self]⟩)
   have X4:=hD x4
   have D4:=hD d4
   have DI4:=hD di4
   have RA:=hD ha
   have FI:=hD (x_files x4 HZ.out (by simp))
   clear x4 d4 di4 o4 f4 t4 hV keep4 ha SO
   go_wp2_with fail
   refine FI.out.mono ?_
   rintro e w5 ⟨v5,rfl,g5,k5⟩
   have LK:=hD (fileOf12_any w4.heap.size v5 _ inN ⟨#[105,110]⟩ rfl w5 g5 (by rw [List.length_map,x_num X4.out];decide))
   rw [x_look X4.out S4.out DI4.out] at LK
   have K5:=hD k5
   clear g5 k5 FI
   go_wp2_with fail
   refine LK.out.mono ?_
   rintro e w6 ⟨k6,A6,c6,rfl,o6⟩
   have K6:=hD (kT K5.out k6)
   have O6:=hD o6
   have FI:=hD (x_files (X4.out.keep K6.out) HZ.out (by simp))
   clear k6 o6 LK
   go_wp2_with fail
   refine FI.out.mono ?_
   rintro e w7 ⟨v7,rfl,g7,k7⟩
   have LK:=hD (fileOf12_any w6.heap.size v7 _ outN ⟨#[111,117,116]⟩ rfl w7 g7 (by rw [List.length_map,x_num X4.out];decide))
   rw [x_look X4.out T4.out D4.out] at LK
   have K7:=hD k7
   clear g7 k7 FI
   go_wp2_with fail
   refine LK.out.mono ?_
   rintro e w8 ⟨k8,A8,c8,rfl,o8⟩
   have K8:=hD (kT K7.out k8)
   have K48:=hD (kT K6.out K8.out)
   have O8:=hD o8
   have X8:=hD (X4.out.keep K48.out)
   have SR:=hD (fun bi=>refSorted_any Al m c l bi w8 ((HB.out.keep X8.out.pj.kp).more X8.out.pj.kp.size) HOK.out HM.out.1 (by have:=HM.out;omega))
   clear k8 o8 LK
   go_wp2_with fail
   refine (SR.out _).mono ?_
   rintro e w9 ⟨a',ha',v9,rfl,o9,k9⟩
   obtain rfl:=RedB.eq HOK.out ha' RA.out
   obtain ⟨A9,c9,rfl,hc9,-,-,-⟩:=o9.form
   have AL:=hD (show a'.length≤600 by have:=ha'.len_le;have:=HM.out;omega)
   have RC:=hD (refRecords_any A9 a'.length c9 a' w9 (Own.at_ o9) (fun e he=>HOK.out e (ha'.mem e he)) rfl (by have:=AL.out;omega))
   have K9:=hD k9
   clear o9 k9 hc9 SR
   go_wp2_with fail
   refine RC.out.mono ?_
   rintro e w10 ⟨v10,lz,rfl,r10,e10,k10⟩
   obtain ⟨A10,c10,rfl,-,-,-,-⟩:=r10.row.form
   have LZ:=hD (show lz.length=a'.length by have:=congrArg List.length e10;simpa using this)
   have BY:=hD (refBytes_any outN (by decide) A10 c10 w9.heap.size lz w10 r10 (by have:=LZ.out;have:=AL.out;omega) (fun x hx=>by
    have:x.b∈lz.map (·.b):=List.mem_map_of_mem hx
    rw [e10] at this
    obtain ⟨y,-,hy⟩:=List.mem_map.1 this
    rw [←hy]
    exact edB_len y))
   rw [e10,strOut12] at BY
   have K10:=hD k10
   clear r10 k10 e10 RC
   go_wp2_with fail
   refine BY.out.mono ?_
   rintro e w11 ⟨v11,rfl,o11,k11⟩
   obtain ⟨A11,c11,rfl,-,-,-,-⟩:=o11.form
   have K11:=hD (kT K9.out (kT K10.out k11))
   have X11:=hD (X8.out.keep K11.out)
   have E1:=hD (fun (W:World) (k:Keeps w11 W)=>eqBytes12_yes A8 _ c8 (fileB outN 0 (pagesS 12 (a'.map edB))) A11 c11 W (Bs.keep (Own.at_ (O8.out.keep K11.out)) k) rfl (Bs.keep (Own.at_ o11) k))
   have E2:=hD (fun (W:World) (k:Keeps w11 W)=>eqBytes12_yes A3 _ c3 (fileB inN 0 (pagesS 12 (l.map edB))) A6 c6 W (Bs.keep (Own.at_ (O4.out.keep (kT K48.out K11.out))) k) rfl (Bs.keep (Own.at_ (O6.out.keep (kT K8.out K11.out))) k))
   have PK':=hD (peak_pj X11.out.pj)
   clear o11 k11 BY
   rw [X11.out.pk] at PK'
   go_wp2_with fail
   refine PK'.out.mono ?_
   rintro e w12 ⟨rfl,k12⟩
   have K12:=hD k12
   clear k12
   have X12:=hD (X11.out.keep K12.out)
   have hl:q.d.l.length=2:=x_num X12.out
   have NM:=hD (names_pj X12.out.pj HZ.out (by omega))
   rw [hl] at NM
   have hL:placesL q.d.l=[]:=X12.out.tid.loose (fun nm hnm=>by
    simp only [List.mem_cons,List.not_mem_nil,or_false] at hnm
    rcases hnm with rfl|rfl
    ·exact D4.out
    ·exact DI4.out)
   have LS:=hD (fun (W:World) (k:Keeps w12 W)=>loose_pj (X12.out.pj.keep k) HZ.out)
   rw [hL] at LS
   have FM:=hD (fun (W:World) (k:Keeps w12 W)=>x_frames (X12.out.keep k))
   have KE:=hD X12.out.pj.kp
   have hR:(q.mostR:Int)≤(N:Int):=by have:=X12.out.runs.R;omega
   clear hl hL
   go_wp2_with fail
   refine (E1.out _ K12.out).mono ?_
   rintro e w13 ⟨rfl,rfl⟩
   go_wp2_with fail
   refine (E2.out _ K12.out).mono ?_
   rintro e w13 ⟨rfl,rfl⟩
   go_wp2_with fail
   refine NM.out.mono ?_
   rintro e w13 ⟨v13,rfl,o13,k13⟩
   obtain ⟨A13,c13,rfl,-⟩:=o13.form
   have K13:=hD k13
   clear o13 k13 NM
   go_wp2_with fail
   refine (LS.out _ K13.out).mono ?_
   rintro e w14 ⟨v14,rfl,o14,k14⟩
   obtain ⟨A14,c14,rfl,-⟩:=o14.form
   have K14:=hD (kT K13.out k14)
   clear o14 k14 LS
   go_wp2_with fail
   refine (FM.out _ K14.out).mono ?_
   rintro e w15 ⟨rfl,k15⟩
   have K15:=hD (kT K14.out k15)
   clear k15 FM
   go_wp2_with fail
   refine (WK.out _ (kT KE.out K15.out)).mono ?_
   rintro e w16 ⟨rfl,k16⟩
   have K16:=hD (kT KE.out (kT K15.out k16))
   clear k16
   go_wp2_with fail
   go_ret
   exact ⟨rfl,K16.out⟩
end Go.Proofs.YthoklfbnmndclaaGreatDoor
