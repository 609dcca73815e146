/- milepostlaw12.begun: a pool over a disk on which a file of edges lies. -/
import Derived.Test.YtjmkagakdhhigaaGreatDoorQPoolFull
import Derived.Test.YtjmkagakdhhigaaGreatDoorQPoolBa
import Derived.Test.YtjmkagakdhhigaaGreatDoorQOctetRows
import Derived.Test.YtjmkagakdhhigaaGreatDoorQEdges
import Derived.Test.YtjmkagakdhhigaaGreatDoorQWeightMath
set_option linter.unusedVariables false
set_option linter.unusedSimpArgs false
set_option maxRecDepth 100000
namespace Go.Proofs.YtjmkagakdhhigaaGreatDoor
open Go.RowKit
def inN:List UInt8:=[105,110]
theorem strIn12:str inN=⟨#[105,110]⟩:=rfl
theorem inN_len:inN.length≤maxLen:=by decide
theorem tid_first {n C:Nat} (hn:1≤n∧n≤4096) (hC:C≤1000) (A:Nat):Tid 65536 A C (newPl ⟨[],65536,0,false⟩ n) (fun _=>none) []:=
 ⟨(heal_first hn (Nat.le_refl _)).more (Nat.zero_le _) (Nat.zero_le _),List.Pairwise.nil,List.nodup_nil,fun nm=>by simp,Nat.zero_le _,hC⟩
section
variable {K:DiskOk} {w0 w w':World} {B:PB} {S S' S2:Nat→Prop} {p q:Pst} {N Q A C:Nat} {V:Vw} {ns:List (List UInt8)} {nm:List UInt8} {size sb:Nat} {rs:List (List UInt8)}
theorem x_quota (h:ExS K w0 B N Q A C p V ns S w) (hZ:K.Z w0) (n:Nat) (hn:n≤1048576) :
 Calls Tryz.prog 47 #[.pointer (some ⟨B.db,0,none⟩), .int .i64 (n:Int)] w fun e w'=>∃ q S',e = .returned (.int .i64 0)∧ExS K w0 B N n A C q V ns S' w'∧Turns w w' S S'∧q.d.l=p.d.l∧q.dl=p.dl:=by
 have e0:quotaS p.d (n:Int)=({p.d with q:=n},0):=by
  unfold quotaS
  rw [if_neg (by omega),Int.toNat_natCast]
 have R:=h.runs
 have T:=h.tid.quota (d:={p.d with q:=n}) rfl h.tid.heal.off h.tid.heal.armed (Nat.le_refl n)
 obtain ⟨Fd,Fp,X,sl,rfl,hp⟩:=h.pj
 have hq:=disk_pj hp (K.quota (n:Int) (hp.D.z hZ) hp.D.D (by omega) (by omega))
 rw [e0] at hq
 refine hq.mono ?_
 rintro e w' ⟨he,S',j,t⟩
 exact ⟨_,S',he,⟨j,⟨j.ok,R.len,R.b,R.t,R.R,R.P,R.s⟩,T,h.pk⟩,t,rfl,rfl⟩
end
def BegunX (K:DiskOk) (w:World) (n Q:Nat) (l:List Ed) (e:Ending) (w':World):Prop:=
 ∃ (B:PB) (S:Nat→Prop) (p:Pst) (V:Vw),e = .returned (.tuple #[.pointer (some ⟨B.db,0,none⟩), .pointer (some ⟨B.pb,0,none⟩)])∧
  ExS K w B n Q 1 50 p V [inN] S w'∧IsS V inN 20 (l.map edB)∧Tidy p inN
set_option maxHeartbeats 16000000 in
theorem begun12_any (K:DiskOk) (PK:PageOk) (w:World) (hZ:K.Z w) (hS:Sizes w) {n Q:Nat} (hn:1≤n∧n≤4096) (hQ:Q≤1048576) {Al:Option Addr} {m c:Nat} {l:List Ed} (hB:At w w.heap.size Al (edsC l)) (hok:∀ e∈l,EdOk e) (hm:m=l.length) (hm6:m≤600) :
 Calls Tryz.prog 10 #[.int .i64 (Q:Int), .int .i64 (n:Int), .slice Al m c] w (BegunX K w n Q l):=by
 have NW:=zH (K.new 65536 w hZ (by decide) (by decide))
 have HZ:=zH hZ
 have HSZ:=zH hS
 have HN:=zH hn
 have HQ:=zH hQ
 have HB:=zH hB
 have HOK:=zH hok
 have HM:=zH hm
 have RN:=zH (runs_new ⟨[],65536,0,false⟩ hn)
 have T0:=zH (tid_first (C:=50) hn (by decide) 1)
 have hmi:(m:Int)≤600:=by omega
 clear hZ hS hn hQ hB hok hm
 go_enter Tryz.func10,Tryz.ntmps10
 go_wp2_with fail
 refine NW.out.mono ?_
 rintro e w1 (⟨-,-,b,F,rfl,hD,hF,k1⟩|⟨hbad,-⟩)
 rotate_left
 · exfalso;omega
 have HV:=zH (show Have K w w1 b F ⟨[],65536,0,false⟩ from ⟨hD,hF,k1⟩)
 clear hD hF k1
 unfold dpt
 have PN:=zH (new10_any HV.out (n:Int) ⟨by omega,by have:=HN.out;omega⟩)
 go_wp2_with fail
 refine PN.out.mono ?_
 rintro e w2 ⟨k2,⟨-,-,B,Fp,X,sl,rfl,rfl,h2,-⟩|⟨hbad,-⟩⟩
 rotate_left
 · exfalso;have:=HN.out;omega
 rw [Int.toNat_natCast] at h2
 have X2:=zH (show ExS K w B n 65536 1 50 (newPl ⟨[],65536,0,false⟩ n) (fun _=>none) [] (Both F Fp) w2 from ⟨⟨F,Fp,X,sl,rfl,h2⟩,RN.out,T0.out,rfl⟩)
 clear h2 k2 PN HV T0 RN NW
 have CR:=zH (x_create (nm:=inN) X2.out HZ.out (by decide) (by simp) (by decide))
 rw [strIn12] at CR
 generalize newPl ⟨[],65536,0,false⟩ n=p0 at *
 go_wp2_with fail
 refine CR.out.mono ?_
 rintro e w3 ⟨p3,S3,rfl,h3,-,-,-⟩
 have s3:IsS (upV (fun _=>none) inN (some [])) inN 20 []:=isS_first ⟨by decide,by decide⟩ (upV_self _ _ _)
 have X3:=zH h3
 have S3':=zH s3
 have OP:=zH (sopen_any h3.pj HZ.out h3.runs (by decide) inN_len 20)
 have e0:openT p3 inN 20=0:=by
  unfold openT
  rw [if_neg (by decide),h3.tid.find s3.file]
 rw [strIn12,e0] at OP
 clear h3 s3 e0 CR X2
 generalize upV (fun _=>none) inN (some [])=V3 at *
 go_wp2_with fail
 refine OP.out.mono ?_
 rintro e w4 ⟨k4,⟨-,-,-,sb,rfl,hs,hlt⟩|⟨hne,-⟩⟩
 rotate_left
 · exact absurd rfl hne
 have hs:StrAt w4 sb B.pb inN 20:=hs
 have X4:=zH (X3.out.keep k4)
 have B4:=zH hs
 have N4:=zH (show ¬ S3 sb from fun e=>by have:=X3.out.pj.lt _ e;omega)
 clear k4 hs hlt OP X3
 go_wp2_with fail
 go_loopw [12] (fun i wr=>∃ (k:Nat) (q:Pst) (V:Vw) (S:Nat→Prop),k≤m∧i = .int .i64 k∧ExS K w B n 65536 1 50 q V [inN] S wr∧StrAt wr sb B.pb inN 20∧¬ S sb∧IsS V inN 20 ((l.take k).map edB)) (fun i _=>m-(intOf i).toNat)
 case atStart=>exact ⟨0,p3,V3,S3,Nat.zero_le _,rfl,X4.out,B4.out,N4.out,S3'.out⟩
 case round=>
  obtain ⟨k,q,V,S,hk,rfl,hx,hb,hns,hs⟩:=hrel
  have XQ:=zH hx
  have BQ:=zH hb
  have NQ:=zH hns
  have SQ:=zH hs
  clear hx hb hns hs
  by_cases hlt:k<m
  · obtain ⟨x,hx⟩:∃ x,l[k]? = some x:=⟨_,List.getElem?_eq_getElem (by have:=HM.out;omega)⟩
    obtain ⟨ad,rfl,_,hE⟩:=eds_at HB.out hx
    obtain ⟨a0,a1,a2,a3⟩:=hE.keep XQ.out.pj.kp
    have okx:=HOK.out _ (List.mem_of_getElem? hx)
    have RE:=zH (refEdge_any x.t x.h x.x x.m okx.t okx.h okx.x okx.m wr)
    have ET:=zH (show (l.take (k+1)).map edB=(l.take k).map edB++[edB x] by
     rw [List.take_succ_eq_append_getElem (by have:=HM.out;omega)]
     rw [List.getElem?_eq_getElem (by have:=HM.out;omega)] at hx
     rw [Option.some.inj hx,List.map_append]
     rfl)
    have LK:=zH (show ((l.take k).map edB).length<50*(240/20) by rw [List.length_map,List.length_take];omega)
    have hkn:(k:Int)<(m:Int):=by omega
    clear hx hE okx
    go_wp2_with fail
    refine RE.out.mono ?_
    rintro e w5 ⟨v5,rfl,o5,k5⟩
    obtain ⟨A5,c5,rfl,hc5,-,-,hbl5⟩:=o5.form
    have el:(edgeB x.t x.h x.x x.m).length=20:=edB_len x
    have AD:=zH (x_add PK (XQ.out.keep k5) HZ.out HSZ.out HN.out.2 (BQ.out.keep k5) NQ.out SQ.out (cr:=c5) (nr:=20) (r:=edB x) (Own.at_ o5) (fun ad h hF=>by have h1:=(hbl5 ad h).2.1;have h2:=XQ.out.pj.lt _ hF;omega) (edB_len x).symm (edB_len x) LK.out)
    have B5:=zH (BQ.out.keep k5)
    rw [el]
    clear o5 hc5 hbl5 a0 a1 a2 a3 el k5
    go_wp2_with fail
    refine AD.out.mono ?_
    rintro e w6 ⟨E,q6,V6,S6,rfl,x6,t6,-,⟨rfl,-,s6⟩|⟨-,hbad,-⟩⟩
    rotate_left
    · exact absurd hbad (by decide)
    have X6:=zH x6
    have SS6:=zH (show IsS V6 inN 20 ((l.take (k+1)).map edB) by rw [ET.out];exact s6)
    have B6:=zH (B5.out.turn t6 NQ.out)
    have N6:=zH (t6.notIn B5.out.lt NQ.out)
    clear x6 t6 s6
    go_wp2_with fail
    refine ⟨⟨k+1,q6,V6,S6,by omega,by go_num,X6.out,B6.out,N6.out,SS6.out⟩,?_⟩
    simp [intOf];omega
  · obtain rfl:k=m:=by omega
    have hall:l.take k=l:=by rw [HM.out,List.take_length]
    have FL:=zH (x_flush PK XQ.out HZ.out HSZ.out (nm:=inN) (by simp))
    have S9:=zH (show IsS V inN 20 (l.map edB) by have:=SQ.out;rwa [hall] at this)
    rw [strIn12] at FL
    clear hall
    go_wp2_with fail
    refine FL.out.mono ?_
    rintro e w7 ⟨E,q7,S7,rfl,x7,-,-,⟨rfl,d7⟩|⟨-,hbad⟩⟩
    rotate_left
    · exact absurd hbad (by decide)
    have QT:=zH (x_quota x7 HZ.out Q HQ.out)
    have D7:=zH d7
    clear x7 d7
    go_wp2_with fail
    refine QT.out.mono ?_
    rintro e w8 ⟨q8,S8,rfl,x8,-,hl8,hd8⟩
    have X8:=zH x8
    have D8:=zH (show Tidy q8 inN from ⟨by rw [hd8];exact D7.out.dl,fun f hf=>D7.out.file f (hl8▸hf)⟩)
    clear x8 hl8 hd8
    go_wp2_with fail
    go_returns
    exact ⟨B,S8,q8,V,rfl,X8.out,S9.out,D8.out⟩
def outN:List UInt8:=[111,117,116]
theorem strOut12:str outN=⟨#[111,117,116]⟩:=rfl
def SortV (K:DiskOk) (w0:World) (B:PB) (N Q A C:Nat) (p:Pst) (V:Vw) (ns:List (List UInt8)) (S:Nat→Prop) (w:World) (nmI nmO:List UInt8) (l:List Ed) (hd:Bool) (e:Ending) (w':World):Prop:=
 ∃ (E:Nat) (q:Pst) (V':Vw) (ns':List (List UInt8)) (S':Nat→Prop),e = .returned (.int .i64 (E:Int))∧ExS K w0 B N Q A C q V' ns' S' w'∧Turns w w' S S'∧
  ((E=0∧(∃ a,RedB hd l a∧V'=upV V nmO (some (pagesS 12 (a.map edB))))∧ns'=nmO::ns∧Tidy q nmO∧(∀ x∈ns,Tidy p x→Tidy q x∧getF q.d.l x=getF p.d.l x))∨
  (E=5∧Q<4*(A*C)+4∧Tidy q nmI∧getF q.d.l nmI=getF p.d.l nmI))
structure SortOk (K:DiskOk):Prop where
 sort:∀ {w0 w:World} {B:PB} {N Q A C:Nat} {p:Pst} {V:Vw} {ns:List (List UInt8)} {S:Nat→Prop} {nmI nmO:List UInt8} {l:List Ed} {bi:Int},ExS K w0 B N Q A C p V ns S w→K.Z w0→Sizes w0→8≤N→N≤4096→
  IsS V nmI 20 (l.map edB)→(∀ e∈l,EdOk e)→Tidy p nmI→nameOk nmO=true→nmO∉ns→(∀ x∈ns,x.take 2≠[116,46])→nmO.take 2≠[116,46]→(bi=0∨bi=1)→ns.length+60≤A→l.length≤12*C→l.length≤1000→
  Calls Tryz.prog 12 #[.pointer (some ⟨B.pb,0,none⟩), .string (str nmI), .string (str nmO), .int .i64 bi] w (SortV K w0 B N Q A C p V ns S w nmI nmO l (decide (bi=1)))
theorem Tid.more {Q A A' C C':Nat} {p:Pst} {V:Vw} {ns:List (List UInt8)} (h:Tid Q A C p V ns) (hA:A≤A') (hC:C≤C') (hC':C'≤1000):Tid Q A' C' p V ns:=
 ⟨h.heal.more hA hC,h.rise,h.nd,h.mem,Nat.le_trans h.most hA,hC'⟩
theorem ExS.more {K:DiskOk} {w0 w:World} {B:PB} {N Q A A' C C':Nat} {p:Pst} {V:Vw} {ns:List (List UInt8)} {S:Nat→Prop} (h:ExS K w0 B N Q A C p V ns S w) (hA:A≤A') (hC:C≤C') (hC':C'≤1000):ExS K w0 B N Q A' C' p V ns S w:=
 ⟨h.pj,h.runs,h.tid.more hA hC hC',h.pk⟩
def two12:List Ed:=[⟨2,1,5,4294967295⟩,⟨1,2,7,4294967295⟩]
theorem two_ok:∀ e∈two12,EdOk e:=by
 intro e he
 simp only [two12,List.mem_cons,List.not_mem_nil,or_false] at he
 rcases he with rfl|rfl<;>exact ⟨by decide,by decide,by decide,by decide⟩
theorem two_red {a:List Ed} (h:RedB false two12 a):a=[⟨1,2,7,4294967295⟩,⟨2,1,5,4294967295⟩]:=by
 refine RedB.eq two_ok h ⟨?_,?_,?_,?_,?_⟩
 · simp [RiseB,ahB,ahd]
 · intro e he
   simp only [List.mem_cons,List.not_mem_nil,or_false] at he
   rcases he with rfl|rfl<;>simp [two12]
 · intro e he
   simp only [List.mem_cons,List.not_mem_nil,or_false] at he
   rcases he with rfl|rfl<;>decide
 · intro e he f hf
   simp only [two12,List.mem_cons,List.not_mem_nil,or_false] at he hf
   rcases he with rfl|rfl<;>rcases hf with rfl|rfl<;>intro hp
   · exact absurd hp.1 (by decide)
   · simp [betE,betB]
   · simp [betE,betB]
   · exact absurd hp.1 (by decide)
 · intro f hf hne
   simp only [two12,List.mem_cons,List.not_mem_nil,or_false] at hf
   rcases hf with rfl|rfl
   · exact ⟨_,List.mem_cons_of_mem _ List.mem_cons_self,rfl,rfl⟩
   · exact ⟨_,List.mem_cons_self,rfl,rfl⟩
def Yes12 (w:World) (e:Ending) (w':World):Prop:=e = .returned (.bool true)∧Keeps w w'
set_option maxHeartbeats 16000000 in
theorem works12 (K:DiskOk) (PK:PageOk) (SK:SortOk K) (w:World) (hZ:K.Z w) (hS:Sizes w):Calls Tryz.prog 9 #[] w (Yes12 w):=by
 have HZ:=zH hZ
 have HS:=zH hS
 have kz:=zA w (.cells #[.int .u32 2, .int .u32 1, .int .u64 5, .int .u32 4294967295, .int .u32 1, .int .u32 2, .int .u64 7, .int .u32 4294967295] 42)
 have HB:=zH (show At (w.alloc (.cells #[.int .u32 2, .int .u32 1, .int .u64 5, .int .u32 4294967295, .int .u32 1, .int .u32 2, .int .u64 7, .int .u32 4294967295] 42)) (w.alloc (.cells #[.int .u32 2, .int .u32 1, .int .u64 5, .int .u32 4294967295, .int .u32 1, .int .u32 2, .int .u64 7, .int .u32 4294967295] 42)).heap.size (some ⟨w.heap.size,0,none⟩) (edsC two12) from At.new _ _ _ _ (by simp))
 have KZ:=zH kz
 clear hZ hS kz
 go_enter Tryz.func9,Tryz.ntmps9
 have BG:=zH (begun12_any K PK _ (K.keep HZ.out KZ.out) (HS.out.keep KZ.out) (n:=8) (Q:=65536) ⟨by decide,by decide⟩ (by decide) (m:=2) (c:=2) HB.out two_ok rfl (by decide))
 go_wp2_with fail
 refine BG.out.mono ?_
 rintro e w1 ⟨B,S,p,V,rfl,x1,s1,d1⟩
 have kk:=zH (zK KZ.out x1.pj.kp)
 have SO:=zH (SK.sort (nmO:=outN) (bi:=0) (x1.more (A':=61) (C':=50) (by decide) (Nat.le_refl _) (by decide)) (K.keep HZ.out KZ.out) (HS.out.keep KZ.out) (by decide) (by decide) s1 two_ok d1 (by decide) (by decide) (by decide) (by decide) (.inl rfl) (by decide) (by decide) (by decide))
 rw [strIn12,strOut12] at SO
 clear x1 s1 d1 BG
 go_wp2_with fail
 refine SO.out.mono ?_
 rintro e w2 ⟨E,q,V',ns',S',rfl,x2,-,⟨rfl,⟨a,ha,hV⟩,rfl,d2,-⟩|⟨-,hbad,-⟩⟩
 rotate_left
 · exact absurd hbad (by decide)
 have ha:=two_red ha
 subst ha
 have s2:IsS V' outN 20 [edB ⟨1,2,7,4294967295⟩,edB ⟨2,1,5,4294967295⟩]:=⟨⟨by decide,by decide⟩,fun r hr=>by
  simp only [List.mem_cons,List.not_mem_nil,or_false] at hr
  rcases hr with rfl|rfl<;>exact edB_len _,by rw [hV,upV_self]; rfl⟩
 have OP:=zH (sopen_any x2.pj (K.keep HZ.out KZ.out) x2.runs (by decide) (show outN.length≤maxLen by decide) 20)
 have e0:openT q outN 20=0:=by
  unfold openT
  rw [if_neg (by decide),x2.tid.find s2.file]
 rw [strOut12,e0] at OP
 have X2:=zH x2
 have S2:=zH s2
 clear x2 s2 e0 hV d2 SO
 go_wp2_with fail
 refine OP.out.mono ?_
 rintro e w3 ⟨k3,⟨-,-,-,sb,rfl,hs,hlt⟩|⟨hne,-⟩⟩
 rotate_left
 · exact absurd rfl hne
 have hs:StrAt w3 sb B.pb outN 20:=hs
 have N3:=zH (show ¬ S' sb from fun e=>by have:=X2.out.pj.lt _ e;omega)
 have GT:=zH (x_get PK (X2.out.keep k3) (K.keep HZ.out KZ.out) (HS.out.keep KZ.out) (by decide) hs N3.out S2.out 0 ⟨by decide,by decide⟩ rfl)
 clear k3 hs hlt OP
 go_wp2_with fail
 refine GT.out.mono ?_
 rintro e w4 ⟨E,t,q4,v4,S4,rfl,o4,n4,x4,-,-,⟨rfl,rfl⟩|⟨-,-,hbad⟩⟩
 rotate_left
 · exact absurd hbad (by decide)
 obtain ⟨A4,c4,rfl,hc4,-,-,-⟩:=o4.form
 have el:(edB ⟨1,2,7,4294967295⟩).length=20:=edB_len _
 rw [el] at hc4
 have RD:=zH (readEdge_yes A4 c4 (edB ⟨1,2,7,4294967295⟩) w4 (Own.at_ o4) el hc4)
 obtain ⟨n0,n1,n2,n3⟩:=edB_nums (e:=⟨1,2,7,4294967295⟩) ⟨by decide,by decide,by decide,by decide⟩
 rw [n0,n1,n2,n3] at RD
 have X4:=zH x4
 rw [el]
 clear o4 n4 x4 hc4 el n0 n1 n2 n3 GT
 go_wp2_with fail
 refine RD.out.mono ?_
 rintro e w5 ⟨rfl,k5⟩
 have K5:=zH k5
 clear k5
 have hl:q4.d.l.length=2:=by
  have:=X4.out.tid.names.length_eq
  simpa using this
 have NM:=zH (fun (W:World) (kW:Keeps w5 W)=>names_pj (X4.out.pj.keep (zK K5.out kW)) (K.keep HZ.out KZ.out) (by omega))
 rw [hl] at NM
 have KF:=zH (zK KZ.out (zK X4.out.pj.kp K5.out))
 go_wp2_with fail
 refine (NM.out _ (zA _ _)).mono ?_
 rintro e w6 ⟨v6,rfl,o6,k6⟩
 obtain ⟨A6,c6,rfl,-⟩:=o6.form
 have K6:=zH (zK KF.out (zK (zA _ _) k6))
 clear o6 k6 hl
 go_wp2_with fail
 go_ret
 exact ⟨rfl,K6.out⟩
end Go.Proofs.YtjmkagakdhhigaaGreatDoor
