/- Package store: a generation's names; which numbers are generations. -/
import Derived.Lib.AppendIntMem
import Derived.Test.YtjpldnjldindkaaGreatDoorQStA
import Derived.Test.YtjpldnjldindkaaGreatDoorQExtSr
import Derived.Laws.EntriesVeiled
set_option linter.all false
set_option maxHeartbeats 0
set_option maxRecDepth 100000
namespace Go.Proofs.YtjpldnjldindkaaGreatDoor
open Go.RowKit Go.Sort
def PowT (w : World) : Prop:=Lib.TabIs Tryz.prog w "internal/strconv.uint64pow10" .u64 Lib.pow10Tab
theorem PowT.keep {w w':World} (h:PowT w) (k:Keeps w w'):PowT w':=Lib.tabBelow_of_tabIs h w' k
theorem zoc {w:World} (hT:PowT w) (g:Nat) (hg:g≤1048577):Calls Tryz.prog 33 #[.int .i64 (g:Int)] w fun e w'=>e = .returned (.string (str (Lib.decDigits g)))∧Keeps w w':=by
 refine (Any.strconv_Itoa zoU (g:Int) (by omega) (by omega) w hT).mono ?_;rintro e w' ⟨rfl,gr⟩;refine ⟨?_,Grew.keeps gr⟩;have:Lib.itoa (g:Int)=Lib.decDigits g:=by
  unfold Lib.itoa;rw [if_neg (by omega),Int.toNat_natCast]
 rw [this];rfl
theorem zc0 {w:World} (hT:PowT w) (k:UInt8) (kv:Int) (hk:kv=(k.toNat:Int)) (g:Nat) (hg:g≤1048577) :
 Calls Tryz.prog 12 #[.int .u8 kv, .int .i64 (g:Int)] w fun e w'=>e = .returned (.string (str (nmG k g)))∧Keeps w w':=by
 have IT:=zH (fun (W:World) (kk:Keeps w W)=>zoc (hT.keep kk) g hg);have h0:(0:Int)≤(g:Int):=by omega
 have hd:(Lib.decDigits g).length≤8:=(zea 7 g (by omega)).2;have ecat:(⟨#[k,46]⟩:ByteArray)++str (Lib.decDigits g)=str (nmG k g):=by
  apply ByteArray.ext;simp [str,nmG]
 have hadd:∀ W:World,(Op.stringOp .add ⟨#[k,46]⟩ (str (Lib.decDigits g))).run Tryz.prog W = .ok (.string (str (nmG k g))) W:=fun W=>by
  have e2:=run_string_add_sum (P:=Tryz.prog) W ⟨#[k,46]⟩ (str (Lib.decDigits g)) (by rw [zaJ];show 2+_≤_;omega);rw [ecat] at e2;exact e2
 have CV:=zH (show ∀ (W:World) (b:Nat),W.cell? ⟨b,0,none⟩=some (.int .u8 kv)→W.cell? ⟨b,1,none⟩=some (.int .u8 46)→b<W.heap.size→(convert 39 9 (.slice (some ⟨b,0,none⟩) 2 2)).run Tryz.prog W = .ok (.string ⟨#[k,46]⟩) W from fun W b c0 c1 hb=>
  zhd W 39 5 9 Tryz.underlying39 Tryz.underlying5 Tryz.underlying9 (some ⟨b,0,none⟩) [k,46] 2 2 rfl (.inr ⟨_,rfl,hb,fun j u hu=>by
   rcases j with _|_|j
   ·simp only [cel,List.map_cons,List.getElem?_cons_zero,Option.some.injEq] at hu;rw [←hu,←hk];exact c0
   ·simp only [cel,List.map_cons,List.map_nil,List.getElem?_cons_succ,List.getElem?_cons_zero,Option.some.injEq] at hu;rw [←hu];exact c1
   ·simp [cel] at hu⟩))
 have nw:∀ W:World,(W.alloc (.cells #[.int .u8 kv, .int .u8 46] 5)).cell? ⟨W.heap.size,0,none⟩=some (.int .u8 kv)∧(W.alloc (.cells #[.int .u8 kv, .int .u8 46] 5)).cell? ⟨W.heap.size,1,none⟩=some (.int .u8 46):=fun W=>⟨cell_of_row _ _ 0 _ _ _ (heap_alloc_new W _),cell_of_row _ _ 1 _ _ _ (heap_alloc_new W _)⟩
 have NW:=zH nw;clear ecat hd hk hT nw hg;generalize hdg:str (Lib.decDigits g)=dg at *;generalize hng:str (nmG k g)=ng at *;clear hdg hng;have c1:=CV.out ((w.alloc (.cells #[.int .u8 kv, .int .u8 46] 5)).drew) w.heap.size ((zD _).cellOf (NW.out _).1) ((zD _).cellOf (NW.out _).2) (Nat.lt_of_lt_of_le (by simp) (zD _).size);go_enter Tryz.func12,Tryz.ntmps12;go_wp2_with fail
 go_region_with (first
  | (go_at_call 33;refine (IT.out _ (zD _)).mono ?_;rintro ee w2 ⟨rfl,k2⟩;have c2:=CV.out (w2.alloc (.cells #[.int .u8 kv, .int .u8 46] 5)) w2.heap.size (NW.out _).1 (NW.out _).2 (by simp))
  | (go_at_call 33;refine (IT.out _ (zK (zA _ _) (zD _))).mono ?_;rintro ee w2 ⟨rfl,k2⟩;have c2:=CV.out w2 w.heap.size ((zK (zD _) k2).cellOf (NW.out _).1) ((zK (zD _) k2).cellOf (NW.out _).2) (Nat.lt_of_lt_of_le (Nat.lt_of_lt_of_le (by simp) (zD _).size) k2.size)))
 all_goals
  go_wp2;go_ret;first
   | exact ⟨rfl,zK (zD _) (zK k2 (zA _ _))⟩
   | exact ⟨rfl,zK (zK (zA _ _) (zD _)) k2⟩
theorem zdK (g:Int) (w:World):Calls Tryz.prog 51 #[.int .i64 g] w fun e w'=>e = .returned (.bool (decide (0≤g∧g≤1048576)))∧w=w':=by
 by_cases h0:0≤g
 ·by_cases h1:g≤1048576
  ·have e1:decide (0≤g∧g≤1048576)=true:=decide_eq_true ⟨h0,h1⟩;rw [e1];clear e1;go_enter Tryz.func51,Tryz.ntmps51;go_wp2;go_ret;exact ⟨rfl,rfl⟩
  ·have e1:decide (0≤g∧g≤1048576)=false:=(decide_eq_false fun h=>h1 h.2);rw [e1];clear e1;go_enter Tryz.func51,Tryz.ntmps51;go_wp2;go_ret;exact ⟨rfl,rfl⟩
 ·have e1:decide (0≤g∧g≤1048576)=false:=(decide_eq_false fun h=>h0 h.1);rw [e1];clear e1;go_enter Tryz.func51,Tryz.ntmps51;go_wp2;go_ret;exact ⟨rfl,rfl⟩
section
variable {K:DiskOk} {w0 w w' w1 w2 wA:World} {B:PB} {S S' S1 S2 SA:Nat→Prop} {p q:Pst} {N Q A C n gb bv bt bh:Nat} {V V':Vw} {ns:List (List UInt8)} {nm nE nR nV:List UInt8} {vs:List Vt} {Av:Option Addr} {nv cv:Nat}
theorem IsS.at {V V':Vw} {nm:List UInt8} {size:Nat} {rs:List (List UInt8)} (s:IsS V nm size rs) (e:V' nm=V nm):IsS V' nm size rs:=⟨s.siz,s.recs,by rw [e];exact s.file⟩
def FillV (K:DiskOk) (w0:World) (B:PB) (N Q A C:Nat) (p:Pst) (V:Vw) (ns:List (List UInt8)) (S:Nat→Prop) (w:World) (nm:List UInt8) (vs:List Vt) (e:Ending) (w':World):Prop:=
 ∃ (q:Pst) (V':Vw) (S':Nat→Prop),e = .returned (.int .i64 0)∧ExS K w0 B N Q A C q V' ns S' w'∧Turns w w' S S'∧IsS V' nm 12 (vs.map vtB)∧(∀ x,x≠nm→V' x=V x)∧Tidy q nm∧Still p q (some nm)
theorem zqk (PK:PageOk) (h:ExS K w0 B N Q A C p V ns S w) (hZ:K.Z w0) (hS:Sizes w0) (hN:N≤4096) (hQ:4*(A*C)+4≤Q) (s:IsS V nm 12 []) (hB:At w w.heap.size Av (vtsC vs)) (hF:∀ ad,Av=some ad→¬ S ad.block) (hnv:nv=vs.length) (hok:∀ x∈vs,VtOk x) (hC:vs.length≤20*C) (hl:vs.length≤100000) :
 Calls Tryz.prog 92 #[.pointer (some ⟨B.pb,0,none⟩), .string (str nm), .slice Av nv cv] w (FillV K w0 B N Q A C p V ns S w nm vs):=by
 have hnm:=h.tid.name s;have OP:=zH (zgR h hZ s);have H:=zH h;have HZ:=zH hZ;have HS:=zH hS;have HN:=zH hN;have HQ:=zH hQ;have SS:=zH s;have HB:=zH hB;have HF:=zH hF;have HNV:=zH hnv;have OK:=zH hok;have HC:=zH hC;have HL:=zH hl;have HM:=zH hnm;have hnv1:(nv:Int)≤100000:=by omega
 obtain ⟨NM,hNM⟩:∃ NM,str nm=NM:=⟨_,rfl⟩
 rw [show ((12:Nat):Int)=12 from rfl,hNM] at OP;rw [hNM];have ENM:=zH hNM;clear h hZ hS hN hQ s hB hF hnv hok hC hl hnm hNM;go_enter Tryz.func92,Tryz.ntmps92;go_wp2_with fail
 refine OP.out.mono ?_;rintro e w1 ⟨sb,rfl,b1,hsb,k1⟩;have X1:=zH (H.out.keep k1);have B1:=zH b1;have N1:=zH (H.out.lt hsb);have K1:=zH k1;clear b1 hsb k1 OP;go_wp2;go_loopw [23] (fun i wr=>∃ (k:Nat) (q:Pst) (V':Vw) (S':Nat→Prop),k≤nv∧i = .int .i64 (k:Int)∧ExS K w0 B N Q A C q V' ns S' wr∧StrAt wr sb B.pb nm 12∧¬ S' sb∧IsS V' nm 12 ((vs.take k).map vtB)∧(∀ x,x≠nm→V' x=V x)∧Turns w wr S S'∧Still p q (some nm)) (fun i _=>nv-(intOf i).toNat)
 case atStart=>exact ⟨0,p,V,S,Nat.zero_le _,rfl,X1.out,B1.out,N1.out,SS.out,fun x _=>rfl,Turns.of_keeps K1.out,Still.refl _ _⟩
 case round=>
  obtain ⟨k,q,V',S',hk,rfl,hx,hb,hns,hs,hsame,ht,hst⟩:=hrel;have XQ:=zH hx;have BQ:=zH hb;have NQ:=zH hns;have SQ:=zH hs;have SM:=zH hsame;have TQ:=zH ht;have STQ:=zH hst;clear hx hb hns hs hsame ht hst;by_cases hlt:k<nv
  ·obtain ⟨x,hx⟩:∃ x,vs[k]? = some x:=(⟨_,zG9 (by have:=HNV.out;omega)⟩);obtain ⟨ad,hAv,_,hE⟩:=zjL (TQ.out.at_ HB.out HF.out) hx;subst hAv;obtain ⟨a0,a1,a2⟩:=hE;have okx:=OK.out _ (List.mem_of_getElem? hx);have ET:=zH (show (vs.take (k+1)).map vtB=(vs.take k).map vtB++[vtB x] by
    rw [List.take_succ_eq_append_getElem (by have:=HNV.out;omega)];rw [zG9 (by have:=HNV.out;omega)] at hx;rw [Option.some.inj hx,List.map_append];rfl)
   have LK:=zH (show ((vs.take k).map vtB).length<C*(240/12) by rw [List.length_map,List.length_take];have:=HC.out;have:=HNV.out;omega);have kv:=zA wr (.cells #[.int .u32 (x.r:Int), .int .u32 (x.l:Int), .int .u32 (x.g:Int)] 55);have VE:=zH (zoT x.r x.l x.g okx.r okx.l okx.g (wr.alloc (.cells #[.int .u32 (x.r:Int), .int .u32 (x.l:Int), .int .u32 (x.g:Int)] 55)));obtain ⟨d0,d1,d2⟩:=(VtBox.new wr x).cells;have KV:=zH kv;have HK:=zH hlt;have hkn:(k:Int)<(nv:Int):=by omega
   have hk0:(0:Int)≤(k:Int):=(by omega);clear hx okx hlt hk kv;go_wp2_with fail
   refine VE.out.mono ?_;rintro e w5 ⟨v5,rfl,o5,k5⟩;obtain ⟨A5,c5,rfl,hc5,-,-,hbl5⟩:=o5.form;have el:(vertB x.r x.l x.g).length=12:=zcN x;have kk:=zK KV.out k5;have AD:=zH (y_add PK (XQ.out.keep kk) HZ.out HS.out HN.out HQ.out (BQ.out.keep kk) NQ.out SQ.out (cr:=c5) (nr:=12) (r:=vtB x) (Own.at_ o5) (fun ad h hF=>by
    have h1:=(hbl5 ad h).2.1;have h2:=XQ.out.pj.lt _ hF;simp only [World.size_alloc] at h1;omega) (zcN x).symm (zcN x) LK.out)
   have B5:=zH (BQ.out.keep kk);have T5:=zH (TQ.out.trans (Turns.of_keeps kk));rw [el];clear o5 hc5 hbl5 a0 a1 a2 d0 d1 d2 el k5 kk VE;go_wp2_with fail
   refine AD.out.mono ?_;rintro e w6 ⟨q6,V6,S6,rfl,x6,t6,st6,hV6,s6⟩;have X6:=zH x6;have SS6:=zH (show IsS V6 nm 12 ((vs.take (k+1)).map vtB) by rw [ET.out];exact s6);have B6:=zH (B5.out.turn t6 NQ.out);have N6:=zH (t6.notIn B5.out.lt NQ.out);have SM6:=zH (show ∀ y,y≠nm→V6 y=V y from fun y hy=>by rw [hV6,zag _ _ hy];exact SM.out y hy);have T6:=zH (T5.out.trans t6);have ST6:=zH (STQ.out.trans st6);clear x6 t6 s6 st6 hV6 AD;go_wp2;go_roundw
   case rel=>exact ⟨k+1,q6,V6,S6,by have:=HK.out;omega,by go_num,X6.out,B6.out,N6.out,SS6.out,SM6.out,T6.out,ST6.out⟩
   case measure=>have:=HK.out;simp [intOf];omega
  ·obtain rfl:k=nv:=(by omega);have hall:vs.take k=vs:=by rw [HNV.out,List.take_length]
   have FL:=zH (zrt PK XQ.out HZ.out HS.out HQ.out HM.out);rw [ENM.out] at FL;have S9:=zH (show IsS V' nm 12 (vs.map vtB) by have:=SQ.out;rwa [hall] at this);clear hall hlt hk;go_wp2_with fail
   refine FL.out.mono ?_;rintro e w7 ⟨q7,S7,rfl,x7,t7,st7,d7⟩;have R:=zH (show FillV K w0 B N Q A C p V ns S w nm vs (.returned (.int .i64 0)) w7 from ⟨q7,V',S7,rfl,x7,TQ.out.trans t7,S9.out,SM.out,d7,STQ.out.trans st7⟩);clear x7 t7 st7 d7;go_wp2;go_ret;exact R.out
theorem zod (PK:PageOk) (h:ExS K w0 B N Q A C p V ns S w) (hZ:K.Z w0) (hS:Sizes w0) (hN:N≤4096) (hQ:4*(A*C)+4≤Q) (hn:zaf nm=true) (hm:nm∉ns) (hA:ns.length<A) (hB:At w w.heap.size Av (vtsC vs)) (hF:∀ ad,Av=some ad→¬ S ad.block) (hLT:∀ ad,Av=some ad→ad.block<w.heap.size) (hnv:nv=vs.length) (hok:∀ x∈vs,VtOk x) (hC:vs.length≤20*C) (hl:vs.length≤100000) :
 Calls Tryz.prog 56 #[.pointer (some ⟨B.pb,0,none⟩), .string (str nm), .slice Av nv cv] w (FillV K w0 B N Q A C p V (nm::ns) S w nm vs):=by
 have CR:=zH (zew h hZ hn hm hA);have FI:=zH (fun (q:Pst) (S':Nat→Prop) (W:World) (hx:ExS K w0 B N Q A C q (upV V nm (some [])) (nm::ns) S' W) (t:Turns w W S S')=>zqk (cv:=cv) PK hx hZ hS hN hQ (zci ⟨by decide,by decide⟩ (zap _ _ _)) (t.at_ hB hF) (fun ad e=>t.notIn (hLT ad e) (hF ad e)) hnv hok hC hl);generalize str nm=NM at *;clear h hZ hS hN hQ hn hm hA hB hF hLT hnv hok hC hl;go_enter Tryz.func56,Tryz.ntmps56;go_wp2_with fail
 refine CR.out.mono ?_;rintro e w1 ⟨q1,S1,rfl,x1,t1,st1,d1⟩;have FI1:=zH (FI.out q1 S1 w1 x1 t1);have T1:=zH t1;have ST1:=zH st1;clear x1 t1 st1 d1 CR;go_wp2_with fail
 refine FI1.out.mono ?_;rintro e w2 ⟨q2,V2,S2,rfl,x2,t2,s2,m2,d2,st2⟩;have R:=zH (show FillV K w0 B N Q A C p V (nm::ns) S w nm vs (.returned (.int .i64 0)) w2 from ⟨q2,V2,S2,rfl,x2,T1.out.trans t2,s2,fun y hy=>by rw [m2 y hy,zag _ _ hy],d2,ST1.out.trans st2⟩);clear x2 t2 s2 m2 d2 st2;go_wp2;go_ret;exact R.out
def OpenG (K:DiskOk) (w0:World) (B:PB) (N Q A C:Nat) (p:Pst) (V:Vw) (ns:List (List UInt8)) (S:Nat→Prop) (w:World) (nE nR nV:List UInt8) (n:Nat) (e:Ending) (w':World):Prop:=
 ∃ (gb bv bt bh:Nat) (q:Pst) (S':Nat→Prop),e = .returned (.tuple #[.pointer (some ⟨gb,0,none⟩), .int .i64 0])∧GrAt w' S' B nE nR nV n gb bv bt bh∧w.heap.size≤gb∧ExS K w0 B N Q A C q V ns S' w'∧Turns w w' S S'∧Still p q none
theorem zit (PK:PageOk) (h:ExS K w0 B N Q A C p V ns S w) (hZ:K.Z w0) (hS:Sizes w0) (hT:PowT w0) (hN:N≤4096) (hQ:4*(A*C)+4≤Q) (g:Nat) (hg:g≤1048576) {a b:List Ed} (G:GenV V (nmG 101 g) (nmG 114 g) (nmG 118 g) a b vs) :
 Calls Tryz.prog 25 #[.pointer (some ⟨B.pb,0,none⟩), .int .i64 (g:Int)] w (OpenG K w0 B N Q A C p V ns S w (nmG 101 g) (nmG 114 g) (nmG 118 g) vs.length):=by
 have GE:=zH (zdK (g:Int) w);rw [decide_eq_true (show 0≤(g:Int)∧(g:Int)≤1048576 by omega)] at GE;have NM:=zH (fun (W:World) (kW:Keeps w0 W) (c:UInt8) (cv:Int) (hc:cv=(c.toNat:Int))=>zc0 (hT.keep kW) c cv hc g (by omega));have H:=zH h;have HZ:=zH hZ;have HS:=zH hS;have HN:=zH hN;have HQ:=zH hQ;have GG:=zH G;clear h hZ hS hN hQ hT hg G;go_enter Tryz.func25,Tryz.ntmps25;go_wp2_with fail
 refine GE.out.mono ?_;rintro e w1 ⟨rfl,rfl⟩;have NV:=zH (NM.out w H.out.pj.kp 118 118 rfl);have OV:=zH (fun (W:World) (kW:Keeps w W)=>zgR (H.out.keep kW) HZ.out GG.out.v);go_wp2_with fail
 refine NV.out.mono ?_;rintro e w1 ⟨rfl,k1⟩;have K1:=zH k1;have OV1:=zH (OV.out w1 k1);rw [show ((12:Nat):Int)=12 from rfl] at OV1;clear k1 NV OV GE;generalize hnv:nmG 118 g=nV at *;generalize hne:nmG 101 g=nE at *;generalize hnr:nmG 114 g=nR at *;have HNE:=zH hne;have HNR:=zH hnr;clear hnv hne hnr;go_wp2_with fail
 refine OV1.out.mono ?_;rintro e w2 ⟨bv,rfl,sv,hbv,k2⟩;have X2:=zH (H.out.keep (zK K1.out k2));have SV:=zH sv;have NBV:=zH (show ¬ S bv from H.out.lt (Nat.le_trans K1.out.size hbv));have K2:=zH (zK K1.out k2);have LE:=zH (y_len PK X2.out HZ.out HS.out HN.out HQ.out sv NBV.out GG.out.v);rw [List.length_map] at LE;clear sv hbv k2 OV1;go_wp2_with fail
 refine LE.out.mono ?_;rintro e w3 ⟨rfl,q3,S3,x3,t3,st3⟩;have X3:=zH x3;have SV3:=zH (SV.out.turn t3 NBV.out);have NV3:=zH (t3.notIn SV.out.lt NBV.out);have T3:=zH ((Turns.of_keeps K2.out).trans t3);have ST3:=zH st3;have NE:=zH (NM.out w3 x3.pj.kp 101 101 rfl);rw [HNE.out] at NE;have OE:=zH (fun (W:World) (kW:Keeps w3 W)=>zgR (X3.out.keep kW) HZ.out GG.out.e);clear x3 t3 st3 LE SV NBV;go_wp2_with fail
 refine NE.out.mono ?_;rintro e w4 ⟨rfl,k4⟩;have K4:=zH k4;have OE4:=zH (OE.out w4 k4);rw [show ((20:Nat):Int)=20 from rfl] at OE4;clear k4 NE OE;go_wp2_with fail
 refine OE4.out.mono ?_;rintro e w5 ⟨bt,rfl,st,hbt,k5⟩;have K5:=zH (zK K4.out k5);have SE:=zH st;have NBT:=zH (show ¬ S3 bt from X3.out.lt (Nat.le_trans K4.out.size hbt));have NR:=zH (NM.out w5 (zK X3.out.pj.kp K5.out) 114 114 rfl);rw [HNR.out] at NR;have OR:=zH (fun (W:World) (kW:Keeps w3 W)=>zgR (X3.out.keep kW) HZ.out GG.out.r);clear st hbt k5 OE4;go_wp2_with fail
 refine NR.out.mono ?_;rintro e w6 ⟨rfl,k6⟩;have K6:=zH k6;have OR6:=zH (OR.out w6 (zK K5.out k6));rw [show ((20:Nat):Int)=20 from rfl] at OR6;clear k6 NR OR;go_wp2_with fail
 refine OR6.out.mono ?_;rintro e w7 ⟨bh,rfl,sh,hbh,k7⟩;have K37:=zH (zK K5.out (zK K6.out k7));have kb:=zA w7 (.cells #[.pointer (some ⟨bv,0,none⟩), .pointer (some ⟨bt,0,none⟩), .pointer (some ⟨bh,0,none⟩), .int .i64 (vs.length:Int)] 98);have GA:=zH (show GrAt (w7.alloc (.cells #[.pointer (some ⟨bv,0,none⟩), .pointer (some ⟨bt,0,none⟩), .pointer (some ⟨bh,0,none⟩), .int .i64 (vs.length:Int)] 98)) S3 B nE nR nV vs.length w7.heap.size bv bt bh from
  ⟨Box.new _ _ _,SV3.out.keep (zK K37.out kb),SE.out.keep (zK K6.out (zK k7 kb)),sh.keep kb,X3.out.lt K37.out.size,NV3.out,NBT.out,X3.out.lt (Nat.le_trans K5.out.size (Nat.le_trans K6.out.size hbh))⟩)
 have X7:=zH (X3.out.keep (zK K37.out kb));have T7:=zH (T3.out.trans (Turns.of_keeps (zK K37.out kb)));have GB:=zH (show w.heap.size≤w7.heap.size from Nat.le_trans T3.out.only.size K37.out.size);clear k7 sh hbh kb OR6;go_wp2;go_returns;exact ⟨w7.heap.size,bv,bt,bh,q3,S3,rfl,GA.out,GB.out,X7.out,T7.out,ST3.out⟩
theorem zoe (pb:Nat) (gi:Int) (hg:¬ (0≤gi∧gi≤1048576)) (w:World):Calls Tryz.prog 25 #[.pointer (some ⟨pb,0,none⟩), .int .i64 gi] w fun e w'=>e = .returned (.tuple #[.pointer none, .int .i64 1])∧w=w':=by
 have GE:=zH (zdK gi w);rw [decide_eq_false hg] at GE;clear hg;go_enter Tryz.func25,Tryz.ntmps25;go_wp2_with fail
 refine GE.out.mono ?_;rintro e w1 ⟨rfl,rfl⟩;go_wp2;go_returns;exact ⟨rfl,rfl⟩
end
section
variable {K:DiskOk} {w0 w w' w1 w2 wA:World} {B:PB} {S S' S1 S2 SA:Nat→Prop} {p q:Pst} {N Q A C:Nat} {V V':Vw} {ns ns':List (List UInt8)} {nmI nmO nE nR nV:List UInt8} {vs:List Vt} {l:List Ed} {Av:Option Addr} {nv cv:Nat}
def SortD (K:DiskOk) (w0:World) (B:PB) (N Q A C:Nat) (p:Pst) (V:Vw) (ns:List (List UInt8)) (S:Nat→Prop) (w:World) (nmO:List UInt8) (l:List Ed) (hd:Bool) (e:Ending) (w':World):Prop:=
 ∃ (q:Pst) (S':Nat→Prop) (c:List Ed),e = .returned (.int .i64 0)∧Turns w w' S S'∧RedB hd l c∧ExS K w0 B N Q A C q (upV V nmO (some (zae 12 (c.map edB)))) (nmO::ns) S' w'∧Tidy q nmO∧(∀ x∈ns,Tidy p x→Tidy q x∧getF q.d.l x=getF p.d.l x)
theorem zsv {X:List UInt8→Prop} {x:List UInt8} (h:Tidy p x) (s:StillX X p q) (hx:¬ X x):Tidy q x∧getF q.d.l x=getF p.d.l x:=by
 obtain ⟨h1,h2⟩:=s x hx h.dl;exact ⟨⟨h1,fun f hf=>h.file f (h2▸hf)⟩,h2⟩
theorem zof (PK:PageOk) (h:ExS K w0 B N Q A C p V ns S w) (hZ:K.Z w0) (hS:Sizes w0) (hN:N≤4096) (hN8:8≤N) (hQ:4*(A*C)+4≤Q) {bi:Int} (hbi:bi=0∨bi=1) (s:IsS V nmI 20 (l.map edB)) (hok:∀ e∈l,EdOk e) (hO:zaf nmO=true) (hOn:nmO∉ns) (hdot:∀ x∈ns,¬ Tdot x) (hOd:¬ Tdot nmO) (hA:ns.length+60≤A) (hC:l.length≤12*C) (hl:l.length≤1000) :
 Calls Tryz.prog 53 #[.pointer (some ⟨B.pb,0,none⟩), .string (str nmI), .string (str nmO), .int .i64 bi] w (SortD K w0 B N Q A C p V ns S w nmO l (decide (bi=1))):=by
 refine (zob PK h hZ hS hN hN8 hbi s hok hO hOn hdot hOd hA hC hl).mono ?_;rintro e w' ⟨E,q,S',rfl,t,st,⟨rfl,c,hred,hx,ht⟩|⟨-,hbad,-⟩⟩
 ·exact ⟨q,S',c,rfl,t,hred,hx,ht,fun x hxn htx=>zsv htx st (fun e=>e.elim (hdot x hxn) (fun e=>hOn (e▸hxn)))⟩
 ·omega
structure MkAt (w:World) (S:Nat→Prop) (B:PB) (nmI:List UInt8) (sE sR sV:ByteArray) (vv:Value) (bp br bv bs:Nat):Prop where
 p:Box w bp 68 #[.pointer (some ⟨B.pb,0,none⟩)]
 r:Box w br 9 #[.string (str nmI)]
 v:Box w bv 23 #[vv]
 s:Box w bs 118 #[.string sE, .func (.func 52) #[] #[.pointer (some ⟨bp,0,none⟩), .pointer (some ⟨br,0,none⟩)], .string sR, .func (.func 54) #[] #[.pointer (some ⟨bp,0,none⟩), .pointer (some ⟨br,0,none⟩)], .string sV, .func (.func 55) #[] #[.pointer (some ⟨bp,0,none⟩), .pointer (some ⟨bv,0,none⟩)]]
 np:¬ S bp
 nr:¬ S br
 nv:¬ S bv
 ns:¬ S bs
variable {sE sR sV:ByteArray} {vv:Value} {bp br bv bs:Nat}
theorem MkAt.keep (c:MkAt w S B nmI sE sR sV vv bp br bv bs) (h:Keeps w w'):MkAt w' S B nmI sE sR sV vv bp br bv bs:=⟨c.p.keep h,c.r.keep h,c.v.keep h,c.s.keep h,c.np,c.nr,c.nv,c.ns⟩
theorem MkAt.turn (c:MkAt w S B nmI sE sR sV vv bp br bv bs) (t:Turns w w' S S'):MkAt w' S' B nmI sE sR sV vv bp br bv bs:=
 ⟨c.p.turned t c.np,c.r.turned t c.nr,c.v.turned t c.nv,c.s.turned t c.ns,t.notIn c.p.lt c.np,t.notIn c.r.lt c.nr,t.notIn c.v.lt c.nv,t.notIn c.s.lt c.ns⟩
theorem zrB (PK:PageOk) (h:ExS K w0 B N Q A C p V ns S w) (hZ:K.Z w0) (hS:Sizes w0) (hN:N≤4096) (hN8:8≤N) (hQ:4*(A*C)+4≤Q) (c:MkAt w S B nmI sE sR sV vv bp br bv bs) (s:IsS V nmI 20 (l.map edB)) (hok:∀ e∈l,EdOk e) (hO:zaf nmO=true) (hOn:nmO∉ns) (hdot:∀ x∈ns,¬ Tdot x) (hOd:¬ Tdot nmO) (hA:ns.length+60≤A) (hC:l.length≤12*C) (hl:l.length≤1000) :
 Calls Tryz.prog 52 #[.string (str nmO), .pointer (some ⟨bp,0,none⟩), .pointer (some ⟨br,0,none⟩)] w (SortD K w0 B N Q A C p V ns S w nmO l false):=by
 have SO:=zH (show Calls _ _ _ _ (SortD K w0 B N Q A C p V ns S w nmO l false) from zof PK h hZ hS hN hN8 hQ (bi:=0) (by decide) s hok hO hOn hdot hOd hA hC hl);have c0:=c.p.cell 0 rfl;have c1:=c.r.cell 0 rfl;generalize str nmO=sO at *;generalize str nmI=sI at *;clear h hZ hS hN hN8 hQ c s hok hO hOn hdot hOd hA hC hl;go_enter Tryz.func52,Tryz.ntmps52;go_wp2_with fail
 refine SO.out.mono ?_;rintro e w2 ⟨q2,S2,cc,rfl,t2,r2,x2,d2,o2⟩;have R:=zH (show SortD K w0 B N Q A C p V ns S w nmO l false (.returned (.int .i64 0)) w2 from ⟨q2,S2,cc,rfl,t2,r2,x2,d2,o2⟩);clear t2 r2 x2 d2 o2 c0 c1;go_wp2;go_ret;exact R.out
theorem zrC (PK:PageOk) (h:ExS K w0 B N Q A C p V ns S w) (hZ:K.Z w0) (hS:Sizes w0) (hN:N≤4096) (hN8:8≤N) (hQ:4*(A*C)+4≤Q) (c:MkAt w S B nmI sE sR sV vv bp br bv bs) (s:IsS V nmI 20 (l.map edB)) (hok:∀ e∈l,EdOk e) (hO:zaf nmO=true) (hOn:nmO∉ns) (hdot:∀ x∈ns,¬ Tdot x) (hOd:¬ Tdot nmO) (hA:ns.length+60≤A) (hC:l.length≤12*C) (hl:l.length≤1000) :
 Calls Tryz.prog 54 #[.string (str nmO), .pointer (some ⟨bp,0,none⟩), .pointer (some ⟨br,0,none⟩)] w (SortD K w0 B N Q A C p V ns S w nmO l true):=by
 have SO:=zH (show Calls _ _ _ _ (SortD K w0 B N Q A C p V ns S w nmO l true) from zof PK h hZ hS hN hN8 hQ (bi:=1) (by decide) s hok hO hOn hdot hOd hA hC hl);have c0:=c.p.cell 0 rfl;have c1:=c.r.cell 0 rfl;generalize str nmO=sO at *;generalize str nmI=sI at *;clear h hZ hS hN hN8 hQ c s hok hO hOn hdot hOd hA hC hl;go_enter Tryz.func54,Tryz.ntmps54;go_wp2_with fail
 refine SO.out.mono ?_;rintro e w2 ⟨q2,S2,cc,rfl,t2,r2,x2,d2,o2⟩;have R:=zH (show SortD K w0 B N Q A C p V ns S w nmO l true (.returned (.int .i64 0)) w2 from ⟨q2,S2,cc,rfl,t2,r2,x2,d2,o2⟩);clear t2 r2 x2 d2 o2 c0 c1;go_wp2;go_ret;exact R.out
theorem zrD (PK:PageOk) (h:ExS K w0 B N Q A C p V ns S w) (hZ:K.Z w0) (hS:Sizes w0) (hN:N≤4096) (hQ:4*(A*C)+4≤Q) (c:MkAt w S B nmI sE sR sV (.slice Av nv cv) bp br bv bs) (hn:zaf nmO=true) (hm:nmO∉ns) (hA:ns.length<A) (hB:At w w.heap.size Av (vtsC vs)) (hF:∀ ad,Av=some ad→¬ S ad.block) (hLT:∀ ad,Av=some ad→ad.block<w.heap.size) (hnv:nv=vs.length) (hok:∀ x∈vs,VtOk x) (hC:vs.length≤20*C) (hl:vs.length≤100000) :
 Calls Tryz.prog 55 #[.string (str nmO), .pointer (some ⟨bp,0,none⟩), .pointer (some ⟨bv,0,none⟩)] w (FillV K w0 B N Q A C p V (nmO::ns) S w nmO vs):=by
 have KE:=zH (zod (cv:=cv) PK h hZ hS hN hQ hn hm hA hB hF hLT hnv hok hC hl);have c0:=c.p.cell 0 rfl;have c1:=c.v.cell 0 rfl;generalize str nmO=sO at *;clear h hZ hS hN hQ c hn hm hA hB hF hLT hnv hok hC hl;go_enter Tryz.func55,Tryz.ntmps55;go_wp2_with fail
 refine KE.out.mono ?_;rintro e w2 ⟨q2,V2,S2,rfl,x2,t2,s2,m2,d2,st2⟩;have R:=zH (show FillV K w0 B N Q A C p V (nmO::ns) S w nmO vs (.returned (.int .i64 0)) w2 from ⟨q2,V2,S2,rfl,x2,t2,s2,m2,d2,st2⟩);clear x2 t2 s2 m2 d2 st2 c0 c1;go_wp2;go_ret;exact R.out
structure MkSt (p:Pst) (V:Vw) (ns:List (List UInt8)) (l:List Ed) (vs:List Vt) (nE nR nV:List UInt8) (k:Nat) (q:Pst) (V':Vw) (ns':List (List UInt8)):Prop where
 n:ns'=([nV,nR,nE].drop (3-k))++ns
 e:1≤k→∃ a,RedB false l a∧IsS V' nE 20 (a.map edB)∧Tidy q nE
 r:2≤k→∃ b,RedB true l b∧IsS V' nR 20 (b.map edB)∧Tidy q nR
 v:3≤k→IsS V' nV 12 (vs.map vtB)∧Tidy q nV
 o:∀ x,x≠nE→x≠nR→x≠nV→V' x=V x
 t:∀ x∈ns,Tidy p x→Tidy q x∧getF q.d.l x=getF p.d.l x
theorem MkSt.zero (p:Pst) (V:Vw) (ns:List (List UInt8)) (l:List Ed) (vs:List Vt) (nE nR nV:List UInt8):MkSt p V ns l vs nE nR nV 0 p V ns:=⟨rfl,fun h=>by omega,fun h=>by omega,fun h=>by omega,fun x _ _ _=>rfl,fun x _ h=>⟨h,rfl⟩⟩
theorem zle (V:Vw) (nm:List UInt8) (a:List Ed):IsS (upV V nm (some (zae 12 (a.map edB)))) nm 20 (a.map edB):=⟨⟨by decide,by decide⟩,fun r hr=>by
 obtain ⟨y,-,rfl⟩:=List.mem_map.1 hr;exact zbd y,zap _ _ _⟩
theorem MkSt.one {q2:Pst} {V2:Vw} {ns2:List (List UInt8)} (m:MkSt p V ns l vs nE nR nV 0 q V2 ns2) {c:List Ed} (hc:RedB false l c) (ht:Tidy q2 nE) (hk:∀ x∈ns2,Tidy q x→Tidy q2 x∧getF q2.d.l x=getF q.d.l x):MkSt p V ns l vs nE nR nV 1 q2 (upV V2 nE (some (zae 12 (c.map edB)))) (nE::ns2):=by
 have hn:=m.n;subst hn;refine ⟨rfl,fun _=>⟨c,hc,zle _ _ _,ht⟩,fun h=>by omega,fun h=>by omega,fun x h1 h2 h3=>by rw [zag _ _ h1];exact m.o x h1 h2 h3,fun x hx hxt=>?_⟩;obtain ⟨a1,a2⟩:=m.t x hx hxt;obtain ⟨b1,b2⟩:=hk x hx a1;exact ⟨b1,b2.trans a2⟩
theorem MkSt.two {q2:Pst} {V2:Vw} {ns2:List (List UInt8)} (m:MkSt p V ns l vs nE nR nV 1 q V2 ns2) (hne:nE≠nR) {c:List Ed} (hc:RedB true l c) (ht:Tidy q2 nR) (hk:∀ x∈ns2,Tidy q x→Tidy q2 x∧getF q2.d.l x=getF q.d.l x):MkSt p V ns l vs nE nR nV 2 q2 (upV V2 nR (some (zae 12 (c.map edB)))) (nR::ns2):=by
 have hn:=m.n;subst hn;refine ⟨rfl,fun _=>?_,fun _=>⟨c,hc,zle _ _ _,ht⟩,fun h=>by omega,fun x h1 h2 h3=>by rw [zag _ _ h2];exact m.o x h1 h2 h3,fun x hx hxt=>?_⟩
 ·obtain ⟨a,ha,sa,ta⟩:=m.e (by omega);exact ⟨a,ha,sa.at (zag _ _ hne),(hk nE (by simp) ta).1⟩
 ·obtain ⟨a1,a2⟩:=m.t x hx hxt;obtain ⟨b1,b2⟩:=hk x (by simp [hx]) a1;exact ⟨b1,b2.trans a2⟩
theorem MkSt.three {q2:Pst} {V2 V3:Vw} {ns2:List (List UInt8)} (m:MkSt p V ns l vs nE nR nV 2 q V2 ns2) (h1:nE≠nV) (h2:nR≠nV) (hns:nV∉ns) (hs:IsS V3 nV 12 (vs.map vtB)) (hv:∀ x,x≠nV→V3 x=V2 x) (ht:Tidy q2 nV) (hk:Still q q2 (some nV)):MkSt p V ns l vs nE nR nV 3 q2 V3 (nV::ns2):=by
 have hn:=m.n;subst hn;refine ⟨rfl,fun _=>?_,fun _=>?_,fun _=>⟨hs,ht⟩,fun x e1 e2 e3=>by rw [hv x e3];exact m.o x e1 e2 e3,fun x hx hxt=>?_⟩
 ·obtain ⟨a,ha,sa,ta⟩:=m.e (by omega);exact ⟨a,ha,sa.at (hv _ h1),ta.still hk (fun e=>h1 (Option.some.inj e).symm)⟩
 ·obtain ⟨a,ha,sa,ta⟩:=m.r (by omega);exact ⟨a,ha,sa.at (hv _ h2),ta.still hk (fun e=>h2 (Option.some.inj e).symm)⟩
 ·obtain ⟨a1,a2⟩:=m.t x hx hxt;have hne:some nV≠some x:=(fun e=>hns (Option.some.inj e▸hx));exact ⟨a1.still hk hne,((hk x hne a1.dl).2).trans a2⟩
def MakeV (K:DiskOk) (w0:World) (B:PB) (N Q A C:Nat) (p:Pst) (V:Vw) (ns:List (List UInt8)) (S:Nat→Prop) (w:World) (l:List Ed) (vs:List Vt) (nE nR nV:List UInt8) (e:Ending) (w':World):Prop:=
 ∃ (q:Pst) (V':Vw) (S':Nat→Prop),e = .returned (.int .i64 0)∧ExS K w0 B N Q A C q V' (nV::nR::nE::ns) S' w'∧Turns w w' S S'∧MkSt p V ns l vs nE nR nV 3 q V' (nV::nR::nE::ns)
theorem ziu (PK:PageOk) (h:ExS K w0 B N Q A C p V ns S w) (hZ:K.Z w0) (hS:Sizes w0) (hT:PowT w0) (hN:N≤4096) (hN8:8≤N) (hQ:4*(A*C)+4≤Q) (s:IsS V nmI 20 (l.map edB)) (hok:∀ e∈l,EdOk e) (g:Nat) (hg:g≤1048576) (hE:nmG 101 g∉ns) (hR:nmG 114 g∉ns) (hV:nmG 118 g∉ns) (hdot:∀ x∈ns,¬ Tdot x) (hA:ns.length+63≤A) (hC:l.length≤12*C) (hl:l.length≤1000)
 (hB:At w w.heap.size Av (vtsC vs)) (hF:∀ ad,Av=some ad→¬ S ad.block) (hLT:∀ ad,Av=some ad→ad.block<w.heap.size) (hnv:nv=vs.length) (hov:∀ x∈vs,VtOk x) (hCv:vs.length≤20*C) (hlv:vs.length≤100000) :
 Calls Tryz.prog 24 #[.pointer (some ⟨B.pb,0,none⟩), .string (str nmI), .int .i64 (g:Int), .slice Av nv cv] w (MakeV K w0 B N Q A C p V ns S w l vs (nmG 101 g) (nmG 114 g) (nmG 118 g)):=by
 have hI:nmI∈ns:=h.tid.name s;have GE:=zH (fun W=>zdK (g:Int) W);rw [decide_eq_true (show 0≤(g:Int)∧(g:Int)≤1048576 by omega)] at GE;have NME:=zH (fun (W:World) (kW:Keeps w0 W)=>zc0 (hT.keep kW) 101 101 rfl g (by omega));have NMR:=zH (fun (W:World) (kW:Keeps w0 W)=>zc0 (hT.keep kW) 114 114 rfl g (by omega));have NMV:=zH (fun (W:World) (kW:Keeps w0 W)=>zc0 (hT.keep kW) 118 118 rfl g (by omega));have OKE:=zH (show zaf (nmG 101 g)=true∧¬ Tdot (nmG 101 g) from ⟨zjJ rfl hg,zhw (by decide) g⟩);have OKR:=zH (show zaf (nmG 114 g)=true∧¬ Tdot (nmG 114 g) from ⟨zjJ rfl hg,zhw (by decide) g⟩);have OKV:=zH (show zaf (nmG 118 g)=true∧¬ Tdot (nmG 118 g) from ⟨zjJ rfl hg,zhw (by decide) g⟩);have NE:=zH (show nmG 101 g≠nmG 114 g∧nmG 101 g≠nmG 118 g∧nmG 114 g≠nmG 118 g from ⟨zjK (by decide) g g,zjK (by decide) g g,zjK (by decide) g g⟩);have k1:=zA w (.cells #[.pointer (some ⟨B.pb,0,none⟩)] 68);have k2:=zA (w.alloc (.cells #[.pointer (some ⟨B.pb,0,none⟩)] 68)) (.cells #[.string (str nmI)] 9);have k3:=zA ((w.alloc (.cells #[.pointer (some ⟨B.pb,0,none⟩)] 68)).alloc (.cells #[.string (str nmI)] 9)) (.cells #[.slice Av nv cv] 23);have K3:=zH (zK k1 (zK k2 k3));have B1:=zH (((Box.new w 68 #[.pointer (some ⟨B.pb,0,none⟩)]).keep k2).keep k3);have B2:=zH (show Box _ (w.heap.size+1) 9 #[.string (str nmI)] from by simpa using (Box.new (w.alloc (.cells #[.pointer (some ⟨B.pb,0,none⟩)] 68)) 9 #[.string (str nmI)]).keep k3);have B3:=zH (show Box _ (w.heap.size+1+1) 23 #[.slice Av nv cv] from by simpa using Box.new ((w.alloc (.cells #[.pointer (some ⟨B.pb,0,none⟩)] 68)).alloc (.cells #[.string (str nmI)] 9)) 23 #[.slice Av nv cv]);have c0:=B1.out.cell 0 rfl;have H:=zH h;have HZ:=zH hZ;have HS:=zH hS;have HN:=zH hN;have HN8:=zH hN8;have HQ:=zH hQ;have SI:=zH s;have OK:=zH hok;have HNI:=zH (And.intro hE (And.intro hR hV));have HD:=zH hdot;have HA:=zH hA;have HC:=zH hC;have HL:=zH hl;have HB:=zH hB;have HF:=zH hF;have HLT:=zH hLT;have HNV:=zH hnv;have OKX:=zH hov;have HCV:=zH hCv;have HLV:=zH hlv;have HI:=zH hI;clear h hZ hS hN hN8 hQ hT hg s hok hE hR hV hdot hA hC hl hB hF hLT hnv hov hCv hlv hI k1 k2 k3;generalize nmG 101 g=nE at *;generalize nmG 114 g=nR at *;generalize nmG 118 g=nV at *;have KP3:=zH (zK H.out.pj.kp K3.out);go_enter Tryz.func24,Tryz.ntmps24;go_wp2_with fail
 refine (GE.out _).mono ?_;rintro e w1 ⟨rfl,rfl⟩;clear GE;go_wp2_with fail
 refine (NME.out _ KP3.out).mono ?_;rintro e w4 ⟨rfl,k4⟩;have K4:=zH k4;clear k4 c0;go_wp2_with fail
 refine (NMR.out _ (zK KP3.out K4.out)).mono ?_;rintro e w5 ⟨rfl,k5⟩;have K5:=zH (zK K4.out k5);clear k5;go_wp2_with fail
 refine (NMV.out _ (zK KP3.out K5.out)).mono ?_;rintro e w6 ⟨rfl,k6⟩;have K6:=zH (zK K5.out k6);clear k6;have kb:=zA w6 (.cells #[.string (str nE), .func (.func 52) #[] #[.pointer (some ⟨w.heap.size,0,none⟩), .pointer (some ⟨w.heap.size+1,0,none⟩)], .string (str nR), .func (.func 54) #[] #[.pointer (some ⟨w.heap.size,0,none⟩), .pointer (some ⟨w.heap.size+1,0,none⟩)], .string (str nV), .func (.func 55) #[] #[.pointer (some ⟨w.heap.size,0,none⟩), .pointer (some ⟨w.heap.size+1+1,0,none⟩)]] 118);have MA:=zH (show MkAt (w6.alloc (.cells #[.string (str nE), .func (.func 52) #[] #[.pointer (some ⟨w.heap.size,0,none⟩), .pointer (some ⟨w.heap.size+1,0,none⟩)], .string (str nR), .func (.func 54) #[] #[.pointer (some ⟨w.heap.size,0,none⟩), .pointer (some ⟨w.heap.size+1,0,none⟩)], .string (str nV), .func (.func 55) #[] #[.pointer (some ⟨w.heap.size,0,none⟩), .pointer (some ⟨w.heap.size+1+1,0,none⟩)]] 118)) S B nmI (str nE) (str nR) (str nV) (.slice Av nv cv) w.heap.size (w.heap.size+1) (w.heap.size+1+1) w6.heap.size from
  ⟨(B1.out.keep K6.out).keep kb,(B2.out.keep K6.out).keep kb,(B3.out.keep K6.out).keep kb,Box.new _ _ _,H.out.lt (Nat.le_refl _),H.out.lt (by omega),H.out.lt (by omega),H.out.lt (zK K3.out K6.out).size⟩)
 have X7:=zH (H.out.keep (zK K3.out (zK K6.out kb)));have T7:=zH (Turns.of_keeps (S:=S) (zK K3.out (zK K6.out kb)));clear kb B1 B2 B3 NME NMR NMV;go_wp2;go_loopw [37] (fun i wr=>∃ (k:Nat) (q:Pst) (V':Vw) (ns':List (List UInt8)) (S':Nat→Prop),k≤3∧i = .int .i64 (k:Int)∧ExS K w0 B N Q A C q V' ns' S' wr∧MkAt wr S' B nmI (str nE) (str nR) (str nV) (.slice Av nv cv) w.heap.size (w.heap.size+1) (w.heap.size+1+1) w6.heap.size∧Turns w wr S S'∧MkSt p V ns l vs nE nR nV k q V' ns') (fun i _=>3-(intOf i).toNat)
 case atStart=>exact ⟨0,p,V,ns,S,Nat.zero_le _,rfl,X7.out,MA.out,T7.out,MkSt.zero p V ns l vs nE nR nV⟩
 case round=>
  obtain ⟨k,q,V',ns',S',hk,rfl,hx,hc,ht,hm⟩:=hrel;have XQ:=zH hx;have CQ:=zH hc;have TQ:=zH ht;have MQ:=zH hm;have c0:=hc.s.cell 0 rfl;have c1:=hc.s.cell 1 rfl;have c2:=hc.s.cell 2 rfl;have c3:=hc.s.cell 3 rfl;have c4:=hc.s.cell 4 rfl;have c5:=hc.s.cell 5 rfl;have NSQ:=zH hm.n;have SIQ:=zH (show IsS V' nmI 20 (l.map edB) from SI.out.at (hm.o nmI (fun e=>HNI.out.1 (e▸HI.out)) (fun e=>HNI.out.2.1 (e▸HI.out)) (fun e=>HNI.out.2.2 (e▸HI.out))));clear hx hc ht hm;rcases (show k=0∨k=1∨k=2∨k=3 by omega) with rfl|rfl|rfl|rfl
  ·have ka:=zA wr (.cells #[.string (str nE), .func (.func 52) #[] #[.pointer (some ⟨w.heap.size,0,none⟩), .pointer (some ⟨w.heap.size+1,0,none⟩)]] 118);have hns:ns'=ns:=NSQ.out;have SO:=zH (zrB PK (XQ.out.keep ka) HZ.out HS.out HN.out HN8.out HQ.out (CQ.out.keep ka) SIQ.out OK.out OKE.out.1 (by rw [hns];exact HNI.out.1) (by rw [hns];exact HD.out) OKE.out.2 (by rw [hns];have:=HA.out;(try simp only [List.length_cons]);omega) HC.out HL.out);have KA:=zH ka;rw [show ((0:Nat):Int)=0 from rfl];clear ka hns hk;go_wp2_with fail
   refine SO.out.mono ?_;rintro e w8 ⟨q8,S8,cc,rfl,t8,r8,x8,d8,o8⟩;have X8:=zH x8;have C8:=zH ((CQ.out.keep KA.out).turn t8);have T8:=zH ((TQ.out.trans (Turns.of_keeps KA.out)).trans t8);have M8:=zH (MQ.out.one r8 d8 o8);clear t8 r8 x8 d8 o8 SO c0 c1 c2 c3 c4 c5;go_wp2;go_roundw
   case rel=>exact ⟨1,q8,_,_,S8,by omega,rfl,X8.out,C8.out,T8.out,M8.out⟩
   case measure=>simp [intOf]
  ·have ka:=zA wr (.cells #[.string (str nR), .func (.func 54) #[] #[.pointer (some ⟨w.heap.size,0,none⟩), .pointer (some ⟨w.heap.size+1,0,none⟩)]] 118);have hns:ns'=nE::ns:=NSQ.out;have SO:=zH (zrC PK (XQ.out.keep ka) HZ.out HS.out HN.out HN8.out HQ.out (CQ.out.keep ka) SIQ.out OK.out OKR.out.1 (by rw [hns];exact fun e=>(List.mem_cons.1 e).elim (fun e=>NE.out.1 e.symm) HNI.out.2.1) (by rw [hns];exact fun x hx=>(List.mem_cons.1 hx).elim (fun e=>e▸OKE.out.2) (HD.out x)) OKR.out.2 (by rw [hns];have:=HA.out;(try simp only [List.length_cons]);omega) HC.out HL.out);have KA:=zH ka;rw [show ((1:Nat):Int)=1 from rfl];clear ka hns hk;go_wp2_with fail
   refine SO.out.mono ?_;rintro e w8 ⟨q8,S8,cc,rfl,t8,r8,x8,d8,o8⟩;have X8:=zH x8;have C8:=zH ((CQ.out.keep KA.out).turn t8);have T8:=zH ((TQ.out.trans (Turns.of_keeps KA.out)).trans t8);have M8:=zH (MQ.out.two NE.out.1 r8 d8 o8);clear t8 r8 x8 d8 o8 SO c0 c1 c2 c3 c4 c5;go_wp2;go_roundw
   case rel=>exact ⟨2,q8,_,_,S8,by omega,rfl,X8.out,C8.out,T8.out,M8.out⟩
   case measure=>simp [intOf]
  ·have ka:=zA wr (.cells #[.string (str nV), .func (.func 55) #[] #[.pointer (some ⟨w.heap.size,0,none⟩), .pointer (some ⟨w.heap.size+1+1,0,none⟩)]] 118);have hns:ns'=nR::nE::ns:=NSQ.out;have SO:=zH (zrD PK (XQ.out.keep ka) HZ.out HS.out HN.out HQ.out (CQ.out.keep ka) OKV.out.1 (by rw [hns];exact fun e=>(List.mem_cons.1 e).elim (fun e=>NE.out.2.2 e.symm) fun e=>(List.mem_cons.1 e).elim (fun e=>NE.out.2.1 e.symm) HNI.out.2.2) (by rw [hns];have:=HA.out;simp only [List.length_cons];omega) ((TQ.out.trans (Turns.of_keeps ka)).at_ HB.out HF.out) (fun ad e=>TQ.out.notIn (HLT.out ad e) (HF.out ad e)) (fun ad e=>Nat.lt_of_lt_of_le (HLT.out ad e) (TQ.out.trans (Turns.of_keeps ka)).only.size) HNV.out OKX.out HCV.out HLV.out);have KA:=zH ka;rw [show ((2:Nat):Int)=2 from rfl];clear ka hns hk;go_wp2_with fail
   refine SO.out.mono ?_;rintro e w8 ⟨q8,V8,S8,rfl,x8,t8,s8,m8,d8,st8⟩;have X8:=zH x8;have C8:=zH ((CQ.out.keep KA.out).turn t8);have T8:=zH ((TQ.out.trans (Turns.of_keeps KA.out)).trans t8);have M8:=zH (MQ.out.three NE.out.2.1 NE.out.2.2 HNI.out.2.2 s8 m8 d8 st8);clear t8 s8 x8 m8 d8 st8 SO c0 c1 c2 c3 c4 c5;go_wp2;go_roundw
   case rel=>exact ⟨3,q8,V8,_,S8,by omega,rfl,X8.out,C8.out,T8.out,M8.out⟩
   case measure=>simp [intOf]
  ·have NS3:=zH (show ns'=nV::nR::nE::ns from NSQ.out);have F:=zH (show MakeV K w0 B N Q A C p V ns S w l vs nE nR nV (.returned (.int .i64 0)) wr from
    ⟨q,V',S',rfl,by have:=XQ.out;rw [NS3.out] at this;exact this,TQ.out,by have:=MQ.out;rw [NS3.out] at this;exact this⟩)
   rw [show ((3:Nat):Int)=3 from rfl];clear c0 c1 c2 c3 c4 c5 hk;go_wp2;go_ret;exact F.out
end
def xN:List UInt8:=[120]
theorem zfg:str xN=⟨#[120]⟩:=rfl
theorem zql:xN.length≤maxLen:=by decide
theorem zkG {n C:Nat} (hn:1≤n∧n≤4096) (hC:C≤1000) (A:Nat):Tid 131072 A C (newPl ⟨[],131072,0,false⟩ n) (fun _=>none) []:=
 ⟨(zmc hn (Nat.le_refl _)).more (Nat.zero_le _) (Nat.zero_le _),List.Pairwise.nil,List.nodup_nil,fun nm=>by simp,Nat.zero_le _,hC⟩
def RawV (K:DiskOk) (w:World) (n:Nat) (l:List Ed) (e:Ending) (w':World):Prop:=
 ∃ (B:PB) (S:Nat→Prop) (p:Pst) (V:Vw),e = .returned (.tuple #[.pointer (some ⟨B.db,0,none⟩), .pointer (some ⟨B.pb,0,none⟩)])∧
  ExS K w B n 131072 1 50 p V [xN] S w'∧IsS V xN 20 (l.map edB)
theorem ziv (K:DiskOk) (PK:PageOk) (w:World) (hZ:K.Z w) (hS:Sizes w) {n:Nat} (hn:1≤n∧n≤4096) {Al:Option Addr} {m c:Nat} {l:List Ed} (hB:At w w.heap.size Al (edsC l)) (hok:∀ e∈l,EdOk e) (hm:m=l.length) (hm6:m≤600) :
 Calls Tryz.prog 23 #[.int .i64 (n:Int), .slice Al m c] w (RawV K w n l):=by
 have NW:=zH (K.new 131072 w hZ (by decide) (by decide));have HZ:=zH hZ;have HSZ:=zH hS;have HN:=zH hn;have HB:=zH hB;have HOK:=zH hok;have HM:=zH hm;have RN:=zH (zpF ⟨[],131072,0,false⟩ hn);have T0:=zH (zkG (C:=50) hn (by decide) 1);have hmi:(m:Int)≤600:=by omega
 clear hZ hS hn hB hok hm;go_enter Tryz.func23,Tryz.ntmps23;go_wp2_with fail
 refine NW.out.mono ?_;rintro e w1 (⟨-,-,b,F,rfl,hD,hF,k1⟩|⟨hbad,-⟩);rotate_left
 ·exfalso;omega
 have HV:=zH (show Have K w w1 b F ⟨[],131072,0,false⟩ from ⟨hD,hF,k1⟩);clear hD hF k1;unfold dpt;have PN:=zH (znw HV.out (n:Int) ⟨by omega,by have:=HN.out;omega⟩);go_wp2_with fail
 refine PN.out.mono ?_;rintro e w2 ⟨k2,⟨-,-,B,Fp,X,sl,rfl,rfl,h2,-⟩|⟨hbad,-⟩⟩;rotate_left
 ·exfalso;have:=HN.out;omega
 rw [Int.toNat_natCast] at h2;have X2:=zH (show ExS K w B n 131072 1 50 (newPl ⟨[],131072,0,false⟩ n) (fun _=>none) [] (Both F Fp) w2 from ⟨⟨F,Fp,X,sl,rfl,h2⟩,RN.out,T0.out,rfl⟩);clear h2 k2 PN HV T0 RN NW;have CR:=zH (zew (nm:=xN) X2.out HZ.out (by decide) (by simp) (by decide));rw [zfg] at CR;generalize newPl ⟨[],131072,0,false⟩ n=p0 at *;go_wp2_with fail
 refine CR.out.mono ?_;rintro e w3 ⟨p3,S3,rfl,h3,-,-,-⟩;have s3:IsS (upV (fun _=>none) xN (some [])) xN 20 []:=zci ⟨by decide,by decide⟩ (zap _ _ _);have X3:=zH h3;have S3':=zH s3;have OP:=zH (zcZ h3.pj HZ.out h3.runs (by decide) zql 20);have e0:openT p3 xN 20=0:=by
  unfold openT;rw [if_neg (by decide),h3.tid.find s3.file]
 rw [zfg,e0] at OP;clear h3 s3 e0 CR X2;generalize upV (fun _=>none) xN (some [])=V3 at *;go_wp2_with fail
 refine OP.out.mono ?_;rintro e w4 ⟨k4,⟨-,-,-,sb,rfl,hs,hlt⟩|⟨hne,-⟩⟩;rotate_left
 ·exact absurd rfl hne
 have hs:StrAt w4 sb B.pb xN 20:=hs;have X4:=zH (X3.out.keep k4);have B4:=zH hs;have N4:=zH (show ¬ S3 sb from fun e=>by have:=X3.out.pj.lt _ e;omega);clear k4 hs hlt OP X3;go_wp2;go_loopw [10] (fun i wr=>∃ (k:Nat) (q:Pst) (V:Vw) (S:Nat→Prop),k≤m∧i = .int .i64 k∧ExS K w B n 131072 1 50 q V [xN] S wr∧StrAt wr sb B.pb xN 20∧¬ S sb∧IsS V xN 20 ((l.take k).map edB)) (fun i _=>m-(intOf i).toNat)
 case atStart=>exact ⟨0,p3,V3,S3,Nat.zero_le _,rfl,X4.out,B4.out,N4.out,S3'.out⟩
 case round=>
  obtain ⟨k,q,V,S,hk,rfl,hx,hb,hns,hs⟩:=hrel;have XQ:=zH hx;have BQ:=zH hb;have NQ:=zH hns;have SQ:=zH hs;clear hx hb hns hs;by_cases hlt:k<m
  ·obtain ⟨x,hx⟩:∃ x,l[k]? = some x:=(⟨_,zG9 (by have:=HM.out;omega)⟩);obtain ⟨ad,rfl,_,hE⟩:=zbJ HB.out hx;obtain ⟨a0,a1,a2,a3⟩:=hE.keep XQ.out.pj.kp;have okx:=HOK.out _ (List.mem_of_getElem? hx);have RE:=zH (zfB x.t x.h x.x x.m okx.t okx.h okx.x okx.m wr);have ET:=zH (show (l.take (k+1)).map edB=(l.take k).map edB++[edB x] by
    rw [List.take_succ_eq_append_getElem (by have:=HM.out;omega)];rw [zG9 (by have:=HM.out;omega)] at hx;rw [Option.some.inj hx,List.map_append];rfl)
   have LK:=zH (show ((l.take k).map edB).length<50*(240/20) by rw [List.length_map,List.length_take];omega);have hkn:(k:Int)<(m:Int):=(by omega);clear hx hE okx;go_wp2_with fail
   refine RE.out.mono ?_;rintro e w5 ⟨v5,rfl,o5,k5⟩;obtain ⟨A5,c5,rfl,hc5,-,-,hbl5⟩:=o5.form;have el:(edgeB x.t x.h x.x x.m).length=20:=zbd x;have AD:=zH (x_add PK (XQ.out.keep k5) HZ.out HSZ.out HN.out.2 (BQ.out.keep k5) NQ.out SQ.out (cr:=c5) (nr:=20) (r:=edB x) (Own.at_ o5) (fun ad h hF=>by have h1:=(hbl5 ad h).2.1;have h2:=XQ.out.pj.lt _ hF;omega) (zbd x).symm (zbd x) LK.out);have B5:=zH (BQ.out.keep k5);rw [el];clear o5 hc5 hbl5 a0 a1 a2 a3 el k5;go_wp2_with fail
   refine AD.out.mono ?_;rintro e w6 ⟨E,q6,V6,S6,rfl,x6,t6,-,⟨rfl,-,s6⟩|⟨-,hbad,-⟩⟩;rotate_left
   ·exact absurd hbad (by decide)
   have X6:=zH x6;have SS6:=zH (show IsS V6 xN 20 ((l.take (k+1)).map edB) by rw [ET.out];exact s6);have B6:=zH (B5.out.turn t6 NQ.out);have N6:=zH (t6.notIn B5.out.lt NQ.out);clear x6 t6 s6;go_wp2_with fail
   refine ⟨⟨k+1,q6,V6,S6,by omega,by go_num,X6.out,B6.out,N6.out,SS6.out⟩,?_⟩;simp [intOf];omega
  ·obtain rfl:k=m:=(by omega);have hall:l.take k=l:=by rw [HM.out,List.take_length]
   have S9:=zH (show IsS V xN 20 (l.map edB) by have:=SQ.out;rwa [hall] at this);clear hall;go_wp2;go_returns;exact ⟨B,S,q,V,rfl,XQ.out,S9.out⟩
theorem GenV.of {p q:Pst} {V V':Vw} {ns ns':List (List UInt8)} {l:List Ed} {vs:List Vt} {nE nR nV:List UInt8} (m:MkSt p V ns l vs nE nR nV 3 q V' ns') (hok:∀ e∈l,EdOk e) (hov:∀ x∈vs,VtOk x) (hl:l.length≤1000000) (hv:vs.length≤1000000) :
 ∃ a b,RedB false l a∧RedB true l b∧GenV V' nE nR nV a b vs∧Tidy q nE∧Tidy q nR∧Tidy q nV:=by
 obtain ⟨a,ha,sa,ta⟩:=m.e (by omega);obtain ⟨b,hb,sb,tb⟩:=m.r (by omega);obtain ⟨sv,tv⟩:=m.v (by omega);exact ⟨a,b,ha,hb,⟨sa,sb,sv,ha.rise,hb.rise,fun e he=>hok e (ha.mem e he),fun e he=>hok e (hb.mem e he),hov,Nat.le_trans ha.len_le hl,Nat.le_trans hb.len_le hl,hv⟩,ta,tb,tv⟩
def one13:List Ed:=[⟨0,1,5,4294967295⟩]
theorem zg3:∀ e∈one13,EdOk e:=by
 intro e he;simp only [one13,List.mem_singleton] at he;subst he;exact ⟨by decide,by decide,by decide,by decide⟩
theorem zrE {a:List Ed} (h:RedB false one13 a):a=[⟨0,1,5,4294967295⟩]:=by
 refine RedB.eq zg3 h ⟨?_,?_,?_,?_,?_⟩
 ·simp [RiseB]
 ·intro e he;simp only [List.mem_singleton] at he;simp [one13,he]
 ·intro e he;simp only [List.mem_singleton] at he;subst he;decide
 ·intro e he f hf;simp only [one13,List.mem_singleton] at he hf;subst he;subst hf;intro hp;simp [betE,betB]
 ·intro f hf hne;simp only [one13,List.mem_singleton] at hf;subst hf;exact ⟨_,List.mem_singleton_self _,rfl,rfl⟩
def two13:List Vt:=[⟨4294967295,0,0⟩,⟨4294967295,0,0⟩]
theorem zjW:∀ x∈two13,VtOk x:=by
 intro x hx;simp only [two13,List.mem_cons,List.not_mem_nil,or_false] at hx;rcases hx with rfl|rfl<;>exact ⟨by decide,by decide,by decide⟩
theorem zrF (K:DiskOk) (PK:PageOk) (w:World) (hZ:K.Z w) (hS:Sizes w) (hT:PowT w):Calls Tryz.prog 5 #[] w (Yes12 w):=by
 have HZ:=zH hZ;have HS:=zH hS;have HT:=zH hT;have kz:=zA w (.cells #[.int .u32 0, .int .u32 1, .int .u64 5, .int .u32 4294967295] 64);have HB:=zH (show At (w.alloc (.cells #[.int .u32 0, .int .u32 1, .int .u64 5, .int .u32 4294967295] 64)) (w.alloc (.cells #[.int .u32 0, .int .u32 1, .int .u64 5, .int .u32 4294967295] 64)).heap.size (some ⟨w.heap.size,0,none⟩) (edsC one13) from At.new _ _ _ _ (by simp));have KZ:=zH kz;clear hZ hS hT kz;go_enter Tryz.func5,Tryz.ntmps5;have RW:=zH (ziv K PK _ (K.keep HZ.out KZ.out) (HS.out.keep KZ.out) (n:=8) ⟨by decide,by decide⟩ (m:=1) (c:=1) HB.out zg3 rfl (by decide));go_wp2_with fail
 refine RW.out.mono ?_;rintro e w1 ⟨B,S,p,V,rfl,x1,s1⟩;have kk:=zH (zK KZ.out x1.pj.kp);have kv:=zA w1 (.cells #[.int .u32 4294967295, .int .u32 0, .int .u32 0, .int .u32 4294967295, .int .u32 0, .int .u32 0] 55);have BV:At (w1.alloc (.cells #[.int .u32 4294967295, .int .u32 0, .int .u32 0, .int .u32 4294967295, .int .u32 0, .int .u32 0] 55)) (w1.alloc (.cells #[.int .u32 4294967295, .int .u32 0, .int .u32 0, .int .u32 4294967295, .int .u32 0, .int .u32 0] 55)).heap.size (some ⟨w1.heap.size,0,none⟩) (vtsC two13):=At.new _ _ _ _ (by simp);have MK:=zH (ziu (cv:=2) PK ((x1.more (A':=70) (C':=50) (by decide) (Nat.le_refl _) (by decide)).keep kv) (K.keep HZ.out KZ.out) (HS.out.keep KZ.out) (HT.out.keep KZ.out) (by decide) (by decide) (by decide) s1 zg3 0 (by decide) (by simp [zcL,xN]) (by simp [zcL,xN]) (by simp [zcL,xN]) (fun x hx=>by rw [List.mem_singleton] at hx;subst hx;unfold Tdot;decide) (by decide) (by decide) (by decide) BV (fun ad e=>by cases e;exact x1.lt (Nat.le_refl _)) (fun ad e=>by cases e;simp) (nv:=2) rfl zjW (by decide) (by decide));rw [zfg,show ((0:Nat):Int)=0 from rfl] at MK;clear x1 s1 kv BV RW;go_wp2_with fail
 refine MK.out.mono ?_;rintro e w2 ⟨q,V',S',rfl,x2,t2,m2⟩;obtain ⟨a,b,ha,hb,G,-,-,-⟩:=GenV.of m2 zg3 zjW (by decide) (by decide);obtain rfl:=zrE ha;have OG:=zH (zit PK x2 (K.keep HZ.out KZ.out) (HS.out.keep KZ.out) (HT.out.keep KZ.out) (by decide) (by decide) 0 (by decide) G);rw [show ((0:Nat):Int)=0 from rfl] at OG;have GG:=zH G;clear x2 t2 m2 ha hb G MK;go_wp2_with fail
 refine OG.out.mono ?_;rintro e w3 ⟨gb,bv,bt,bh,q3,S3,rfl,g3,-,x3,t3,-⟩;have OU:=zH (zlc PK x3 (K.keep HZ.out KZ.out) (HS.out.keep KZ.out) (by decide) (by decide) g3 GG.out 0 (by decide) (by decide) (by decide));rw [show ((0:Nat):Int)=0 from rfl,show outE false 0 [⟨0,1,5,4294967295⟩]=[⟨0,1,5,4294967295⟩] from rfl] at OU;have G3:=zH g3;clear g3 x3 t3 OG;go_wp2_with fail
 refine OU.out.mono ?_;rintro e w4 ⟨u,q4,S4,rfl,o4,f4,x4,t4,-⟩;obtain ⟨A4,c4,rfl,-,-,-,-⟩:=o4.form;have SZ:=zH (zfb (G3.out.turn t4));obtain ⟨ad,hA4,-,hE⟩:=zbJ (Own.at_ o4) (k:=0) (e:=⟨0,1,5,4294967295⟩) rfl;subst hA4;obtain ⟨z0,z1,z2,z3⟩:=(show EdIn w4 ad ⟨0,1,5,4294967295⟩ from hE)
 have KE:=zH (zK KZ.out x4.pj.kp);rw [show two13.length=2 from rfl] at SZ;rw [show ([⟨0,1,5,4294967295⟩]:List Ed).length=1 from rfl];clear o4 f4 x4 t4 OU;go_wp2_with fail
 refine SZ.out.mono ?_;rintro e w5 ⟨rfl,rfl⟩;go_wp2;go_ret;exact ⟨rfl,KE.out⟩
end Go.Proofs.YtjpldnjldindkaaGreatDoor
