/- Package extsort: read, write, begin, drop. -/
import Derived.Test.YtjpldnjldindkaaGreatDoorQExtA
import Derived.Laws.Concat
set_option linter.all false
set_option maxHeartbeats 0
set_option maxRecDepth 100000
namespace Go.Proofs.YtjpldnjldindkaaGreatDoor
open Go.RowKit Go.Sort
def tN (k:Nat):List UInt8:=[116,46]++Lib.decDigits k
theorem tN_ok:∀ k:Fin 100,zaf (tN k.val)=true:=by decide +kernel
theorem tN_ne:∀ k:Fin 100,∀ j:Fin 100,tN k.val=tN j.val→k=j:=by decide +kernel
theorem zbX (k:Nat):(tN k).take 2=[116,46]:=rfl
theorem zml {nm:List UInt8} (h:zaf nm=true):nm.length≤24:=by
 unfold zaf at h;simp only [Bool.and_eq_true,decide_eq_true_eq] at h;omega
section
variable {K:DiskOk} {w0 w w':World} {B:PB} {S S' T:Nat→Prop} {p q:Pst} {N Q A C:Nat} {V:Vw} {ns:List (List UInt8)} {nm:List UInt8} {fb rb wb sb:Nat} {rs:List (List UInt8)}
def SrtAt (w:World) (sb pb ob:Nat) (rv:Value) (made:Nat):Prop:=Box w sb 168 #[.pointer (some ⟨pb,0,none⟩), .func (.func 114) #[] #[.pointer (some ⟨ob,0,none⟩)],rv, .int .i64 (made:Int)]
def ReadV (K:DiskOk) (w0:World) (B:PB) (N Q A C:Nat) (p:Pst) (V:Vw) (ns:List (List UInt8)) (S:Nat→Prop) (w:World) (nm:List UInt8) (rs:List (List UInt8)) (e:Ending) (w':World):Prop:=
 ∃ (E n fb:Nat) (q:Pst) (S':Nat→Prop),e = .returned (.tuple #[.agg #[.pointer (some ⟨fb,0,none⟩), .int .i64 0, .int .i64 (n:Int)], .int .i64 (E:Int)])∧ExS K w0 B N Q A C q V ns S' w'∧Moves (fun _=>False) w w' S S'∧Still p q none∧StrAt w' fb B.pb nm 20∧¬ S' fb∧w.heap.size≤fb∧((E=0∧n=rs.length)∨(E=5∧n=0∧Q<4*(A*C)+4))
theorem zfd (h:ExS K w0 B N Q A C p V ns S w) (s:IsS V nm 20 rs):openT p nm 20=0:=by
 unfold openT;rw [if_neg (by decide),h.tid.find s.file]
theorem ziq (PK:PageOk) (h:ExS K w0 B N Q A C p V ns S w) (hZ:K.Z w0) (hS:Sizes w0) (hN:N≤4096) {ob made:Nat} {rv:Value} (r:SrtAt w sb B.pb ob rv made) (hsb:¬ S sb) (s:IsS V nm 20 rs) :
 Calls Tryz.prog 152 #[.pointer (some ⟨sb,0,none⟩), .string (str nm)] w (ReadV K w0 B N Q A C p V ns S w nm rs):=by
 have kA:=zA w (.cells #[.pointer none, .int .i64 0, .int .i64 0] 224);have BX:=Box.new w 224 #[.pointer none, .int .i64 0, .int .i64 0];have x0:=(Box.keep r kA).cell 0 rfl;have OP:=zH (zcZ (h.pj.keep kA) hZ h.runs (by omega) (h.len24 s) 20);rw [zfd h s] at OP;have HL:=zH (fun (W:World) (k:Keeps w W) (fb:Nat) (b:StrAt W fb B.pb nm 20) (nb:¬ S fb)=>x_len PK (h.keep k) hZ hS hN b nb s);have H:=zH h;have BXH:=zH BX;have KA:=zH kA;clear h r s kA BX;generalize str nm=sv at *;go_enter Tryz.func152,Tryz.ntmps152;go_wp2_with fail
 refine OP.out.mono ?_;rintro e w2 ⟨k2,⟨-,-,-,fb,rfl,hs,hlt⟩|⟨hne,-⟩⟩;rotate_left
 ·exact absurd rfl hne
 have hs:StrAt w2 fb B.pb nm 20:=hs;have hfl:w.heap.size<fb:=by have:=KA.out.size;simp only [World.size_alloc] at hlt this ⊢;omega
 have nfb:¬ S fb:=H.out.lt (Nat.le_of_lt hfl);have K2:=zH (zK KA.out k2);have LN:=zH (HL.out w2 K2.out fb hs nfb);have BX2:=zH (BXH.out.keep k2);have BF:=zH hs;have FL:=zH (And.intro hfl nfb);clear hs hlt hfl nfb OP HL k2;go_wp2_with fail
 refine LN.out.mono ?_;rintro e w3 ⟨E,n,q,S3,rfl,h3,t3,s3,hr⟩;have nw:¬ S w.heap.size:=H.out.lt (Nat.le_refl _);have BX3:=BX2.out.turned t3 nw;have d0:=BX3.cell 0 rfl;have d1:=BX3.cell 1 rfl;have d2:=BX3.cell 2 rfl;have g0:=BX3.frozen 0;have g1:=BX3.frozen 1;have g2:=BX3.frozen 2;have BX4:=zH (((BX3.set 0 (.pointer (some ⟨fb,0,none⟩))).set 1 (.int .i64 0)).set 2 (.int .i64 (n:Int)));have hl2:w.heap.size<w2.heap.size:=Nat.lt_trans FL.out.1 BF.out.lt;have nw3:¬ S3 w.heap.size:=t3.notIn hl2 nw;have H4:=zH (((h3.put ⟨w.heap.size,0,none⟩ (.pointer (some ⟨fb,0,none⟩)) H.out.base nw3).put ⟨w.heap.size,1,none⟩ (.int .i64 0) H.out.base nw3).put ⟨w.heap.size,2,none⟩ (.int .i64 (n:Int)) H.out.base nw3);have M4:=zH (((((Moves.of_keeps K2.out (fun _=>False) S).then (t3.moves _)).put ⟨w.heap.size,0,none⟩ (.pointer (some ⟨fb,0,none⟩)) (.inr (Nat.le_refl _))).put ⟨w.heap.size,1,none⟩ (.int .i64 0) (.inr (Nat.le_refl _))).put ⟨w.heap.size,2,none⟩ (.int .i64 (n:Int)) (.inr (Nat.le_refl _)));have hfw:fb≠w.heap.size:=by have:=FL.out.1;omega
 have F4:=zH (show StrAt (((w3.setCell ⟨w.heap.size,0,none⟩ (.pointer (some ⟨fb,0,none⟩))).setCell ⟨w.heap.size,1,none⟩ (.int .i64 0)).setCell ⟨w.heap.size,2,none⟩ (.int .i64 (n:Int))) fb B.pb nm 20 from
  (((BF.out.turn t3 FL.out.2).far (p:=⟨w.heap.size,0,none⟩) hfw _).far (p:=⟨w.heap.size,1,none⟩) hfw _).far (p:=⟨w.heap.size,2,none⟩) hfw _)
 have N4:=zH (t3.notIn BF.out.lt FL.out.2);have RES:=zH hr;have S3':=zH s3;clear h3 t3 s3 hr BX3 nw nw3 hfw hl2 x0;go_wp2_with fail
 generalize (((w3.setCell ⟨w.heap.size,0,none⟩ (.pointer (some ⟨fb,0,none⟩))).setCell ⟨w.heap.size,1,none⟩ (.int .i64 0)).setCell ⟨w.heap.size,2,none⟩ (.int .i64 (n:Int)))=W4 at *;have d0:=BX4.out.cell 0 rfl;have d1:=BX4.out.cell 1 rfl;have d2:=BX4.out.cell 2 rfl;refine bodyPost_ret (v:=.tuple #[.agg #[.pointer (some ⟨fb,0,none⟩), .int .i64 0, .int .i64 (n:Int)], .int .i64 (E:Int)]) (by simp [results,Tryz.results152,go_sem,d0,d1,d2]) rfl ?_;exact ⟨E,n,fb,q,S3,rfl,H4.out,M4.out,S3'.out,F4.out,N4.out,Nat.le_of_lt FL.out.1,RES.out⟩
def WrtnV (w:World) (pb:Nat) (nm:List UInt8) (e:Ending) (w':World):Prop:=
 ∃ wb fb:Nat,e = .returned (.tuple #[.pointer (some ⟨wb,0,none⟩), .int .i64 0])∧Keeps w w'∧w.heap.size≤wb∧w.heap.size≤fb∧WrAt w' wb fb (0,0)∧StrAt w' fb pb nm 20
theorem zgV (h:ExS K w0 B N Q A C p V ns S w) (hZ:K.Z w0) {ob made:Nat} {rv:Value} (r:SrtAt w sb B.pb ob rv made) (s:IsS V nm 20 rs) (hN:N≤4096) :
 Calls Tryz.prog 120 #[.pointer (some ⟨sb,0,none⟩), .string (str nm)] w (WrtnV w B.pb nm):=by
 have x0:=Box.cell r 0 rfl;have OP:=zH (zcZ h.pj hZ h.runs (by omega) (h.len24 s) 20);rw [zfd h s] at OP;clear h r s;generalize str nm=sv at *;go_enter Tryz.func120,Tryz.ntmps120;go_wp2_with fail
 refine OP.out.mono ?_;rintro e w2 ⟨k2,⟨-,-,-,fb,rfl,hs,hlt⟩|⟨hne,-⟩⟩;rotate_left
 ·exact absurd rfl hne
 have hs:StrAt w2 fb B.pb nm 20:=hs;have k3:=zA w2 (.cells #[.pointer (some ⟨fb,0,none⟩), .int .u32 0, .int .u32 0] 244);have FIN:=zH (show WrtnV w B.pb nm (.returned (.tuple #[.pointer (some ⟨w2.heap.size,0,none⟩), .int .i64 0])) (w2.alloc (.cells #[.pointer (some ⟨fb,0,none⟩), .int .u32 0, .int .u32 0] 244)) from
  ⟨w2.heap.size,fb,rfl,zK k2 k3,k2.size,hlt,Box.new _ _ _,hs.keep k3⟩)
 clear k2 k3 hs hlt;go_wp2;go_returns;exact FIN.out
end
theorem zir:(Tryz.prog.info? 9).map (fun i=>(i.zero,i.size,i.bytes))=some (some (.string ⟨#[]⟩),1,16):=by kernel_rfl
section
variable {K:DiskOk} {w0 w w':World} {B:PB} {S S' T:Nat→Prop} {p q:Pst} {N Q A C:Nat} {V:Vw} {ns:List (List UInt8)} {nm:List UInt8} {fb rb wb sb ob made:Nat} {rv:Value} {rn:List (List UInt8)}
def zaz (w:World) (base:Nat) (rv:Value) (rn:List (List UInt8)):Prop:=RowO w base 9 rv rn.length (rn.map strV)
theorem SrtAt.put2 (h:SrtAt w sb B.pb ob rv made) (v:Value):SrtAt (w.setCell ⟨sb,2,none⟩ v) sb B.pb ob v made:=by
 have:=Box.set h 2 v;simpa [SrtAt] using this
theorem SrtAt.put3 (h:SrtAt w sb B.pb ob rv made):SrtAt (w.setCell ⟨sb,3,none⟩ (.int .i64 ((made:Int)+1))) sb B.pb ob rv (made+1):=by
 have:=Box.set h 3 (.int .i64 ((made:Int)+1));simpa [SrtAt] using this
def zn4 (K:DiskOk) (w0:World) (B:PB) (N Q A C:Nat) (p:Pst) (V:Vw) (ns:List (List UInt8)) (S:Nat→Prop) (w:World) (base sb ob:Nat) (rv:Value) (made:Nat) (rn:List (List UInt8)) (e:Ending) (w':World):Prop:=
 ∃ (q:Pst) (S':Nat→Prop) (rv':Value) (wb fb:Nat),e = .returned (.tuple #[.pointer (some ⟨wb,0,none⟩), .int .i64 0])∧ExS K w0 B N Q A C q (upV V (tN made) (some [])) (tN made::ns) S' w'∧Moves (fun c=>c=sb∨rv.ownBlock=some c) w w' S S'∧Still p q (some (tN made))∧
  SrtAt w' sb B.pb ob rv' (made+1)∧zaz w' base rv' (rn++[tN made])∧(rv'.ownBlock=rv.ownBlock∨∀ g,rv'.ownBlock=some g→w.heap.size≤g)∧(∀ g,rv'.ownBlock=some g→¬ S' g)∧
  WrAt w' wb fb (0,0)∧StrAt w' fb B.pb (tN made) 20∧w.heap.size≤wb∧w.heap.size≤fb∧¬ S' wb∧¬ S' fb
theorem zgW (h:ExS K w0 B N Q A C p V ns S w) (hZ:K.Z w0) (hN:N≤4096) (r:SrtAt w sb B.pb ob rv made) (hsb:¬ S sb) (hs0:w0.heap.size≤sb) {base:Nat} (hb0:w0.heap.size≤base) (hbw:base≤w.heap.size) (o:zaz w base rv rn) (ho:∀ g,rv.ownBlock=some g→¬ S g) (hm:made<100) (hn:tN made∉ns) (hA:ns.length<A) (hl:rn.length≤1000) :
 Calls Tryz.prog 118 #[.pointer (some ⟨sb,0,none⟩)] w (zn4 K w0 B N Q A C p V ns S w base sb ob rv made rn):=by
 have hok:zaf (tN made)=true:=tN_ok ⟨made,hm⟩;have IT:=zH (fun W=>zmT made hm W);have RK:=zH (fun (W:World) (k:Keeps w W)=>And.intro ((Box.keep r k).cell 0 rfl) (And.intro ((Box.keep r k).cell 2 rfl) (And.intro ((Box.keep r k).cell 3 rfl) (And.intro ((Box.keep r k).frozen 2) ((Box.keep r k).frozen 3)))));have CR:=zH (fun (W:World) (k:Keeps w W)=>zew (h.keep k) hZ hok hn hA);have H:=zH h;have HZ:=zH hZ;have HN:=zH hN;have R:=zH r;have NS:=zH (And.intro hsb hs0);have HB:=zH (And.intro hb0 hbw);have O:=zH o;have NO:=zH ho;have HL:=zH hl;have HM:=zH hm;have hmi:(made:Int)<100:=by omega
 have x3:=Box.cell r 3 rfl;have OSB:=zH (zcO o r (by decide));obtain ⟨RA,rc,hrv,-⟩:=o.form;subst hrv;obtain ⟨i0,hi,hz0,hz1,hz2⟩:=info_parts zir;have ecat:(⟨#[116,46]⟩:ByteArray)++str (Lib.decDigits made)=str (tN made):=by
  apply ByteArray.ext;simp [str,tN]
 have hadd:∀ W:World,(Op.stringOp .add ⟨#[116,46]⟩ (str (Lib.decDigits made))).run Tryz.prog W = .ok (.string (str (tN made))) W:=fun W=>by
  have hl24:=zml hok;have e1:(tN made).length=2+(Lib.decDigits made).length:=by simp [tN];omega
  have e2:=run_string_add_sum (P:=Tryz.prog) W ⟨#[116,46]⟩ (str (Lib.decDigits made)) (by rw [zaJ];show 2+_≤_;omega);rw [ecat] at e2;exact e2
 clear h hZ hN r hsb hs0 hb0 hbw o ho hm hn hA hl hok ecat;go_enter Tryz.func118,Tryz.ntmps118;go_wp2_with fail
 refine (IT.out _).mono ?_;rintro e w1 ⟨rfl,g1⟩;have K1:=zH g1.keeps;obtain ⟨y0,y2,y3,y4,y5⟩:=RK.out _ K1.out;clear g1 x3;go_wp2_with fail
 refine (CR.out _ K1.out).mono ?_;rintro e w2 ⟨q2,S2,rfl,h2,t2,s2,-⟩;have R2:=zH (show SrtAt w2 sb B.pb ob (.slice RA rn.length rc) made from (Box.keep R.out K1.out).turned t2 NS.out.1);have nsb2:¬ S2 sb:=t2.notIn (Nat.lt_of_lt_of_le (Box.lt R.out) K1.out.size) NS.out.1;have M2:=(Moves.of_keeps K1.out (fun c=>c=sb∨(Value.slice RA rn.length rc).ownBlock=some c) S).then (t2.moves _);have O2:zaz w2 base (.slice RA rn.length rc) rn:=(O.out.keep K1.out).same (fun g hg=>t2.only.block g (Nat.lt_of_lt_of_le (O.out.lt g hg).2 K1.out.size) (NO.out g hg));have NO2:∀ g,(Value.slice RA rn.length rc).ownBlock=some g→¬ S2 g:=fun g hg=>t2.notIn (Nat.lt_of_lt_of_le (O.out.lt g hg).2 K1.out.size) (NO.out g hg)
 have R3:=zH R2.out.put3;have H3:=zH (h2.put ⟨sb,3,none⟩ (.int .i64 ((made:Int)+1)) NS.out.2 nsb2);have M3:=zH (M2.put ⟨sb,3,none⟩ (.int .i64 ((made:Int)+1)) (.inl (.inl rfl)));have O3:=zH (show zaz (w2.setCell ⟨sb,3,none⟩ (.int .i64 ((made:Int)+1))) base (.slice RA rn.length rc) rn from O2.same (fun g hg=>Below.heap_setCell w2 ⟨sb,3,none⟩ _ g (fun e=>OSB.out (by rw [hg];exact congrArg some e))));have NO3:=zH NO2;have ST:=zH s2;have z2:=Box.cell R2.out 2 rfl;have z3:=Box.cell R2.out 3 rfl;have f3:=Box.frozen R2.out 3;have z2':=Box.cell R3.out 2 rfl;have hls:w2.heap.size=(w2.setCell ⟨sb,3,none⟩ (.int .i64 ((made:Int)+1))).heap.size:=by simp
 have HSZ:=zH hls;have AT1:=zH (show At ((w2.setCell ⟨sb,3,none⟩ (.int .i64 ((made:Int)+1))).alloc (.cells #[.string (str (tN made))] 9)) (w2.heap.size+1) (some ⟨w2.heap.size,0,none⟩) [strV (tN made)] from by
  have:=At.new (w2.setCell ⟨sb,3,none⟩ (.int .i64 ((made:Int)+1))) [strV (tN made)] 9 (w2.heap.size+1) (by simp);rw [←hls] at this;exact this)
 clear h2 t2 s2 nsb2 M2 O2 NO2 hls y0 y2 y3 y4 y5 IT RK CR;go_wp2_with (at_builtin;refine zfN rfl _ _ 74 rfl base 9 i0 (.string ⟨#[]⟩) 16 Tryz.underlying74 hi hz0 hz1 hz2 rfl _ rn.length _ rfl (O3.out.keep (zA _ _)) _ _ 1 1 [strV (tN made)] rfl rfl AT1.out (by intro u hu;rw [List.mem_singleton] at hu;rw [hu];rfl) (by decide) (by have:=HL.out;unfold maxLen;omega) (by have:=HL.out;omega) (by have:=HB.out.2;have:=M3.out.size;simp only [World.size_alloc] at *;omega) ?_)
 intro v6 w6 o6 g6 b6;have kA:Keeps (w2.setCell ⟨sb,3,none⟩ (.int .i64 ((made:Int)+1))) _:=zA _ (.cells #[.string (str (tN made))] 9);have R6:=zH (show SrtAt w6 sb B.pb ob (.slice RA rn.length rc) (made+1) from Box.grownX (Box.keep R3.out kA) g6 OSB.out);have H6:=(H3.out.keep kA).only (zbz g6) (fun i e=>Nat.le_trans HB.out.1 (O3.out.lt i e).1) (fun i hi e=>NO3.out i e hi);have M6:=(M3.out.keep kA).grown g6 (fun g hg=>.inl (.inr hg));have N6:∀ g,v6.ownBlock=some g→¬ S2 g:=fun g hg=>by
  rcases b6 with e|e
  ·exact NO3.out g (e▸hg)
  ·rw [e] at hg;injection hg with hg;exact H3.out.lt (by rw [←HSZ.out];omega)
 have B6:v6.ownBlock=(Value.slice RA rn.length rc).ownBlock∨∀ g,v6.ownBlock=some g→w.heap.size≤g:=by
  rcases b6 with e|e
  ·exact .inl e
  ·refine (.inr fun g hg=>?_);rw [e] at hg;injection hg with hg;have:=M3.out.size;rw [←HSZ.out] at this;omega
 have nsb:¬ S2 sb:=fun e=>by
  have:=(M3.out.notIn (Box.lt R.out) NS.out.1)
  exact this e
 have X6:=zcO o6 R6.out (by decide);have H7:=zH (H6.put ⟨sb,2,none⟩ v6 NS.out.2 nsb);have M7:=zH (M6.put ⟨sb,2,none⟩ v6 (.inl (.inl rfl)));have R7:=zH (R6.out.put2 v6);have hl7:(rn++[tN made]).length=rn.length+1:=by simp
 have O7:=zH (show zaz (w6.setCell ⟨sb,2,none⟩ v6) base v6 (rn++[tN made]) from by
  unfold zaz;rw [hl7,List.map_append];exact o6.same (fun g hg=>Below.heap_setCell w6 ⟨sb,2,none⟩ _ g (fun e=>X6 (by rw [hg];exact congrArg some e))))
 have NB:=zH (And.intro N6 B6);have q2':=Box.cell R6.out 2 rfl;have f2':=Box.frozen R6.out 2;have SF:=zH (zci (nm:=tN made) (size:=20) ⟨by decide,by decide⟩ (zap V (tN made) (some [])));have LW:=zH (show w.heap.size≤(w6.setCell ⟨sb,2,none⟩ v6).heap.size from M7.out.size);obtain ⟨A6,c6,rfl,-⟩:=o6.form;have WR:=zH (zgV H7.out HZ.out R7.out SF.out HN.out);clear o6 g6 b6 kA H6 M6 N6 B6 nsb X6 hl7 z2 z3 f3 z2';go_wp2_with fail
 refine WR.out.mono ?_;rintro e w8 ⟨wb,fb,rfl,k8,hwb,hfb,wr8,st8⟩;have FIN:=zH (show zn4 K w0 B N Q A C p V ns S w base sb ob (.slice RA rn.length rc) made rn (.returned (.tuple #[.pointer (some ⟨wb,0,none⟩), .int .i64 0])) w8 from
  ⟨q2,S2,_,wb,fb,rfl,H7.out.keep k8,M7.out.keep k8,ST.out,Box.keep R7.out k8,O7.out.keep k8,NB.out.2,NB.out.1,wr8,st8,Nat.le_trans LW.out hwb,Nat.le_trans LW.out hfb,H7.out.lt hwb,H7.out.lt hfb⟩)
 clear k8 hwb hfb wr8 st8;go_wp2;go_returns;exact FIN.out
def dropV:List (List UInt8)→Vw→Vw
 | [],V=>V
 | x::l,V=>dropV l (upV V x none)
def dropN:List (List UInt8)→List (List UInt8)→List (List UInt8)
 | [],ns=>ns
 | x::l,ns=>dropN l (ns.erase x)
theorem zez (l:List (List UInt8)) (x:List UInt8):∀ V,dropV (l++[x]) V=upV (dropV l V) x none:=by
 induction l with
 | nil=>intro V;rfl
 | cons y l ih=>intro V;exact ih _
theorem zeA (l:List (List UInt8)) (x:List UInt8):∀ ns,dropN (l++[x]) ns=(dropN l ns).erase x:=by
 induction l with
 | nil=>intro ns;rfl
 | cons y l ih=>intro ns;exact ih _
theorem zf6 (l:List (List UInt8)):∀ (V:Vw) (x:List UInt8),x∈l→dropV l V x=none:=by
 induction l with
 | nil=>intro V x hx;simp at hx
 | cons y l ih=>
  intro V x hx;by_cases h:x∈l
  ·exact ih _ x h
  ·have e:x=y:=(List.mem_cons.1 hx).resolve_right h;subst e;have:∀ (l:List (List UInt8)) (V:Vw),x∉l→dropV l V x=V x:=by
    intro l;induction l with
    | nil=>intro V _;rfl
    | cons z l ih=>
     intro V hz;rw [List.mem_cons,not_or] at hz;show dropV l (upV V z none) x=_;rw [ih _ hz.2,zag _ _ hz.1]
   show dropV l (upV V x none) x=none;rw [this l _ h,zap]
theorem zdI (x:List UInt8) (l:List (List UInt8)):∀ (V:Vw),x∉l→dropV l V x=V x:=by
 induction l with
 | nil=>intro V _;rfl
 | cons z l ih=>
  intro V hz;rw [List.mem_cons,not_or] at hz;show dropV l (upV V z none) x=_;rw [ih _ hz.2,zag _ _ hz.1]
end
section
variable {K:DiskOk} {w0 w w':World} {B:PB} {S S' T:Nat→Prop} {p q:Pst} {N Q A C:Nat} {V:Vw} {ns:List (List UInt8)} {nm:List UInt8} {fb rb wb sb ob made:Nat} {rv:Value} {rn:List (List UInt8)}
theorem zgX {l:List (List UInt8)}:∀ {ns:List (List UInt8)} {x:List UInt8},x∈ns→x∉l→x∈dropN l ns:=by
 induction l with
 | nil=>intro ns x h _;exact h
 | cons y l ih=>
  intro ns x h hn;rw [List.mem_cons,not_or] at hn;exact ih ((List.mem_erase_of_ne hn.1).2 h) hn.2
def DropV (K:DiskOk) (w0:World) (B:PB) (N Q A C:Nat) (p:Pst) (V:Vw) (ns:List (List UInt8)) (S:Nat→Prop) (w:World) (base sb ob made:Nat) (rn:List (List UInt8)) (n:Nat) (e:Ending) (w':World):Prop:=
 ∃ (q:Pst) (S':Nat→Prop) (rv':Value),e = .returned (.int .i64 0)∧ExS K w0 B N Q A C q (dropV (rn.take n) V) (dropN (rn.take n) ns) S' w'∧Moves (fun c=>c=sb) w w' S S'∧StillX (fun x=>x∈rn) p q∧
  SrtAt w' sb B.pb ob rv' made∧zaz w' base rv' (rn.drop n)∧(∀ g,rv'.ownBlock=some g→¬ S' g)
theorem zn5 (h:ExS K w0 B N Q A C p V ns S w) (hZ:K.Z w0) (hN:N≤4096) (r:SrtAt w sb B.pb ob rv made) (hsb:¬ S sb) (hs0:w0.heap.size≤sb) {base:Nat} (o:zaz w base rv rn) (ho:∀ g,rv.ownBlock=some g→¬ S g) (hl:rn.length≤1000) {n:Nat} (hn:n≤rn.length) (hin:∀ x∈rn,x∈ns) (hnd:rn.Nodup) :
 Calls Tryz.prog 162 #[.pointer (some ⟨sb,0,none⟩), .int .i64 (n:Int)] w (DropV K w0 B N Q A C p V ns S w base sb ob made rn n):=by
 have H:=zH h;have HZ:=zH hZ;have HN:=zH hN;have R:=zH r;have NS:=zH (And.intro hsb hs0);have O:=zH o;have NO:=zH ho;have HL:=zH hl;have HNL:=zH hn;have HIN:=zH hin;have HND:=zH hnd;have hni:(n:Int)≤1000:=by omega
 have hsz:(Tryz.prog.info? 9).map (·.size)=some 1:=by kernel_rfl
 have HSZ:=zH hsz;clear h hZ hN r hsb hs0 o ho hl hn hin hnd hsz;go_enter Tryz.func162,Tryz.ntmps162;go_wp2;go_loopw [7] (fun i wr=>∃ (k:Nat) (q:Pst) (S':Nat→Prop) (rv':Value),i = .int .i64 (k:Int)∧k≤n∧ExS K w0 B N Q A C q (dropV (rn.take k) V) (dropN (rn.take k) ns) S' wr∧Moves (fun c=>c=sb) w wr S S'∧StillX (fun x=>x∈rn) p q∧
  SrtAt wr sb B.pb ob rv' made∧zaz wr base rv' (rn.drop k)∧(∀ g,rv'.ownBlock=some g→¬ S' g)) (fun i _=>n-(intOf i).toNat)
 case atStart=>exact ⟨0,p,S,rv,rfl,Nat.zero_le _,H.out,Moves.refl _ _ _,StillX.refl _ _,R.out,O.out,NO.out⟩
 case round=>
  obtain ⟨k,q,S1,rv1,rfl,hk,hx,hm,hs,hr,ho,hno⟩:=hrel;obtain ⟨A1,c1,hrv,hc1,hc2,hA0,hA1⟩:=ho.form;subst hrv;by_cases hlt:k<n
  ·have hlt':(k:Int)<(n:Int):=(by omega);have hkl:k<rn.length:=by have:=HNL.out;omega
   obtain ⟨x,hx1⟩:∃ x,rn[k]? = some x:=(⟨_,zG9 hkl⟩);have hdl:(rn.drop k).length=rn.length-k:=List.length_drop;obtain ⟨m,hm1⟩:∃ m,(rn.drop k).length=m+1:=⟨rn.length-k-1,by omega⟩
   have hd0:rn.drop k=x::rn.drop (k+1):=by
    rw [List.drop_eq_getElem_cons hkl];rw [zG9 hkl] at hx1;rw [Option.some.inj hx1]
   obtain ⟨ad,had,-,hc0⟩:=At.get (RowO.at_ ho) (k:=0) (by rw [List.length_map,hm1];omega);subst had;have e0:ad.add 0=ad:=rfl;have c0:wr.cell? ad=some (.string (str x)):=by
    rw [e0] at hc0;rw [hc0,hd0];rfl
   have hin:x∈dropN (rn.take k) ns:=zgX (HIN.out x (List.mem_of_getElem? hx1)) (fun hmem=>by
    obtain ⟨j,hj⟩:=List.mem_iff_getElem?.1 hmem;rw [List.getElem?_take] at hj;split at hj
    ·rename_i hjk;have:=(List.getElem?_inj hkl HND.out).1 (hx1.trans hj.symm);omega
    ·cases hj)
   have DR:=zH (fun (W:World) (kk:Keeps wr W)=>znT (hx.keep kk) HZ.out HN.out hin);have ET:=zH (show rn.take (k+1)=rn.take k++[x] by
    rw [List.take_succ_eq_append_getElem hkl];rw [zG9 hkl] at hx1;rw [Option.some.inj hx1])
   have nsb:¬ S1 sb:=hm.notIn (Box.lt R.out) NS.out.1;have y0:=Box.cell hr 0 rfl;have y2:=Box.cell hr 2 rfl;rw [hm1] at y2 ho hno hr;have HX:=zH hx;have HM:=zH hm;have HS:=zH hs;have HR:=zH hr;have HO:=zH ho;have HNO:=zH hno;have NSB:=zH nsb;have HC0:=zH c0;have X1:=zH (List.mem_of_getElem? hx1);have HM1:=zH hm1;have HD0:=zH hd0;have hmi:(0:Int)<(m:Int)+1:=by omega
   have HRO:=zH (zcO (show RowO wr base 9 (.slice (some ad) (m+1) c1) (rn.drop k).length ((rn.drop k).map strV) from by rw [hm1];have:=ho;unfold zaz at this;rw [hm1] at this;exact this) hr (by decide));clear hx hm hs ho hno nsb hx1 hm1 hdl hd0 hin hc0 e0 hA0 hA1 hc1 hc2;go_wp2_with fail
   have SK:=zH (fun (W:World) (k:Keeps wr W)=>show W.cell? ⟨sb,0,none⟩=some (.pointer (some ⟨B.pb,0,none⟩))∧W.cell? ⟨sb,2,none⟩=some (.slice (some ad) (m+1) c1)∧W.cell? ad=some (.string (str x)) from ⟨(Box.keep HR.out k).cell 0 rfl,(Box.keep HR.out k).cell 2 rfl,k.cellOf HC0.out⟩);have SM:=zH (fun (W:World) (S2:Nat→Prop) (t:Turns wr.drew W S1 S2)=>show W.cell? ⟨sb,0,none⟩=some (.pointer (some ⟨B.pb,0,none⟩))∧W.cell? ⟨sb,2,none⟩=some (.slice (some ad) (m+1) c1)∧W.cell? ad=some (.string (str x)) from by
    have hb:=Box.turned (Box.keep HR.out (zD wr)) t NSB.out;refine ⟨hb.cell 0 rfl,hb.cell 2 rfl,?_⟩;have hg:=HNO.out ad.block rfl;have hl:=(HO.out.lt ad.block rfl).2;have:=t.only.block ad.block hl hg;rw [←HC0.out];simp only [World.cell?,this];rfl)
   go_region_held3 (fun W=>W.cell? ⟨sb,0,none⟩=some (.pointer (some ⟨B.pb,0,none⟩))∧W.cell? ⟨sb,2,none⟩=some (.slice (some ad) (m+1) c1)∧W.cell? ad=some (.string (str x))) (first|assumption|exact SK.out _ (zD _)) (first
    | (go_at_call 93;refine (DR.out _ (zD _)).mono ?_;rintro ee w2 ⟨q2,S2,rfl,h2,t2,s2⟩;have z2:=SM.out _ _ t2;have H2:=zH h2;have T2:=zH t2;have ST2:=zH s2;clear h2 t2 s2))
   obtain ⟨DA,hDA⟩:∃ DA,(if c1=1 then some ad else (some ad).map fun a=>a.add 1)=DA:=(⟨_,rfl⟩);have hsl:∀ W:World,(Instr.sliceAt 74 (.slice (some ad) (m+1) c1) (some (.int .i64 1)) none none).run Tryz.prog W = .ok (.slice DA m (c1-1)) W:=fun W=>by
    have:=znX (P:=Tryz.prog) 74 9 Tryz.underlying74 HSZ.out (some ad) (m+1) c1 1 (by omega) W;rw [hDA] at this;exact this
   have R2:SrtAt w2 sb B.pb ob (.slice (some ad) (m+1) c1) made:=Box.turned (Box.keep HR.out (zD wr)) T2.out NSB.out;have y2:=Box.cell R2 2 rfl;have f2:=Box.frozen R2 2;have R3:=zH (R2.put2 (.slice DA m (c1-1)));have nsb2:¬ S2 sb:=T2.out.notIn (Box.lt HR.out) NSB.out;have H3:=zH (H2.out.put ⟨sb,2,none⟩ (.slice DA m (c1-1)) NS.out.2 nsb2);have M3:=zH (((HM.out.keep (zD wr)).then (T2.out.moves _)).put ⟨sb,2,none⟩ (.slice DA m (c1-1)) (.inl rfl));have ho1:RowO w2 base 9 (.slice (some ad) (m+1) c1) (m+1) ((rn.drop k).map strV):=by
    have:=HO.out;unfold zaz at this;rw [HM1.out] at this;exact (this.keep (zD wr)).same (fun g hg=>T2.out.only.block g (this.lt g hg).2 (HNO.out g hg))
   have ho2:=ho1.drop (k:=1) (by omega);have O3:=zH (show zaz (w2.setCell ⟨sb,2,none⟩ (.slice DA m (c1-1))) base (.slice DA m (c1-1)) (rn.drop (k+1)) from by
    have e1:(rn.drop (k+1)).length=m:=by rw [List.length_drop];have:=HM1.out;rw [List.length_drop] at this;omega
    have e2:((rn.drop k).map strV).drop 1=(rn.drop (k+1)).map strV:=(by rw [←List.map_drop,List.drop_drop]);unfold zaz;rw [e1,←e2,←hDA];exact ho2.same (fun g hg=>Below.heap_setCell w2 ⟨sb,2,none⟩ _ g (fun e=>by
     have h5:ad.block=g:=by
      by_cases e9:c1=1
      ·rw [if_pos e9] at hg;exact Option.some.inj hg
      ·rw [if_neg e9] at hg;have:=Option.some.inj hg;rw [zbi] at this;exact this
     exact HRO.out (by show some ad.block=some sb;rw [h5];exact congrArg some e))))
   have NO3:=zH (show ∀ g,(Value.slice DA m (c1-1)).ownBlock=some g→¬ S2 g from fun g hg=>by
    have h5:ad.block=g:=by
     rw [←hDA] at hg;by_cases e9:c1=1
     ·rw [if_pos e9] at hg;exact Option.some.inj hg
     ·rw [if_neg e9] at hg;have:=Option.some.inj hg;rw [zbi] at this;exact this
    have hb:=HNO.out ad.block rfl;rw [←h5];exact T2.out.notIn (HO.out.lt ad.block rfl).2 hb)
   have ST3:=zH (HS.out.trans (ST2.out.x (X:=fun x=>x∈rn) X1.out));have EV:=zH (show dropV (rn.take (k+1)) V=upV (dropV (rn.take k) V) x none by rw [ET.out,zez]);have EN:=zH (show dropN (rn.take (k+1)) ns=(dropN (rn.take k) ns).erase x by rw [ET.out,zeA]);clear hDA R2 nsb2 ho1 ho2 z2 SK SM DR c0 hlt;go_wp2;go_roundw
   case rel=>exact ⟨k+1,q2,S2,_,rfl,by omega,by rw [EV.out,EN.out];exact H3.out,M3.out,ST3.out,R3.out,O3.out,NO3.out⟩
   case measure=>simp [intOf];omega
  ·have hlt':¬ (k:Int)<(n:Int):=(by omega);obtain rfl:k=n:=by omega
   have FIN:=zH (show DropV K w0 B N Q A C p V ns S w base sb ob made rn k (.returned (.int .i64 0)) wr from ⟨q,S1,_,rfl,hx,hm,hs,hr,ho,hno⟩);clear hx hm hs hr ho hno hA0 hA1;go_wp2;go_ret;exact FIN.out
end
end Go.Proofs.YtjpldnjldindkaaGreatDoor
