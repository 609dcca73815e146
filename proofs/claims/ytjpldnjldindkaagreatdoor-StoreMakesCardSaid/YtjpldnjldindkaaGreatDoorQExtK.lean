/- Package extsort: keep. -/
import Derived.Test.YtjpldnjldindkaaGreatDoorQExtB
set_option linter.all false
set_option maxHeartbeats 0
set_option maxRecDepth 100000
namespace Go.Proofs.YtjpldnjldindkaaGreatDoor
open Go.RowKit Go.Sort
section
variable {K:DiskOk} {w0 w w':World} {B:PB} {S S' T:Nat→Prop} {p q:Pst} {N Q A C:Nat} {V:Vw} {ns:List (List UInt8)} {nm:List UInt8} {fb rb wb sb ob made base n:Nat} {rv hv:Value} {rn:List (List UInt8)} {hs:List Ed}
structure Kp (w:World) (S:Nat→Prop) (pb base sb ob made:Nat) (rv:Value) (rn:List (List UInt8)) (hv:Value) (n:Nat) (hs:List Ed) (fb:Nat) (nm:List UInt8) (wb:Nat):Prop where
 r:SrtAt w sb pb ob rv made
 o:zaz w base rv rn
 h:Own w base 64 4 hv n (edsC hs)
 f:StrAt w fb pb nm 20
 wr:∃ l,WrAt w wb fb l
 nr:¬ S sb
 no:∀ g,rv.ownBlock=some g→¬ S g
 nh:∀ g,hv.ownBlock=some g→¬ S g
 nf:¬ S fb
 nw:¬ S wb
theorem Kp.keep {pb:Nat} (k:Kp w S pb base sb ob made rv rn hv n hs fb nm wb) (m:Keeps w w'):Kp w' S pb base sb ob made rv rn hv n hs fb nm wb:=
 ⟨Box.keep k.r m,k.o.keep m,k.h.keep m,k.f.keep m,k.wr.imp fun l h=>Box.keep h m,k.nr,k.no,k.nh,k.nf,k.nw⟩
theorem Kp.moved {pb:Nat} (k:Kp w S pb base sb ob made rv rn hv n hs fb nm wb) (m:Moves (fun c=>c=wb) w w' S S') {l:Nat×Nat} (hw:WrAt w' wb fb l):Kp w' S' pb base sb ob made rv rn hv n hs fb nm wb:=by
 obtain ⟨l0,wr⟩:=k.wr;exact ⟨Box.moved k.r m k.nr (zbP k.r wr (by decide)),k.o.moved m (fun g hg=>⟨k.no g hg,fun e=>zcO k.o wr (by decide) (by rw [hg,show g=wb from e])⟩),k.h.moved m (fun g hg=>⟨k.nh g hg,fun e=>zbh k.h wr (by decide) (by rw [hg,show g=wb from e])⟩),
  k.f.moved m k.nf (zbP k.f wr (by decide)),⟨l,hw⟩,m.notIn (Box.lt k.r) k.nr,fun g hg=>m.notIn (k.o.lt g hg).2 (k.no g hg),fun g hg=>m.notIn (k.h.lt g hg).2 (k.nh g hg),m.notIn k.f.lt k.nf,m.notIn (Box.lt wr) k.nw⟩
theorem Kp.left {pb:Nat} (k:Kp w S pb base sb ob made rv rn hv n hs fb nm wb) (m:Moves (fun c=>c=wb) w w' S S'):SrtAt w' sb pb ob rv made∧zaz w' base rv rn∧Own w' base 64 4 hv n (edsC hs)∧∀ g,rv.ownBlock=some g→¬ S' g:=by
 obtain ⟨l0,wr⟩:=k.wr;exact ⟨Box.moved k.r m k.nr (zbP k.r wr (by decide)),k.o.moved m (fun g hg=>⟨k.no g hg,fun e=>zcO k.o wr (by decide) (by rw [hg,show g=wb from e])⟩),k.h.moved m (fun g hg=>⟨k.nh g hg,fun e=>zbh k.h wr (by decide) (by rw [hg,show g=wb from e])⟩),fun g hg=>m.notIn (k.o.lt g hg).2 (k.no g hg)⟩
theorem Moves.with2 {T2:Nat→Prop} (h:Moves T w w' S S') (hT:∀ i,T i→T2 i):Moves T2 w w' S S':=h.wide fun i _ e=>.inr (hT i e)
def KeepV (K:DiskOk) (w0:World) (B:PB) (N Q A C:Nat) (p:Pst) (V:Vw) (ns:List (List UInt8)) (S:Nat→Prop) (w:World) (base sb ob:Nat) (rv:Value) (made:Nat) (rn:List (List UInt8)) (hv:Value) (hd:Bool) (hs:List Ed) (e:Ending) (w':World):Prop:=
 ∃ (E:Nat) (q:Pst) (S':Nat→Prop) (rv':Value) (R:List Ed) (hs':List Ed) (nE:Nat),e = .returned (.int .i64 (E:Int))∧ExS K w0 B N Q A C q (upV V (tN made) (some (zae 12 (R.map edB)))) (tN made::ns) S' w'∧Moves (fun c=>c=sb∨rv.ownBlock=some c∨hv.ownBlock=some c) w w' S S'∧StillX (fun x=>x=tN made) p q∧
  SrtAt w' sb B.pb ob rv' (made+1)∧zaz w' base rv' (rn++[tN made])∧(rv'.ownBlock=rv.ownBlock∨∀ g,rv'.ownBlock=some g→w.heap.size≤g)∧(∀ g,rv'.ownBlock=some g→¬ S' g)∧
  Own w' base 64 4 hv nE (edsC hs')∧(∀ e∈R,e∈hs)∧((E=0∧RedB hd hs R)∨(E=5∧Q<4*(A*C)+4))
theorem zn6 (PK:PageOk) (h:ExS K w0 B N Q A C p V ns S w) (hZ:K.Z w0) (hS:Sizes w0) (hN:N≤4096) (r:SrtAt w sb B.pb ob rv made) (hsb:¬ S sb) (hs0:w0.heap.size≤sb) {bi:Int} (hbi:bi=0∨bi=1) (ho:Box w ob 3 #[.int .i64 bi]) (hob:¬ S ob) (hb0:w0.heap.size≤base) (hbw:base≤w.heap.size) (o:zaz w base rv rn) (hno:∀ g,rv.ownBlock=some g→¬ S g) (hm:made<100) (hn:tN made∉ns) (hA:ns.length<A) (hl:rn.length≤1000)
 {g cap:Nat} (hh:Own w base 64 4 (.slice (some ⟨g,0,none⟩) hs.length cap) hs.length (edsC hs)) (hg:¬ S g) (hC:hs.length≤C*12) (hls:hs.length≤100000) (hok:∀ e∈hs,EdOk e) (hlp:∀ e∈hs,e.t≠e.h) :
 Calls Tryz.prog 154 #[.pointer (some ⟨sb,0,none⟩), .slice (some ⟨g,0,none⟩) hs.length cap] w (KeepV K w0 B N Q A C p V ns S w base sb ob rv made rn (.slice (some ⟨g,0,none⟩) hs.length cap) (decide (bi=1)) hs):=by
 have eg:∀ args w,(callFunc 114 args).run Tryz.prog w = .ok (.enter 114 args) w:=enters_of Tryz.func114 (by kernel_rfl) rfl;have gob:g≠ob:=fun e=>zbh hh ho (by decide) (congrArg some e)
 have gsb:g≠sb:=fun e=>zbh hh r (by decide) (congrArg some e)
 have hro:∀ g',rv.ownBlock=some g'→g'≠g:=fun g' hg' e=>by
  rcases hh.2 with ⟨h0,_⟩|⟨g2,cap2,cur2,fz2,hv2,_,hg2,_⟩
  ·cases h0
  ·injection hv2 with hv2;injection hv2 with hv2;injection hv2 with hv2;obtain ⟨-,A3,cap3,rfl,-,-,⟨rfl,rfl⟩|⟨g3,off3,cur3,fz3,rfl,_,hg3,_⟩⟩:=o
   ·simp [Value.ownBlock] at hg'
   ·simp only [Value.ownBlock,Option.some.injEq] at hg';subst hg';subst e;subst hv2;rw [hg2] at hg3;injection hg3 with hg3;injection hg3 with _ e;exact absurd e (by decide)
 have SO:=zH (zmR (decide (bi=1)) 114 #[.pointer (some ⟨ob,0,none⟩)] g cap base hs w hh (by omega) eg (fun W ow x y=>zmQ x y bi hbi ob W (Box.cell (Box.only ho ow (fun e=>gob (Eq.symm e))) 0 rfl)));have x1:=Box.cell r 1 rfl;have BG:=zH (fun (W:World) (ow:Only w W (fun c=>c=g))=>zgW (h.only ow (fun i e=>by rw [show i=g from e];exact Nat.le_trans hb0 (hh.lt g rfl).1) (fun i hi e=>hg (by rw [←show i=g from e];exact hi))) hZ hN (Box.only r ow (fun e=>gsb (Eq.symm e))) hsb hs0 hb0 (Nat.le_trans hbw ow.size) (o.same (fun g' hg'=>ow.block g' (o.lt g' hg').2 (hro g' hg'))) hno hm hn hA hl);have G:=zH (And.intro hg (And.intro hro gsb));have H:=zH h;have HZ:=zH hZ;have HS:=zH hS;have HN:=zH hN;have NSB:=zH (And.intro hsb hs0);have HB:=zH (And.intro hb0 hbw);have HC:=zH hC;have HOK:=zH hok;have HLP:=zH hlp;have HLT:=zH (And.intro (Box.lt r) (hh.lt g rfl).2);have hli:(hs.length:Int)≤100000:=by omega
 obtain ⟨n,hn0⟩:∃ n,hs.length=n:=⟨_,rfl⟩
 have HN0:=zH hn0;rw [hn0] at SO hli HC ⊢;obtain ⟨ad,had⟩:∃ ad:Addr,(⟨g,0,none⟩:Addr)=ad:=⟨_,rfl⟩
 have HAD:=zH had;rw [had] at SO ⊢;clear had h hZ hS hN r hsb hs0 ho hob hb0 hbw o hno hm hn hA hl hh hg hC hls hok hlp eg gob gsb hro hn0;go_enter Tryz.func154,Tryz.ntmps154;go_wp2_with fail
 refine SO.out.mono ?_;rintro e w1 ⟨rfl,l',hp,hsrt,o1,ow1⟩;have BG1:=zH (BG.out w1 ow1);have HP:=zH hp;have HSRT:=zH hsrt;have O1:=zH o1;have OW1:=zH ow1;clear hp hsrt o1 ow1 x1 SO BG;go_wp2_with fail
 refine BG1.out.mono ?_;rintro e w2 ⟨q2,S2,rv2,wb,fb,rfl,h2,m2,s2,r2,o2,b2,no2,wr2,st2,hwb,hfb,nw2,nf2⟩;obtain ⟨nm,hnm⟩:∃ nm,tN made=nm:=⟨_,rfl⟩
 have HNM:=zH hnm;rw [hnm] at h2 s2 o2 st2;have O1':Own w1 base 64 4 (.slice (some ad) n cap) n (edsC l'):=O1.out;have KP:Kp w2 S2 B.pb base sb ob (made+1) rv2 (rn++[nm]) (.slice (some ad) n cap) n l' fb nm wb:=by
  have hgg:∀ g',(Value.slice (some ad) n cap).ownBlock=some g'→g'=g:=fun g' e=>by
   rw [←HAD.out] at e;exact (Option.some.inj e).symm
  refine ⟨r2,o2,O1'.moved m2 (fun g' e=>?_),st2,⟨_,wr2⟩,m2.notIn (Nat.lt_of_lt_of_le HLT.out.1 OW1.out.size) NSB.out.1,no2,fun g' e=>?_,nf2,nw2⟩
  ·rw [hgg g' e];exact ⟨G.out.1,fun e2=>e2.elim G.out.2.2 (fun e3=>G.out.2.1 g e3 rfl)⟩
  ·rw [hgg g' e];exact m2.notIn (Nat.lt_of_lt_of_le HLT.out.2 OW1.out.size) G.out.1
 have M2:=zH (((Moves.of_only OW1.out S).with2 (T2:=fun c=>c=sb∨rv.ownBlock=some c∨(Value.slice (some ad) n cap).ownBlock=some c) (fun i e=>.inr (.inr (by rw [←HAD.out];exact congrArg some (Eq.symm e))))).then (m2.with2 (fun i e=>e.elim .inl (fun e=>.inr (.inl e)))));have H2:=zH h2;have S2':=zH (s2.x (X:=fun x=>x=nm) rfl);have KP2:=zH KP;have W2:=zH wr2;have BB:=zH (And.intro b2 (And.intro hwb hfb));have SZ:=zH (show w.heap.size≤w1.heap.size from OW1.out.size);have LN:=zH (show l'.length=n by rw [←HN0.out];exact HP.out.length_eq.symm);have HE:=zH O1';clear h2 m2 s2 r2 o2 b2 no2 wr2 st2 hwb hfb nw2 nf2 O1 O1' KP OW1 BG1 hnm;have E0:=zH (show zae 12 ((uniqE (l'.take 0)).map edB)=[] by rw [List.take_zero];rfl);have FIN:=zH (fun (E:Nat) (q:Pst) (S1:Nat→Prop) (W:World) (R:List Ed) (hx:ExS K w0 B N Q A C q (upV V nm (some (zae 12 (R.map edB)))) (nm::ns) S1 W) (hm:Moves (fun c=>c=sb∨rv.ownBlock=some c∨(Value.slice (some ad) n cap).ownBlock=some c) w W S S1) (hst:StillX (fun x=>x=nm) p q) (hkp:SrtAt W sb B.pb ob rv2 (made+1)∧zaz W base rv2 (rn++[nm])∧Own W base 64 4 (.slice (some ad) n cap) n (edsC l')∧∀ g,rv2.ownBlock=some g→¬ S1 g) (hR:∀ e∈R,e∈hs) (hE:(E=0∧RedB (decide (bi=1)) hs R)∨(E=5∧Q<4*(A*C)+4))=>
  show KeepV K w0 B N Q A C p V ns S w base sb ob rv made rn (.slice (some ad) n cap) (decide (bi=1)) hs (.returned (.int .i64 (E:Int))) W from by
   obtain rfl:=HNM.out;refine ⟨E,q,S1,rv2,R,l',n,rfl,hx,hm,hst,hkp.1,hkp.2.1,?_,hkp.2.2.2,hkp.2.2.1,hR,hE⟩;exact BB.out.1.imp id fun h g hg=>Nat.le_trans SZ.out (h g hg))
 go_wp2;go_loopw [26] (fun i wr=>∃ (k:Nat) (q:Pst) (S1:Nat→Prop),i = .int .i64 (k:Int)∧k≤n∧ExS K w0 B N Q A C q (upV V nm (some (zae 12 ((uniqE (l'.take k)).map edB)))) (nm::ns) S1 wr∧Moves (fun c=>c=sb∨rv.ownBlock=some c∨(Value.slice (some ad) n cap).ownBlock=some c) w wr S S1∧StillX (fun x=>x=nm) p q∧
  IsS (upV V nm (some (zae 12 ((uniqE (l'.take k)).map edB)))) nm 20 ((uniqE (l'.take k)).map edB)∧Kp wr S1 B.pb base sb ob (made+1) rv2 (rn++[nm]) (.slice (some ad) n cap) n l' fb nm wb∧WrAt wr wb fb (lastP (uniqE (l'.take k)))) (fun i _=>n-(intOf i).toNat)
 case atStart=>exact ⟨0,q2,S2,rfl,Nat.zero_le _,by rw [E0.out];exact H2.out,M2.out,S2'.out,by rw [E0.out];exact zci ⟨by decide,by decide⟩ (zap _ _ _),KP2.out,W2.out⟩
 case round=>
  obtain ⟨k,q,S1,rfl,hk,hx,hm,hst,his,hkp,hw⟩:=hrel;by_cases hlt:k<n
  ·have hlt':(k:Int)<(n:Int):=(by omega);obtain ⟨x,hx1⟩:∃ x,l'[k]? = some x:=⟨_,zG9 (by have:=LN.out;omega)⟩
   obtain ⟨ad',hadE,_,hE⟩:=zbJ (Own.at_ hkp.h) hx1;obtain rfl:=Option.some.inj hadE;obtain ⟨a0,a1,a2,a3⟩:=hE;have hxm:x∈hs:=HP.out.symm.subset (List.mem_of_getElem? hx1);have ET:l'.take (k+1)=l'.take k++[x]:=by
    rw [List.take_succ_eq_append_getElem (by have:=LN.out;omega)];rw [zG9 (by have:=LN.out;omega)] at hx1;rw [Option.some.inj hx1]
   have EU:=zH (show uniqE (l'.take (k+1))=stepU (uniqE (l'.take k)) x by rw [ET,zbj]);have hlen:(uniqE (l'.take k)).length<C*12:=by
    have h1:=zmJ (l'.take k);have h2:(l'.take k).length≤k:=by rw [List.length_take];omega
    have:=HC.out;omega
   have PT:=zH (fun (W:World) (kk:Keeps wr W)=>zjQ PK (hx.keep kk) HZ.out HS.out HN.out (hkp.f.keep kk) hkp.nf (Box.keep hw kk) hkp.nw (Nat.le_trans H.out.base (Nat.le_trans SZ.out BB.out.2.1)) his x (HOK.out x hxm) (by have:=zhK (uniqE (l'.take k)) x;omega));have HM:=zH hm;have HST:=zH hst;have HKP:=zH hkp;have HXM:=zH hxm;clear hx hm hst his hkp hw hx1 hxm ET hlen hadE;unfold edG at PT;go_wp2_with fail
   refine (PT.out _ (zA _ _)).mono ?_;rintro e w3 ⟨E,q3,V3,S3,rfl,h3,m3,s3,hres⟩;have M3:=zH (HM.out.trans ((Moves.of_keeps (zA wr _) (fun c=>c=wb) S1).then m3) (fun i e=>.inr (.inr (by rw [show i=wb from e];exact Nat.le_trans SZ.out BB.out.2.1))));have ST3:=zH (HST.out.trans (s3.x (X:=fun x=>x=nm) rfl));rcases hres with ⟨rfl,hV,hI,hW⟩|⟨rfl,hQ,hV⟩
   ·rw [zgS] at hV;subst hV;have K3:=zH ((HKP.out.keep (zA wr _)).moved m3 hW);have X3:=zH h3;have I3:=zH hI;have W3:=zH hW;have EL:=zH (show lastP (uniqE (l'.take (k+1)))=(x.t,x.h) by rw [EU.out,zgh]);clear h3 m3 s3 hI hW a0 a1 a2 a3 hlt;go_wp2;go_roundw
    case rel=>exact ⟨k+1,q3,S3,rfl,by omega,by rw [EU.out];exact X3.out,M3.out,ST3.out,by rw [EU.out];exact I3.out,K3.out,by rw [EL.out];exact W3.out⟩
    case measure=>simp [intOf];omega
   ·subst hV;have F:=zH (FIN.out 5 q3 S3 w3 (uniqE (l'.take k)) h3 M3.out ST3.out ((HKP.out.keep (zA wr _)).left m3) (fun e he=>HP.out.symm.subset (List.mem_of_mem_take (zeR _ _ he))) (.inr ⟨rfl,hQ⟩));clear h3 m3 s3 a0 a1 a2 a3 hlt FIN;go_wp2;go_ret;exact F.out
  ·have hlt':¬ (k:Int)<(n:Int):=(by omega);obtain rfl:k=n:=by omega
   have e1:l'.take k=l':=(by rw [←LN.out,List.take_length]);rw [e1] at hx;have hred:=zeS (decide (bi=1)) l' HSRT.out (fun e he=>HLP.out e (HP.out.symm.subset he));have F:=zH (FIN.out 0 q S1 wr (uniqE l') hx hm hst ⟨hkp.r,hkp.o,hkp.h,hkp.no⟩ (fun e he=>HP.out.symm.subset (zeR _ _ he)) (.inl ⟨rfl,hred.congr (fun e=>HP.out.symm.mem_iff)⟩));clear hx hm hst his hkp hw e1 hred FIN;go_wp2;go_ret;exact F.out
end
def tNs (made:Nat):List (List UInt8):=(List.range made).map tN
theorem zeb (m:Nat):(tNs m).length=m:=by simp [tNs]
theorem zdx (m:Nat):tNs (m+1)=tNs m++[tN m]:=by simp [tNs,List.range_succ]
theorem tNs_mem {m:Nat} {x:List UInt8}:x∈tNs m↔∃ k,k<m∧x=tN k:=by
 simp only [tNs,List.mem_map,List.mem_range];exact ⟨fun ⟨k,h,e⟩=>⟨k,h,e.symm⟩,fun ⟨k,h,e⟩=>⟨k,h,e.symm⟩⟩
theorem zgY {j k:Nat} (hj:j<100) (hk:k<100) (h:tN j=tN k):j=k:=by
 have:=tN_ne ⟨j,hj⟩ ⟨k,hk⟩ h;exact congrArg Fin.val this
structure RunIs (V:Vw) (hd:Bool) (l:List Ed) (nm:List UInt8) (R:List Ed):Prop where
 file:IsS V nm 20 (R.map edB)
 red:RedB hd R R
 ne:R≠[]
 mem:∀ e∈R,e∈l
def RunsIs (V:Vw) (hd:Bool) (l:List Ed) (rn:List (List UInt8)) (Rs:List (List Ed)):Prop:=rn.length=Rs.length∧∀ (i:Nat) (nm:List UInt8) (R:List Ed),rn[i]? = some nm→Rs[i]? = some R→RunIs V hd l nm R
theorem RunsIs.nil (V:Vw) (hd:Bool) (l:List Ed):RunsIs V hd l [] []:=⟨rfl,fun i nm R h=>by simp at h⟩
theorem IsS.beside {V:Vw} {nm x:List UInt8} {size:Nat} {rs:List (List UInt8)} (h:IsS V nm size rs) {a:Option (List (List UInt8))} (hne:nm≠x):IsS (upV V x a) nm size rs:=⟨h.siz,h.recs,by rw [zag _ _ hne];exact h.file⟩
theorem RunsIs.snoc {V:Vw} {hd:Bool} {l:List Ed} {rn:List (List UInt8)} {Rs:List (List Ed)} {nm:List UInt8} {R:List Ed} (h:RunsIs V hd l rn Rs) (hn:nm∉rn) (hred:RedB hd R R) (hne:R≠[]) (hm:∀ e∈R,e∈l):RunsIs (upV V nm (some (zae 12 (R.map edB)))) hd l (rn++[nm]) (Rs++[R]):=by
 refine ⟨by simp [h.1],fun i x R' hx hR=>?_⟩;by_cases hi:i<rn.length
 ·rw [List.getElem?_append_left hi] at hx;rw [List.getElem?_append_left (by rw [←h.1];exact hi)] at hR;have:=h.2 i x R' hx hR;exact ⟨this.file.beside (fun e=>hn (e▸List.mem_of_getElem? hx)),this.red,this.ne,this.mem⟩
 ·have hi2:i=rn.length:=by
   have:=(zI9.1 hx).1;simp at this;omega
  subst hi2;rw [List.getElem?_append_right (Nat.le_refl _),Nat.sub_self] at hx;rw [h.1,List.getElem?_append_right (Nat.le_refl _),Nat.sub_self] at hR;simp only [List.getElem?_cons_zero,Option.some.injEq] at hx hR;subst hx;subst hR;exact ⟨⟨⟨by decide,by decide⟩,fun r hr=>by
   obtain ⟨e,-,rfl⟩:=List.mem_map.1 hr;exact zbd e,zap _ _ _⟩,hred,hne,hm⟩
theorem zcu (A:Option Addr) (n m c d:Nat):(Value.slice A n c).ownBlock=(Value.slice A m d).ownBlock:=by cases A<;>rfl
theorem zrz {P:Program} (t e:TypeId) (ht:P.underlying t=some (.slice e)) (he:(P.info? e).map (·.size)=some 4) (A:Option Addr) (n c k:Nat) (hk:k≤c) (w:World) :
 (Instr.sliceAt t (.slice A n c) none (some (.int .i64 (k:Int))) none).run P w = .ok (.slice A k c) w:=by
 have he':P.elem t=e:=by simp [Program.elem,ht]
 have ht':P.underlying t=some (.slice (P.elem t)):=by rw [he'];exact ht
 obtain ⟨i,hi,hs⟩:=Option.map_eq_some_iff.1 he;rw [run_sliceAt_slice (h:=ht'),run_slice_h (ht:=ht') (h0:=by omega) (h2:=by omega)];rw [he'];cases A with
 | none=>simp [sizeOf,typeInfo,hi,hs,sliced]
 | some ad=>simp [sizeOf,typeInfo,hi,hs,sliced,Addr.add]
section
variable {K:DiskOk} {w0 w w':World} {B:PB} {S S' T:Nat→Prop} {p q:Pst} {N Q A C:Nat} {V:Vw} {ns:List (List UInt8)} {nm:List UInt8} {fb rb wb sb ob made base n:Nat} {rv hv:Value} {rn:List (List UInt8)} {hs:List Ed}
theorem zf7 (h:ExS K w0 B N Q A C p V ns S w):Calls Tryz.prog 88 #[.pointer (some ⟨B.pb,0,none⟩)] w fun e w'=>e = .returned (.int .i64 (N:Int))∧Keeps w w':=by
 have hl:=h.runs.len;obtain ⟨Fd,Fp,X,sl,rfl,hp⟩:=h.pj;have:=zl5 hp
 rwa [hl] at this
def Tdot (x:List UInt8):Prop:=x.take 2=[116,46]
structure SpI (K:DiskOk) (w0:World) (B:PB) (N Q A C:Nat) (p:Pst) (V:Vw) (ns:List (List UInt8)) (S:Nat→Prop) (w:World) (sb ob:Nat) (bi:Int) (l:List Ed) (made:Nat) (Rs:List (List Ed)) (q:Pst) (V1:Vw) (S1:Nat→Prop) (rv:Value) (wr:World):Prop where
 ex:ExS K w0 B N Q A C q V1 ((tNs made).reverse++ns) S1 wr
 st:StillX Tdot p q
 vs:∀ x,x∉tNs made→V1 x=V x
 r:SrtAt wr sb B.pb ob rv made
 o:zaz wr w.heap.size rv (tNs made)
 bx:Box wr ob 3 #[.int .i64 bi]
 nr:¬ S1 sb
 no:∀ g,rv.ownBlock=some g→¬ S1 g
 nb:¬ S1 ob
 runs:RunsIs V1 (decide (bi=1)) l (tNs made) Rs
theorem StillX.mono {X Y:List UInt8→Prop} (h:StillX X p q) (hX:∀ x,X x→Y x):StillX Y p q:=fun x hx hd=>h x (fun e=>hx (hX x e)) hd
theorem SpI.moved {bi:Int} {l:List Ed} {Rs:List (List Ed)} {V1:Vw} {S1 S2:Nat→Prop} {wr W:World} {q2:Pst} (h:SpI K w0 B N Q A C p V ns S w sb ob bi l made Rs q V1 S1 rv wr) (m:Moves T wr W S1 S2) (ex:ExS K w0 B N Q A C q2 V1 ((tNs made).reverse++ns) S2 W) (st:StillX Tdot q q2) (hT:∀ c,T c→Ty wr c 224∨Ty wr c 64):SpI K w0 B N Q A C p V ns S w sb ob bi l made Rs q2 V1 S2 rv W:=
 ⟨ex,h.st.trans st,h.vs,Box.moved h.r m h.nr (fun e=>(hT _ e).elim (fun t=>Ty.ne (Box.ty h.r) t (by decide) rfl) (fun t=>Ty.ne (Box.ty h.r) t (by decide) rfl)),
  h.o.moved m (fun g hg=>⟨h.no g hg,fun e=>(hT _ e).elim (fun t=>Ty.ne (RowO.ty h.o hg) t (by decide) rfl) (fun t=>Ty.ne (RowO.ty h.o hg) t (by decide) rfl)⟩),
  Box.moved h.bx m h.nb (fun e=>(hT _ e).elim (fun t=>Ty.ne (Box.ty h.bx) t (by decide) rfl) (fun t=>Ty.ne (Box.ty h.bx) t (by decide) rfl)),
  m.notIn (Box.lt h.r) h.nr,fun g hg=>m.notIn (h.o.lt g hg).2 (h.no g hg),m.notIn (Box.lt h.bx) h.nb,h.runs⟩
theorem SpI.names {bi:Int} {l:List Ed} {Rs:List (List Ed)} {V1:Vw} {S1:Nat→Prop} {wr:World} (h:SpI K w0 B N Q A C p V ns S w sb ob bi l made Rs q V1 S1 rv wr) (hm:made≤50) (hA:ns.length+58≤A) (hdot:∀ x∈ns,¬ Tdot x):tN made∉(tNs made).reverse++ns∧((tNs made).reverse++ns).length<A:=by
 refine ⟨fun hx=>?_,by rw [List.length_append,List.length_reverse,zeb];omega⟩;rcases List.mem_append.1 hx with hx|hx
 ·obtain ⟨k,hk,e⟩:=tNs_mem.1 (List.mem_reverse.1 hx);have:=zgY (by omega) (by omega) e;omega
 ·exact hdot _ hx (zbX made)
def zfe (K:DiskOk) (w0:World) (B:PB) (N Q A C:Nat) (p:Pst) (V:Vw) (ns:List (List UInt8)) (S:Nat→Prop) (w:World) (sb ob:Nat) (bi:Int) (l:List Ed) (e:Ending) (w':World):Prop:=
 ∃ (E made:Nat) (Rs:List (List Ed)) (q:Pst) (V1:Vw) (S1:Nat→Prop) (rv:Value),e = .returned (.int .i64 (E:Int))∧made≤12∧Moves (fun c=>c=sb) w w' S S1∧
  ((E=0∧SpI K w0 B N Q A C p V ns S w sb ob bi l made Rs q V1 S1 rv w'∧CvrE l Rs.flatten)∨
   (E=5∧Q<4*(A*C)+4∧ExS K w0 B N Q A C q V1 ((tNs made).reverse++ns) S1 w'∧StillX Tdot p q∧(∀ x,x∉tNs made→V1 x=V x)∧SrtAt w' sb B.pb ob rv made∧zaz w' w.heap.size rv (tNs made)∧(∀ g,rv.ownBlock=some g→¬ S1 g)))
theorem zmm (PK:PageOk) (h:ExS K w0 B N Q A C p V ns S w) (hZ:K.Z w0) (hS:Sizes w0) (hN:N≤4096) (hN8:8≤N) (r:SrtAt w sb B.pb ob (.slice none 0 0) 0) (hsb:¬ S sb) (hs0:w0.heap.size≤sb) {bi:Int} (hbi:bi=0∨bi=1) (ho:Box w ob 3 #[.int .i64 bi]) (hob:¬ S ob)
 {l:List Ed} (s:IsS V nm 20 (l.map edB)) (hok:∀ e∈l,EdOk e) (hl:l.length≤1000) (hC:l.length≤12*C) (hA:ns.length+58≤A) (hdot:∀ x∈ns,¬ Tdot x) :
 Calls Tryz.prog 117 #[.pointer (some ⟨sb,0,none⟩), .string (str nm)] w (zfe K w0 B N Q A C p V ns S w sb ob bi l):=by
 have RD:=zH (ziq PK h hZ hS hN r hsb s);have H:=zH h;have HZ:=zH hZ;have HS:=zH hS;have HN:=zH (And.intro hN hN8);have R:=zH r;have NSB:=zH (And.intro hsb hs0);have BI:=zH hbi;have OB:=zH (And.intro ho hob);have SI:=zH s;have OK:=zH hok;have HL:=zH (And.intro hl hC);have HA:=zH (And.intro hA hdot);have hll:(l.length:Int)≤1000:=by omega
 have hni:(N:Int)≤4096:=by omega
 have hni8:(8:Int)≤(N:Int):=by omega
 clear h hZ hS hN hN8 r hsb hs0 hbi ho hob s hok hl hC hA hdot;generalize str nm=sv at *;go_enter Tryz.func117,Tryz.ntmps117;go_wp2_with fail
 refine RD.out.mono ?_;rintro e w1 ⟨E,n,fb,q1,S1,rfl,h1,m1,s1,b1,nf1,hfb,⟨rfl,rfl⟩|⟨rfl,rfl,hQ⟩⟩;rotate_left
 ·have k2:=zA w1 (.cells #[.pointer (some ⟨fb,0,none⟩), .int .i64 0, .int .i64 0] 224);have F:=zH (show zfe K w0 B N Q A C p V ns S w sb ob bi l (.returned (.int .i64 ((5:Nat):Int))) (w1.alloc (.cells #[.pointer (some ⟨fb,0,none⟩), .int .i64 0, .int .i64 0] 224)) from
   ⟨5,0,[],q1,V,S1, .slice none 0 0,rfl,by decide,(m1.with2 (fun i e=>e.elim)).keep k2, .inr ⟨rfl,hQ,h1.keep k2,s1.x0 _,fun x _=>rfl,(R.out.moved m1 NSB.out.1 id).keep k2,RowO.nil _ _ _,fun g hg=>by simp [Value.ownBlock] at hg⟩⟩)
  clear h1 m1 s1 b1 nf1 hfb hQ k2;go_wp2;go_ret;exact F.out
 rw [List.length_map] at *;have k2:=zA w1 (.cells #[.pointer (some ⟨fb,0,none⟩), .int .i64 0, .int .i64 (l.length:Int)] 224);have RB:=Box.new w1 224 #[.pointer (some ⟨fb,0,none⟩), .int .i64 0, .int .i64 (l.length:Int)];have h2:=h1.keep k2;have m2:=(m1.with2 (T2:=fun c=>c=sb) (fun i e=>e.elim)).keep k2;have r2:SrtAt _ sb B.pb ob (.slice none 0 0) 0:=Box.keep (Box.moved R.out m1 NSB.out.1 id) k2;have o2:=Box.keep (Box.moved OB.out.1 m1 OB.out.2 id) k2;have b2:=b1.keep k2;have rd2:RdAt (w1.alloc (.cells #[.pointer (some ⟨fb,0,none⟩), .int .i64 0, .int .i64 (l.length:Int)] 224)) w1.heap.size 224 #[.pointer (some ⟨fb,0,none⟩), .int .i64 0, .int .i64 (l.length:Int)] fb 0 l.length:=⟨RB,rfl,rfl,rfl⟩
 have nb2:¬ S1 w1.heap.size:=h1.lt (Nat.le_refl _);have nsb2:¬ S1 sb:=m1.notIn (Box.lt R.out) NSB.out.1;have nob2:¬ S1 ob:=m1.notIn (Box.lt OB.out.1) OB.out.2;have hwr:w.heap.size≤w1.heap.size:=m1.size;have x0:=Box.cell r2 0 rfl;have y2:=(rd2.cells).2.2.1;clear k2 RB h1 m1 b1 RD;go_wp2_with fail
 obtain ⟨rb,hrb⟩:∃ rb,w1.heap.size=rb:=⟨_,rfl⟩
 rw [hrb] at rd2 nb2 hwr y2 ⊢;generalize w1.alloc (.cells #[.pointer (some ⟨fb,0,none⟩), .int .i64 0, .int .i64 (l.length:Int)] 224)=W2 at *;obtain ⟨P12,hP⟩:∃ P12:Nat,P12=12*N:=⟨_,rfl⟩
 have hPi:(12:Int)*(N:Int)=(P12:Int):=by omega
 have hPw:IntKind.i64.wrap (P12:Int)=(P12:Int):=IntWalk.i64_in _ (by omega);obtain ⟨most,hmo⟩:∃ most:Nat,most=min P12 l.length:=⟨_,rfl⟩
 have hmin:∀ (ts:Array TypeId) (t:TypeId) (W:World),(Builtin.min_ ts t #[.int .i64 (P12:Int), .int .i64 (l.length:Int)]).run Tryz.prog W = .ok (.int .i64 (most:Int)) W:=by
  intro ts t W;rw [run_min_int2];congr 2
  split<;>omega
 have MO:=zH (show most≤l.length∧(most=l.length∨96≤most) by have:=HN.out.2;omega);have SK:=zH (fun (W:World) (k:Keeps W2 W)=>show W.cell? ⟨sb,0,none⟩=some (.pointer (some ⟨B.pb,0,none⟩))∧W.cell? ⟨rb,2,none⟩=some (.int .i64 (l.length:Int)) from ⟨(Box.keep r2 k).cell 0 rfl,(rd2.keep k).cells.2.2.1⟩);have FR:=zH (fun (W:World) (k:Keeps W2 W)=>zf7 (h2.keep k));have H2:=zH h2;have M2:=zH m2;have R2:=zH r2;have O2:=zH o2;have B2:=zH b2;have RD2:=zH rd2;have NN:=zH (And.intro nb2 (And.intro nsb2 (And.intro nob2 nf1)));have HWR:=zH (And.intro hwr hfb);have S1':=zH s1;clear h2 m2 r2 o2 b2 rd2 nb2 nsb2 nob2 nf1 hwr hfb s1 hmo hP hrb;go_region_held3 (fun W=>W.cell? ⟨sb,0,none⟩=some (.pointer (some ⟨B.pb,0,none⟩))∧W.cell? ⟨rb,2,none⟩=some (.int .i64 (l.length:Int))) (first|assumption|exact SK.out _ (zD _)) (first
  | (go_at_call 88;refine (FR.out _ (zD _)).mono ?_;rintro ee w3 ⟨rfl,k3⟩;have K3:=zH (zK (zD W2) k3);have s3:=SK.out _ K3.out;clear k3))
 clear s3 x0 y2 SK FR hmin hPi hPw;obtain ⟨i0,hi,hz0,hz1,hz2⟩:=info_parts zgU;obtain ⟨w4,hmk,ho4,hg4⟩:=run_make_own (P:=Tryz.prog) (w:=w3) w3.heap.size 22 64 i0 (.agg #[.int .u32 0, .int .u32 0, .int .u64 0, .int .u32 0]) 4 Tryz.underlying22 hi hz0 hz1 .i64 .i64 most (by rw [hz2];have:=MO.out.1;omega) (by unfold maxLen;have:=MO.out.1;omega) (Nat.le_refl _);have K4:=zH (show Keeps w3 w4 from ⟨hg4.os,hg4.tape,hg4.output,hg4.size,fun k hk=>hg4.block k hk (by simp)⟩);have O4:=zH (Own.of_row ho4);have hmi:(0:Int)≤(most:Int):=by omega
 clear ho4 hg4;go_wp2_with fail
 have KK:=zH (zK K3.out K4.out);have HW0:=zH (show w0.heap.size≤w.heap.size from H.out.base);have hsz4:(Tryz.prog.info? 64).map (·.size)=some 4:=by kernel_rfl
 have SZ4:=zH hsz4;have HMM:=zH (show w.heap.size≤w3.heap.size from Nat.le_trans M2.out.size K3.out.size);clear hmk hsz4 hi hz0 hz1 hz2;go_loopg [6,8] l.length (fun kx e6 hv wr=>∃ (i made:Nat) (Rs:List (List Ed)) (q:Pst) (V1:Vw) (S':Nat→Prop) (rv:Value) (hn:Nat) (hs:List Ed),l.length-i≤kx∧e6 = .int .i64 0∧SpI K w0 B N Q A C p V ns S w sb ob bi l made Rs q V1 S' rv wr∧Moves (fun c=>c=sb) w wr S S'∧made≤11∧(i=l.length∨made*most≤i)∧i≤l.length∧CvrE (l.take i) Rs.flatten∧
  RdAt wr rb 224 (atC #[.pointer (some ⟨fb,0,none⟩), .int .i64 0, .int .i64 (l.length:Int)] i) fb i l.length∧StrAt wr fb B.pb nm 20∧¬ S' rb∧¬ S' fb∧Own wr w.heap.size 64 4 hv hn (edsC hs)∧(∀ g,hv.ownBlock=some g→¬ S' g))
 case atStart=>
  go_light
  exact ⟨0,0,[],q1,V,S1, .slice none 0 0,0,[],by omega,rfl,⟨H2.out.keep KK.out,S1'.out.x0 _,fun x _=>rfl,Box.keep R2.out KK.out,RowO.nil _ _ _,Box.keep O2.out KK.out,NN.out.2.1,fun g hg=>by simp [Value.ownBlock] at hg,NN.out.2.2.1,RunsIs.nil _ _ _⟩,M2.out.keep KK.out,by decide, .inr (by simp),Nat.zero_le _,CvrE.nil,
   (RD2.out.keep KK.out).start,B2.out.keep KK.out,NN.out.1,NN.out.2.2.2,(O4.out.base_le HMM.out),fun g hg=>by
    have h1:=(O4.out.lt g hg).1;exact H2.out.lt (Nat.le_trans K3.out.size h1)⟩
 case round=>
  clear M2 H2 R2 O2 B2 RD2 KK K3 K4 O4 NN S1';obtain ⟨i,made,Rs,q,V1,S',rv,hn,hs,hkx,rfl,hsp,hm,hmade,hmi2,hil,hcv,hrd,hst,nrb,nfb,hown,hnh⟩:=hrel;obtain ⟨A1,c1,rfl,hc1,-,-,-⟩:=hown.form;have hnm:nm∈ns:=by
   have hf:=SI.out.file;have hmm:=H.out.tid.mem nm;rw [hf] at hmm;exact hmm.1 (by simp)
  have hnt:nm∉tNs made:=fun hx=>by
   obtain ⟨k,-,e⟩:=tNs_mem.1 hx;exact HA.out.2 nm hnm (by rw [e];exact zbX k)
  have hsi:IsS V1 nm 20 (l.map edB):=⟨SI.out.siz,SI.out.recs,by rw [hsp.vs nm hnt];exact SI.out.file⟩
  have hrw:w.heap.size≤rb:=HWR.out.1;have hfr:fb≠rb:=Ty.ne (Box.ty hst) (Box.ty hrd.box) (by decide);have TK:=zH (zn0 PK hsp.ex HZ.out HS.out HN.out.1 hst nfb hfr hsi OK.out (by have:=HL.out.1;omega) hrd (by decide) nrb (Nat.le_trans HW0.out hrw) hil HW0.out hm.size hown.first (fun g hg=>hnh g (by rw [zcu A1 hn 0 c1 c1];exact hg)) (most:=most) (by have:=MO.out.1;have:=HL.out.1;omega));have hsl:∀ W:World,(Instr.sliceAt 22 (.slice A1 hn c1) none (some (.int .i64 0)) none).run Tryz.prog W = .ok (.slice A1 0 c1) W:=fun W=>zrz (P:=Tryz.prog) 22 64 Tryz.underlying22 SZ4.out A1 hn c1 0 (Nat.zero_le _) W
  have SP:=zH hsp;have HM:=zH hm;have HMA:=zH (And.intro hmade (And.intro hmi2 hil));have CV:=zH hcv;have RDW:=zH hrd;have STW:=zH hst;have NRF:=zH (And.intro nrb nfb);have OWN:=zH hown;have NH:=zH hnh;have KX:=zH hkx;have HNT:=zH hnt;clear hsp hm hmade hmi2 hil hcv hrd hst nrb nfb hown hnh hkx hnm hnt hsi hfr hc1;have hcc:(0:Int)≤(c1:Int):=by omega
  go_wp2_with fail
  refine TK.out.mono ?_;rintro e w5 ⟨E,j,v5,q5,S5,rfl,h5,m5,st5,hij,hjl,rd5,o5,hle5,hb5,n5,hE⟩;have SP5:=zH (SP.out.moved m5 h5 (st5.mono (fun x e=>e.elim)) (fun c e=>e.elim (fun e=>.inl (by rw [e];exact Box.ty RDW.out.box)) (fun e=>.inr (OWN.out.ty (by rw [zcu A1 hn 0 c1 c1];exact e)))));have M5:=zH (HM.out.trans m5 (fun c e=>.inr (.inr (e.elim (fun e=>by rw [e];exact HWR.out.1) (fun e=>(OWN.out.lt c (by rw [zcu A1 hn 0 c1 c1];exact e)).1)))));have ST5:=zH (STW.out.moved m5 NRF.out.2 (fun e=>e.elim (fun e=>Ty.ne (Box.ty STW.out) (Box.ty RDW.out.box) (by decide) e) (fun e=>Ty.ne (OWN.out.ty (by rw [zcu A1 hn 0 c1 c1];exact e)) (Box.ty STW.out) (by decide) rfl)));have NRF5:=zH (And.intro (m5.notIn RDW.out.box.lt NRF.out.1) (m5.notIn STW.out.lt NRF.out.2));have RD5:=zH rd5;have IJ:=zH (And.intro hij hjl);have N5:=zH n5;have HMA:=zH (show made≤11∧(i=l.length∨made*most≤i)∧i≤l.length from HMA.out);rcases hE with ⟨rfl,hfull⟩|⟨rfl,hQ⟩
  rotate_left
  ·obtain ⟨A5,c5,rfl,-⟩:=o5.form;have F:=zH (show zfe K w0 B N Q A C p V ns S w sb ob bi l (.returned (.int .i64 ((5:Nat):Int))) w5 from
    ⟨5,made,Rs,q5,V1,S5,rv,rfl,by have:=HMA.out.1;omega,M5.out, .inr ⟨rfl,hQ,SP5.out.ex,SP5.out.st,SP5.out.vs,SP5.out.r,SP5.out.o,SP5.out.no⟩⟩)
   clear h5 m5 st5 hij hjl rd5 o5 hle5 hb5 n5 hQ;go_wp2;go_ret;exact F.out
  have CV5:=zH (zqb hij CV.out);by_cases hz:(cutE l i j).length=0
  ·have hjn:j=l.length:=by
    rcases hfull with e|e
    ·have:=MO.out.2;omega
    ·exact e
   have hcn:cutE l i j=[]:=List.eq_nil_of_length_eq_zero hz;have F:=zH (show zfe K w0 B N Q A C p V ns S w sb ob bi l (.returned (.int .i64 ((0:Nat):Int))) w5 from
    ⟨0,made,Rs,q5,V1,S5,rv,rfl,by have:=HMA.out.1;omega,M5.out, .inl ⟨rfl,SP5.out,by
     have:=CV5.out;rw [hcn,List.append_nil,hjn,List.take_length] at this;exact this⟩⟩)
   obtain ⟨A5,c5,rfl,-⟩:=o5.form;rw [hz];clear h5 m5 st5 hij hjl rd5 o5 hle5 hb5 n5 hfull hz hjn hcn;go_wp2;go_ret;exact F.out
  ·have hij2:i<j:=by have:=zey l i j;omega
   have hil2:made*most≤i:=HMA.out.2.1.resolve_left (by omega);have hmade10:made≤10:=by
    rcases MO.out.2 with e|e
    ·rcases Nat.eq_zero_or_pos made with e0|e0
     ·omega
     ·have:=Nat.mul_le_mul_right most e0;omega
    ·have:=Nat.mul_le_mul_left made e;have:=HL.out.1;omega
   obtain ⟨g,c5,hv5⟩:∃ g c5,v5 = .slice (some ⟨g,0,none⟩) (cutE l i j).length c5:=by
    rcases o5.2 with ⟨-,h0⟩|⟨g,c5,cur,fz,hv,-⟩
    ·exact absurd h0 hz
    ·exact ⟨g,c5,hv⟩
   subst hv5;have NM:=SP5.out.names (by omega) HA.out.1 HA.out.2;have KP:=zH (zn6 PK SP5.out.ex HZ.out HS.out HN.out.1 SP5.out.r SP5.out.nr NSB.out.2 BI.out SP5.out.bx SP5.out.nb HW0.out M5.out.size SP5.out.o SP5.out.no (by omega) NM.1 NM.2 (by rw [zeb];omega) o5 (n5 g rfl) (by have:=zey l i j;have:=HL.out;omega) (by have:=zey l i j;have:=HL.out;omega) (fun e he=>OK.out e (zjO e he)) zim);have hcl:=zey l i j;obtain ⟨m,hm0⟩:∃ m,(cutE l i j).length=m:=⟨_,rfl⟩
   have O5:=zH o5;have G5:=zH (n5 g rfl);have NX:=zH (show made≤10∧i<j∧(j=l.length∨(made+1)*most≤j) from ⟨hmade10,hij2,by
    rcases hfull with e|e
    ·right;rw [Nat.succ_mul];omega
    ·exact .inl e⟩)
   have NE:=zH (show cutE l i j≠[] from fun e=>hz (by rw [e];rfl));have GB:=zH (show w.heap.size≤g from (o5.lt g rfl).1);rw [hm0] at KP hz O5 ⊢;have hz':((m:Int) == 0)=false:=by rw [beq_eq_false_iff_ne];omega
   have HM0:=zH hm0;clear h5 m5 st5 hij hjl rd5 o5 hle5 hb5 n5 hfull hz hij2 hil2 hmade10 NM hcl hm0;go_wp2_with fail
   refine KP.out.mono ?_;rintro e w6 ⟨E,q6,S6,rv6,R,hs6,nE,rfl,h6,m6,st6,r6,o6,b6,no6,ow6,hRm,hE⟩;have h6':ExS K w0 B N Q A C q6 (upV V1 (tN made) (some (zae 12 (R.map edB)))) ((tNs (made+1)).reverse++ns) S6 w6:=by
    rw [zdx,List.reverse_append];exact h6
   have o6':zaz w6 w.heap.size rv6 (tNs (made+1)):=by rw [zdx];exact o6
   have M6:=M5.out.trans m6 (fun c e=>by
    rcases e with e|e|e
    ·exact .inr (.inl e)
    ·exact .inr (.inr (SP5.out.o.lt c e).1)
    ·have hg:g=c:=Option.some.inj e;exact .inr (.inr (by rw [←hg];exact GB.out)))
   have ST6:StillX Tdot p q6:=SP5.out.st.trans (st6.mono (fun x e=>by rw [show x=tN made from e];exact zbX made));have VS6:∀ x,x∉tNs (made+1)→upV V1 (tN made) (some (zae 12 (R.map edB))) x=V x:=fun x hx=>by
    rw [zdx,List.mem_append,not_or,List.mem_singleton] at hx;rw [zag _ _ hx.2];exact SP5.out.vs x hx.1
   rcases hE with ⟨rfl,hred⟩|⟨rfl,hQ⟩
   rotate_left
   ·have F:=zH (show zfe K w0 B N Q A C p V ns S w sb ob bi l (.returned (.int .i64 ((5:Nat):Int))) w6 from
     ⟨5,made+1,Rs,q6,_,S6,rv6,rfl,by have:=NX.out.1;omega,M6, .inr ⟨rfl,hQ,h6',ST6,VS6,r6,o6',no6⟩⟩)
    clear h6 m6 st6 r6 o6 b6 no6 ow6 hRm h6' o6' M6 ST6 VS6 hQ;go_wp2;go_ret;exact F.out
   ·have tyT:∀ c,(c=sb∨rv.ownBlock=some c∨(Value.slice (some ⟨g,0,none⟩) m c5).ownBlock=some c)→Ty w5 c 168∨Ty w5 c 9∨Ty w5 c 64:=fun c e=>by
     rcases e with e|e|e
     ·exact .inl (by rw [e];exact Box.ty SP5.out.r)
     ·exact .inr (.inl (RowO.ty SP5.out.o e))
     ·exact .inr (.inr (O5.out.ty e))
    have RD6:=((RD5.out.moved m6 NRF5.out.1 (fun e=>(tyT _ e).elim (fun t=>Ty.ne (Box.ty RD5.out.box) t (by decide) rfl) (fun t=>t.elim (fun t=>Ty.ne (Box.ty RD5.out.box) t (by decide) rfl) (fun t=>Ty.ne (Box.ty RD5.out.box) t (by decide) rfl)))));have FB6:=(ST5.out.moved m6 NRF5.out.2 (fun e=>(tyT _ e).elim (fun t=>Ty.ne (Box.ty ST5.out) t (by decide) rfl) (fun t=>t.elim (fun t=>Ty.ne (Box.ty ST5.out) t (by decide) rfl) (fun t=>Ty.ne (Box.ty ST5.out) t (by decide) rfl))))
    have BX6:=((Box.moved SP5.out.bx m6 SP5.out.nb (fun e=>(tyT _ e).elim (fun t=>Ty.ne (Box.ty SP5.out.bx) t (by decide) rfl) (fun t=>t.elim (fun t=>Ty.ne (Box.ty SP5.out.bx) t (by decide) rfl) (fun t=>Ty.ne (Box.ty SP5.out.bx) t (by decide) rfl)))));have hRne:R≠[]:=by
     obtain ⟨f,hf⟩:=List.exists_mem_of_ne_nil _ NE.out;obtain ⟨e,he,-⟩:=hred.all f hf (zim f hf);exact List.ne_nil_of_mem he
    have hnn:tN made∉tNs made:=fun hx=>by
     obtain ⟨k,hk,e⟩:=tNs_mem.1 hx;have:=zgY (j:=made) (k:=k) (by have:=NX.out.1;omega) (by have:=NX.out.1;omega) e;omega
    have RU6:=SP5.out.runs.snoc hnn hred.again hRne (fun e he=>zjO e (hRm e he));have CV6:CvrE (l.take j) ((Rs++[R]).flatten):=by
     rw [List.flatten_append];refine CV5.out.trans ?_;have:=(CvrE.self Rs.flatten).join hred.cvr;simpa using this
    have SP6:=zH (show SpI K w0 B N Q A C p V ns S w sb ob bi l (made+1) (Rs++[R]) q6 (upV V1 (tN made) (some (zae 12 (R.map edB)))) S6 rv6 w6 from
     ⟨h6',ST6,VS6,r6,o6',BX6,m6.notIn (Box.lt SP5.out.r) SP5.out.nr,no6,m6.notIn (Box.lt SP5.out.bx) SP5.out.nb,by rw [zdx];exact RU6⟩)
    have X1:=zH M6;have X2:=zH CV6;have X3:=zH RD6;have X4:=zH FB6;have X5:=zH (And.intro (m6.notIn RD5.out.box.lt NRF5.out.1) (m6.notIn ST5.out.lt NRF5.out.2));have X6:=zH ow6;have X7:=zH (fun g' (hg':(Value.slice (some ⟨g,0,none⟩) m c5).ownBlock=some g')=>show ¬ S6 g' from m6.notIn (O5.out.lt g' hg').2 (by have e:=Option.some.inj hg';rw [←e];exact G5.out));clear h6 m6 st6 r6 o6 b6 no6 ow6 hRm h6' o6' M6 ST6 VS6 hred tyT RD6 FB6 BX6 hRne hnn RU6 CV6;go_wp2;go_roundg (l.length-j)
    case measure=>go_light;have:=KX.out;have:=NX.out.2.1;have:=IJ.out.2;omega
    case rel=>
     go_light
     exact ⟨j,made+1,Rs++[R],q6,_,S6,rv6,nE,hs6,Nat.le_refl _,rfl,SP6.out,X1.out,by have:=NX.out.1;omega,NX.out.2.2,IJ.out.2,X2.out,X3.out,X4.out,X5.out.1,X5.out.2,X6.out,X7.out⟩
end
end Go.Proofs.YtjpldnjldindkaaGreatDoor
