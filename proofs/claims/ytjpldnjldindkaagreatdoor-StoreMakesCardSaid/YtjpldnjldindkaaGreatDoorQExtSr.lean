/- Package extsort: sort. -/
import Derived.Test.YtjpldnjldindkaaGreatDoorQExtDel
import Derived.Test.YtjpldnjldindkaaGreatDoorQExtBegun
set_option linter.all false
set_option maxHeartbeats 0
set_option maxRecDepth 100000
namespace Go.Proofs.YtjpldnjldindkaaGreatDoor
open Go.RowKit Go.Sort
theorem zdJ {ns b:List (List UInt8)}:∀ {a:List (List UInt8)},(a++b).Nodup→dropN a ((a++b).reverse++ns)=b.reverse++ns
 | [],_=>rfl
 | x::a,h=>by
  rw [List.cons_append,List.nodup_cons] at h;have e:((x::a++b).reverse++ns).erase x=(a++b).reverse++ns:=by
   rw [List.cons_append,List.reverse_cons,List.append_assoc,List.erase_append_right _ (fun e=>h.1 (List.mem_reverse.1 e))];rw [List.singleton_append,List.erase_cons_head]
  show dropN a (((x::a++b).reverse++ns).erase x)=_;rw [e];exact zdJ h.2
section
variable {K:DiskOk} {w0 w w':World} {B:PB} {S S' T:Nat→Prop} {p q:Pst} {N Q A C:Nat} {V V1:Vw} {ns:List (List UInt8)} {nm:List UInt8} {fb wb b i n sb ob mb made base:Nat} {rv:Value} {rn:List (List UInt8)} {Rs:List (List Ed)} {ss:List Src} {hd:Bool} {l:List Ed}
theorem RunsIs.beside (h:RunsIs V hd l rn Rs) {x:List UInt8} (hx:x∉rn) (a:Option (List (List UInt8))):RunsIs (upV V x a) hd l rn Rs:=
 ⟨h.1,fun i nm R hn hR=>by
  have:=h.2 i nm R hn hR;exact ⟨this.file.beside (fun e=>hx (e▸List.mem_of_getElem? hn)),this.red,this.ne,this.mem⟩⟩
theorem RunsIs.take (h:RunsIs V hd l rn Rs) (k:Nat):RunsIs V hd l (rn.take k) (Rs.take k):=
 ⟨by rw [List.length_take,List.length_take,h.1],fun i x R hx hR=>by
  rw [List.getElem?_take] at hx hR;split at hx
  ·rename_i hi;rw [if_pos hi] at hR;exact h.2 i x R hx hR
  ·cases hx⟩
theorem RunsIs.drop (h:RunsIs V hd l rn Rs) (k:Nat):RunsIs V hd l (rn.drop k) (Rs.drop k):=
 ⟨by rw [List.length_drop,List.length_drop,h.1],fun i x R hx hR=>by
  rw [List.getElem?_drop] at hx hR;exact h.2 _ x R hx hR⟩
theorem RunsIs.view {V2:Vw} (h:RunsIs V hd l rn Rs) (hv:∀ x∈rn,V2 x=V x):RunsIs V2 hd l rn Rs:=
 ⟨h.1,fun i nm R hn hR=>by
  have:=h.2 i nm R hn hR;exact ⟨⟨this.file.siz,this.file.recs,by rw [hv nm (List.mem_of_getElem? hn)];exact this.file.file⟩,this.red,this.ne,this.mem⟩⟩
structure SoI (K:DiskOk) (w0:World) (B:PB) (N Q A C:Nat) (p:Pst) (V:Vw) (ns:List (List UInt8)) (w:World) (sb ob:Nat) (bi:Int) (l:List Ed) (made:Nat) (rn:List (List UInt8)) (Rs:List (List Ed)) (q:Pst) (V1:Vw) (S1:Nat→Prop) (rv:Value) (wr:World):Prop where
 ex:ExS K w0 B N Q A C q V1 (rn.reverse++ns) S1 wr
 st:StillX Tdot p q
 vs:∀ x,x∉rn→V1 x=V x
 r:SrtAt wr sb B.pb ob rv made
 o:zaz wr w.heap.size rv rn
 bx:Box wr ob 3 #[.int .i64 bi]
 nr:¬ S1 sb
 no:∀ g,rv.ownBlock=some g→¬ S1 g
 nb:¬ S1 ob
 runs:RunsIs V1 (decide (bi=1)) l rn Rs
 cov:CvrE l Rs.flatten
 own:∀ x∈rn,∃ k,k<made∧x=tN k
 nd:rn.Nodup
theorem zis {m:Nat} (hm:m≤50):(tNs m).Nodup:=by
 induction m with
 | zero=>exact List.nodup_nil
 | succ m ih=>
  rw [zdx,List.nodup_append];refine ⟨ih (by omega),by simp,fun a ha b hb=>?_⟩;rw [List.mem_singleton] at hb;subst hb;obtain ⟨k,hk,rfl⟩:=tNs_mem.1 ha;intro e;have:=zgY (by omega) (by omega) e;omega
def LeftV (K:DiskOk) (w0:World) (B:PB) (N Q A C:Nat) (V:Vw) (ns:List (List UInt8)) (w:World) (sb ob:Nat) (nm:List UInt8) (q:Pst) (S':Nat→Prop) (w':World):Prop:=
 ∃ (rn:List (List UInt8)) (rv:Value) (made:Nat) (V1:Vw),ExS K w0 B N Q A C q V1 (rn.reverse++ns) S' w'∧SrtAt w' sb B.pb ob rv made∧zaz w' w.heap.size rv rn∧(∀ g,rv.ownBlock=some g→¬ S' g)∧(∀ x∈rn,Tdot x)∧rn.Nodup∧rn.length≤60∧∀ x,x∉rn→x≠nm→V1 x=V x
def zed (K:DiskOk) (w0:World) (B:PB) (N Q A C:Nat) (p:Pst) (V:Vw) (ns:List (List UInt8)) (S:Nat→Prop) (w:World) (sb ob:Nat) (bi:Int) (l:List Ed) (nm:List UInt8) (e:Ending) (w':World):Prop:=
 ∃ (E:Nat) (q:Pst) (S':Nat→Prop),e = .returned (.int .i64 (E:Int))∧Moves (fun c=>c=sb) w w' S S'∧StillX (fun x=>Tdot x∨x=nm) p q∧
  ((E=0∧∃ c,RedB (decide (bi=1)) l c∧ExS K w0 B N Q A C q (upV V nm (some (zae 12 (c.map edB)))) ns S' w'∧Tidy q nm)∨
   (E=5∧Q<4*(A*C)+4∧LeftV K w0 B N Q A C V ns w sb ob nm q S' w'))
theorem SoI.names {bi:Int} {S1:Nat→Prop} {wr:World} (h:SoI K w0 B N Q A C p V ns w sb ob bi l made rn Rs q V1 S1 rv wr) (hm:made≤50) (hl:rn.length≤50) (hA:ns.length+58≤A) (hdot:∀ x∈ns,¬ Tdot x):tN made∉rn∧tN made∉rn.reverse++ns∧(rn.reverse++ns).length<A:=by
 have h1:tN made∉rn:=fun hx=>by
  obtain ⟨k,hk,e⟩:=h.own _ hx;have:=zgY (by omega) (by omega) e;omega
 refine ⟨h1,fun hx=>?_,by rw [List.length_append,List.length_reverse];omega⟩;rcases List.mem_append.1 hx with hx|hx
 ·exact h1 (List.mem_reverse.1 hx)
 ·exact hdot _ hx (zbX made)
theorem zn8 (PK:PageOk) (h:ExS K w0 B N Q A C p V ns S w) (hZ:K.Z w0) (hS:Sizes w0) (hN:N≤4096) (hN8:8≤N) (r:SrtAt w sb B.pb ob (.slice none 0 0) 0) (hsb:¬ S sb) (hs0:w0.heap.size≤sb) {bi:Int} (hbi:bi=0∨bi=1) (ho:Box w ob 3 #[.int .i64 bi]) (hob:¬ S ob)
 {nmI:List UInt8} (s:IsS V nmI 20 (l.map edB)) (so:IsS V nm 20 []) (hok:∀ e∈l,EdOk e) (hl:l.length≤1000) (hC:l.length≤12*C) (hA:ns.length+58≤A) (hdot:∀ x∈ns,¬ Tdot x) :
 Calls Tryz.prog 90 #[.pointer (some ⟨sb,0,none⟩), .string (str nmI), .string (str nm)] w (zed K w0 B N Q A C p V ns S w sb ob bi l nm):=by
 have SP:=zH (zmm PK h hZ hS hN hN8 r hsb hs0 hbi ho hob s hok hl hC hA hdot);have H:=zH h;have HZ:=zH hZ;have HS:=zH hS;have HN:=zH (And.intro hN hN8);have NSB:=zH (And.intro hsb hs0);have BI:=zH hbi;have SO:=zH so;have OK:=zH hok;have HL:=zH (And.intro hl hC);have HA:=zH (And.intro hA hdot);have hnm:nm∈ns:=by
  have hmm:=h.tid.mem nm;rw [so.file] at hmm;exact hmm.1 (by simp)
 have NMI:=zH hnm;obtain ⟨M1,hM1⟩:∃ M1,N=M1+1:=⟨N-1,by omega⟩
 have HM1:=zH hM1;have hNi:(N:Int)-1=(M1:Int):=by omega
 have hMi:(M1:Int)≤4096:=by omega
 clear h hZ hS hN hN8 r hsb hs0 hbi ho hob s so hok hl hC hA hdot hnm hM1;go_enter Tryz.func90,Tryz.ntmps90;go_wp2_with fail
 refine SP.out.mono ?_;rintro e w1 ⟨E,made,Rs,q1,V1,S1,rv,rfl,hmade,m1,⟨rfl,hsp,hcv⟩|⟨rfl,hQ,hx,hst,hvs,hr,ho,hno⟩⟩;rotate_left
 ·have F:=zH (show zed K w0 B N Q A C p V ns S w sb ob bi l nm (.returned (.int .i64 ((5:Nat):Int))) w1 from
   ⟨5,q1,S1,rfl,m1,hst.mono (fun x e=>.inl e), .inr ⟨rfl,hQ,tNs made,rv,made,V1,hx,hr,ho,hno,fun x hx=>by
    obtain ⟨k,-,e⟩:=tNs_mem.1 hx;rw [e];exact zbX k,zis (by omega),by rw [zeb];omega,fun x hx _=>hvs x hx⟩⟩)
  clear hQ hx hst hvs hr ho hno m1 hmade;go_wp2;go_ret;exact F.out
 have SI:=zH (show SoI K w0 B N Q A C p V ns w sb ob bi l made (tNs made) Rs q1 V1 S1 rv w1 from
  ⟨hsp.ex,hsp.st,hsp.vs,hsp.r,hsp.o,hsp.bx,hsp.nr,hsp.no,hsp.nb,hsp.runs,hcv,fun x hx=>tNs_mem.1 hx,zis (by omega)⟩)
 have M1':=zH m1;have MA:=zH hmade;have FR:=zH (zf7 hsp.ex);have x0:=Box.cell hsp.r 0 rfl;clear hsp hcv m1 hmade SP;go_wp2_with fail
 refine FR.out.mono ?_;rintro e w2 ⟨rfl,k2⟩;have K2:=zH k2;clear k2 x0;go_wp2;go_loopg [11] 60 (fun kx v wr=>∃ (made:Nat) (rn:List (List UInt8)) (Rs:List (List Ed)) (q:Pst) (V1:Vw) (S1:Nat→Prop) (rv:Value),rn.length≤kx∧made+rn.length≤30∧SoI K w0 B N Q A C p V ns w sb ob bi l made rn Rs q V1 S1 rv wr∧Moves (fun c=>c=sb) w wr S S1)
 case atStart=>
  go_light
  have hs:=SI.out;exact ⟨made,tNs made,Rs,q1,V1,S1,rv,by rw [zeb];have:=MA.out;omega,by rw [zeb];have:=MA.out;omega,⟨hs.ex.keep K2.out,hs.st,hs.vs,Box.keep hs.r K2.out,hs.o.keep K2.out,hs.bx.keep K2.out,hs.nr,hs.no,hs.nb,hs.runs,hs.cov,hs.own,hs.nd⟩,M1'.out.keep K2.out⟩
 case round=>
  clear SI M1' MA FR K2;obtain ⟨made,rn,Rs,q,V1,S1,rv,hkx,hmr,hsi,hm⟩:=hrel;obtain ⟨A1,c1,rfl,hc1,-,-,-⟩:=hsi.o.form;have x0:=Box.cell hsi.r 0 rfl;have x2:=Box.cell hsi.r 2 rfl;have HW:=zH (show w0.heap.size≤w.heap.size from H.out.base);by_cases hlt:M1<rn.length
  ·have hlt':(M1:Int)<(rn.length:Int):=(by omega);obtain ⟨n1,n2,n3⟩:=hsi.names (by omega) (by omega) HA.out.1 HA.out.2;have BG:=zH (zgW hsi.ex HZ.out HN.out.1 hsi.r hsi.nr NSB.out.2 HW.out hm.size hsi.o hsi.no (by omega) n2 n3 (by omega));have SI:=zH hsi;have HM:=zH hm;have HK:=zH (And.intro hkx (And.intro hmr hlt));have N1:=zH n1;have N2:=zH n2;clear hsi hm hkx hmr n1 n2 n3 hlt hc1;go_wp2_with fail
   refine BG.out.mono ?_;rintro e w3 ⟨q3,S3,rv3,wb,fb,rfl,h3,m3,s3,r3,o3,b3,no3,wr3,st3,hwb,hfb,nw3,nf3⟩;obtain ⟨t,ht⟩:∃ t,tN made=t:=(⟨_,rfl⟩);have hT:Tdot t:=by rw [←ht];exact zbX made
   rw [ht] at h3 s3 o3 st3;have n1:=N1.out;rw [ht] at n1;have h3':ExS K w0 B N Q A C q3 (upV V1 t (some [])) ((rn++[t]).reverse++ns) S3 w3:=by
    rw [List.reverse_append];exact h3
   have tyT:∀ c,(c=sb∨(Value.slice A1 rn.length c1).ownBlock=some c)→Ty wr c 168∨Ty wr c 9:=(fun c e=>e.elim (fun e=>.inl (by rw [e];exact Box.ty SI.out.r)) (fun e=>.inr (RowO.ty SI.out.o e)));have bx3:=Box.moved SI.out.bx m3 SI.out.nb (fun e=>(tyT _ e).elim (fun t=>Ty.ne (Box.ty SI.out.bx) t (by decide) rfl) (fun t=>Ty.ne (Box.ty SI.out.bx) t (by decide) rfl));have nsb3:=m3.notIn (Box.lt SI.out.r) SI.out.nr;have nob3:=m3.notIn (Box.lt SI.out.bx) SI.out.nb;have hnd3:(rn++[t]).Nodup:=by
    rw [List.nodup_append];refine ⟨SI.out.nd,by simp,fun a ha b hb=>?_⟩;rw [List.mem_singleton] at hb;subst hb;exact fun e=>n1 (e▸ha)
   have htk:(rn++[t]).take M1=rn.take M1:=List.take_append_of_le_length (by have:=HK.out.2.2;omega);have hwr:w.heap.size≤wr.heap.size:=HM.out.size;have hlen3:(rn++[t]).length=rn.length+1:=by simp
   have MG:=zH (zg2 (n:=M1) (Rs:=Rs.take M1) PK h3' HZ.out HS.out HN.out.1 r3 nsb3 NSB.out.2 BI.out bx3 nob3 o3 no3 wr3 nw3 (Nat.le_trans HW.out (Nat.le_trans hwr hwb)) st3 nf3 (zci ⟨by decide,by decide⟩ (zap _ _ _)) (by rw [hlen3];have:=HK.out.2.2;omega) (fun x hx=>List.mem_append_left _ (List.mem_reverse.2 hx)) hnd3 (by rw [hlen3];have:=HK.out.2.1;omega) (by rw [htk];exact (SI.out.runs.beside n1 _).take M1) OK.out HL.out.1 HL.out.2);have M3:=zH (HM.out.trans m3 (fun c e=>e.elim (fun e=>.inr (.inl e)) (fun e=>.inr (.inr (SI.out.o.lt c e).1))));have ST3:=zH (SI.out.st.trans (s3.x (X:=Tdot) hT));have HND:=zH hnd3;have HT:=zH hT;have BX3:=zH (And.intro bx3 (And.intro nsb3 nob3));have HB3:=zH (Nat.le_trans hwr hwb);have NT:=zH n1;have TK:=zH htk;have HMT:=zH ht;have R3T:=zH (Box.ty r3);have W3T:=zH (Box.ty wr3);clear h3 m3 s3 r3 o3 b3 no3 wr3 st3 hwb hfb nw3 nf3 h3' tyT bx3 nsb3 nob3 hnd3 htk hwr hlen3 n1 hT ht;go_wp2_with fail
   refine MG.out.mono ?_;rintro e w4 ⟨E,q4,S4,c,rfl,m4,s4,hres⟩;have M4:=M3.out.trans m4 (fun c e=>e.elim (fun e=>.inr (.inl e)) (fun e=>.inr (.inr (by rw [e];exact HB3.out))));have tdA:∀ x,x∈rn++[t]→Tdot x:=fun x hx=>by
    rcases List.mem_append.1 hx with hx|hx
    ·obtain ⟨k,-,e⟩:=SI.out.own x hx;rw [e];exact zbX k
    ·rw [List.mem_singleton] at hx;rw [hx];exact HT.out
   have ST4:=ST3.out.trans (s4.mono (Y:=Tdot) (fun x e=>e.elim (tdA x) (fun e=>by rw [e];exact HT.out)));have hvn:∀ x,x∉rn++[t]→upV (upV V1 t (some [])) t (some (zae 12 (c.map edB))) x=V x:=fun x hx=>by
    rw [List.mem_append,not_or,List.mem_singleton] at hx;rw [zag _ _ hx.2,zag _ _ hx.2];exact SI.out.vs x hx.1
   rcases hres with ⟨rfl,hred,h4,rv4,r4,o4,n4⟩|⟨rfl,hQ,h4,r4,o4,n4⟩
   rotate_left
   ·have F:=zH (show zed K w0 B N Q A C p V ns S w sb ob bi l nm (.returned (.int .i64 ((5:Nat):Int))) w4 from
     ⟨5,q4,S4,rfl,M4,ST4.mono (fun x e=>.inl e), .inr ⟨rfl,hQ,rn++[t],rv3,made+1,_,h4,r4,o4,n4,tdA,HND.out,by rw [List.length_append];have:=HK.out.2.1;simp only [List.length_singleton];omega,fun x hx _=>hvn x hx⟩⟩)
    clear hQ h4 r4 o4 n4 M4 ST4 hvn tdA m4 s4;go_wp2;go_ret;exact F.out
   ·have htd:(rn++[t]).drop M1=rn.drop M1++[t]:=List.drop_append_of_le_length (by have:=HK.out.2.2;omega);have hex:ExS K w0 B N Q A C q4 (dropV (rn.take M1) (upV V1 t (some (zae 12 (c.map edB))))) ((rn.drop M1++[t]).reverse++ns) S4 w4:=by
     have e1:=zdJ (ns:=ns) (a:=(rn++[t]).take M1) (b:=(rn++[t]).drop M1) (by rw [List.take_append_drop];exact HND.out);rw [List.take_append_drop] at e1;rw [e1,htd,TK.out,zgS] at h4;exact h4
    have hnt:t∉rn.take M1:=(fun e=>NT.out (List.mem_of_mem_take e));have hvs:∀ x,x∉rn.drop M1++[t]→dropV (rn.take M1) (upV V1 t (some (zae 12 (c.map edB)))) x=V x:=fun x hx=>by
     rw [List.mem_append,not_or,List.mem_singleton] at hx;by_cases hxt:x∈rn.take M1
     ·rw [zf6 _ _ _ hxt];have hxn:x∉ns:=(fun e=>HA.out.2 x e (tdA x (List.mem_append_left _ (List.mem_of_mem_take hxt))));exact (H.out.tid.no hxn).symm
     ·rw [zdI _ _ _ hxt,zag _ _ hx.2];refine SI.out.vs x (fun e=>?_);rw [←List.take_append_drop M1 rn] at e;exact (List.mem_append.1 e).elim hxt hx.1
    have hcl:∀ e∈c,e∈l:=fun e he=>by
     obtain ⟨R,hR,heR⟩:=List.mem_flatten.1 (hred.mem e he);obtain ⟨k,hk⟩:=List.mem_iff_getElem?.1 (List.mem_of_mem_take hR);have hkl:=(zI9.1 hk).1;exact (SI.out.runs.2 k _ R (zG9 (by rw [SI.out.runs.1];exact hkl)) hk).mem e heR
    have hcne:c≠[]:=by
     have h0:0<Rs.length:=by rw [←SI.out.runs.1];have:=HK.out.2.2;omega
     have hR0:Rs[0]? = some Rs[0]:=zG9 h0;have hri:=SI.out.runs.2 0 _ Rs[0] (zG9 (by rw [SI.out.runs.1];exact h0)) hR0;obtain ⟨f,hf⟩:=List.exists_mem_of_ne_nil _ hri.ne;obtain ⟨e,he,-⟩:=hred.all f (List.mem_flatten.2 ⟨Rs[0],List.mem_of_getElem? (i:=0) (by rw [List.getElem?_take,if_pos (by have:=HN.out.2;have:=HM1.out;omega)];exact hR0),hf⟩) (hri.red.loop f hf);exact List.ne_nil_of_mem he
    have hruns:=((SI.out.runs.drop M1).snoc (fun e=>NT.out (List.mem_of_mem_drop e)) hred.again hcne hcl).view (V2:=dropV (rn.take M1) (upV V1 t (some (zae 12 (c.map edB))))) (fun x hx=>by
     refine zdI _ _ _ (fun hxt=>?_);have hnd:=HND.out;rw [←List.take_append_drop M1 (rn++[t]),TK.out,htd,List.nodup_append] at hnd;exact hnd.2.2 x hxt x hx rfl)
    have hcov:CvrE l (Rs.drop M1++[c]).flatten:=by
     refine SI.out.cov.trans ?_;have h1:=hred.cvr.join (CvrE.self (Rs.drop M1).flatten);rw [←List.flatten_append,List.take_append_drop] at h1;refine h1.congr fun e=>?_
     simp only [List.flatten_append,List.mem_append,List.flatten_cons,List.flatten_nil,List.append_nil];exact Or.comm
    have SI4:=zH (show SoI K w0 B N Q A C p V ns w sb ob bi l (made+1) (rn.drop M1++[t]) (Rs.drop M1++[c]) q4 (dropV (rn.take M1) (upV V1 t (some (zae 12 (c.map edB))))) S4 rv4 w4 from
     ⟨hex,ST4,hvs,r4,by rw [←htd];exact o4,Box.moved BX3.out.1 m4 BX3.out.2.2 (fun e=>e.elim (fun e=>Ty.ne (Box.ty BX3.out.1) R3T.out (by decide) e) (fun e=>Ty.ne (Box.ty BX3.out.1) W3T.out (by decide) e)),
      m4.notIn (by obtain ⟨cs,fz,hh⟩:=R3T.out;exact (zJ9.1 hh).1) BX3.out.2.1,n4,m4.notIn (Box.lt BX3.out.1) BX3.out.2.2,hruns,hcov,fun x hx=>by
       rcases List.mem_append.1 hx with hx|hx
       ·obtain ⟨k,hk,e⟩:=SI.out.own x (List.mem_of_mem_drop hx);exact ⟨k,by omega,e⟩
       ·rw [List.mem_singleton] at hx;exact ⟨made,by omega,hx.trans HMT.out.symm⟩,by rw [←htd];exact HND.out.sublist (List.drop_sublist _ _)⟩)
    have MM:=zH M4;have hl4:(rn.drop M1++[t]).length=rn.length-M1+1:=(by simp);have HL4:=zH hl4;clear hred h4 r4 o4 n4 M4 ST4 hvn tdA m4 s4 htd hex hnt hvs hcl hcne hruns hcov hl4;go_wp2;go_roundg (rn.drop M1++[t]).length
    case measure=>go_light;have:=HL4.out;have:=HK.out;have:=HN.out.2;have:=HM1.out;omega
    case rel=>
     go_light
     exact ⟨made+1,rn.drop M1++[t],Rs.drop M1++[c],q4,_,S4,rv4,Nat.le_refl _,by have:=HL4.out;have:=HK.out;have:=HN.out.2;have:=HM1.out;omega,SI4.out,MM.out⟩
  ·have hlt':¬ (M1:Int)<(rn.length:Int):=(by omega);have hnr:nm∉rn:=fun e=>by
    obtain ⟨k,-,e2⟩:=hsi.own nm e;exact HA.out.2 nm NMI.out (by rw [e2];exact zbX k)
   have so1:IsS V1 nm 20 []:=(⟨SO.out.siz,SO.out.recs,by rw [hsi.vs nm hnr];exact SO.out.file⟩);have WT:=zH (zgV hsi.ex HZ.out hsi.r so1 HN.out.1);have SI:=zH hsi;have HM:=zH hm;have HK:=zH hmr;have HNR:=zH hnr;have SO1:=zH so1;clear hsi hm hkx hmr hlt hc1 hnr so1;go_wp2_with fail
   refine WT.out.mono ?_;rintro e w3 ⟨wb,fb,rfl,k3,hwb,hfb,wr3,st3⟩;have hx3:=SI.out.ex.keep k3;have r3:SrtAt w3 sb B.pb ob (.slice A1 rn.length c1) made:=Box.keep SI.out.r k3;have y2:=Box.cell r3 2 rfl;have hwr:w.heap.size≤wr.heap.size:=HM.out.size;have MG:=zH (zg2 (n:=rn.length) (Rs:=Rs) PK hx3 HZ.out HS.out HN.out.1 r3 SI.out.nr NSB.out.2 BI.out (SI.out.bx.keep k3) SI.out.nb (SI.out.o.keep k3) SI.out.no wr3 (SI.out.ex.lt hwb) (Nat.le_trans HW.out (Nat.le_trans hwr hwb)) st3 (SI.out.ex.lt hfb) SO1.out (Nat.le_refl _) (fun x hx=>List.mem_append_left _ (List.mem_reverse.2 hx)) SI.out.nd (by have:=HK.out;omega) (by rw [List.take_length];exact SI.out.runs) OK.out HL.out.1 HL.out.2);have M3:=zH (HM.out.keep k3);have HB3:=zH (Nat.le_trans hwr hwb);have LT3:=zH (Box.lt r3);clear k3 hwb hfb wr3 st3 hx3 r3 hwr x0 x2;go_wp2_with fail
   refine MG.out.mono ?_;rintro e w4 ⟨E,q4,S4,c,rfl,m4,s4,hres⟩;have M4:=M3.out.trans m4 (fun c e=>e.elim (fun e=>.inr (.inl e)) (fun e=>.inr (.inr (by rw [e];exact HB3.out))));have tdA:∀ x,x∈rn→Tdot x:=fun x hx=>by
    obtain ⟨k,-,e⟩:=SI.out.own x hx;rw [e];exact zbX k
   have ST4:StillX (fun x=>Tdot x∨x=nm) p q4:=(SI.out.st.mono (fun x e=>.inl e)).trans (s4.mono (fun x e=>e.elim (fun e=>.inl (tdA x e)) .inr));rcases hres with ⟨rfl,hred,h4,rv4,r4,o4,n4⟩|⟨rfl,hQ,h4,r4,o4,n4⟩
   rotate_left
   ·have F:=zH (show zed K w0 B N Q A C p V ns S w sb ob bi l nm (.returned (.int .i64 ((5:Nat):Int))) w4 from
     ⟨5,q4,S4,rfl,M4,ST4, .inr ⟨rfl,hQ,rn,_,made,_,h4,r4,o4,n4,tdA,SI.out.nd,by have:=HK.out;omega,fun x hx hxn=>by rw [zag _ _ hxn];exact SI.out.vs x hx⟩⟩)
    clear hQ h4 r4 o4 n4 M4 ST4 tdA m4 s4 y2;go_wp2;go_ret;exact F.out
   ·have eV:dropV (rn.take rn.length) (upV V1 nm (some (zae 12 (c.map edB))))=upV V nm (some (zae 12 (c.map edB))):=by
     rw [List.take_length];funext x
     by_cases hx:x∈rn
     ·rw [zf6 _ _ _ hx,zag _ _ (fun e=>HNR.out (by rw [←e];exact hx))];have hxn:x∉ns:=(fun e=>HA.out.2 x e (tdA x hx));exact (H.out.tid.no hxn).symm
     ·rw [zdI _ _ _ hx];by_cases e:x=nm
      ·rw [e,zap,zap]
      ·rw [zag _ _ e,zag _ _ e];exact SI.out.vs x hx
    have eN:dropN (rn.take rn.length) (rn.reverse++ns)=ns:=by
     have:=zdJ (ns:=ns) (a:=rn) (b:=[]) (by rw [List.append_nil];exact SI.out.nd);rw [List.append_nil] at this;rw [List.take_length];exact this
    rw [eV,eN] at h4;have RED:=zH (SI.out.cov.red hred);have FL:=zH (zlb PK h4 HZ.out HS.out NMI.out);have z0:=Box.cell r4 0 rfl;have M4':=zH M4;have ST4':=zH ST4;have R4:=zH r4;have O4:=zH o4;have N4:=zH n4;have NS4:=zH (show ¬ S4 sb from m4.notIn LT3.out SI.out.nr);clear hred h4 r4 o4 n4 M4 ST4 tdA m4 s4 eV eN y2;go_wp2_with fail
    refine FL.out.mono ?_;rintro e w5 ⟨E,q5,S5,rfl,h5,t5,s5,hres⟩;have M5:=M4'.out.then (t5.moves (fun c=>c=sb));have ST5:=ST4'.out.trans (s5.x (X:=fun x=>Tdot x∨x=nm) (.inr rfl));have F:=zH (show zed K w0 B N Q A C p V ns S w sb ob bi l nm (.returned (.int .i64 (E:Int))) w5 from by
     refine ⟨E,q5,S5,rfl,M5,ST5,?_⟩;rcases hres with ⟨rfl,d5⟩|⟨rfl,hQ⟩
     ·exact .inl ⟨rfl,c,RED.out,h5,d5⟩
     ·refine .inr ⟨rfl,hQ,[],rv4,made,_,h5,Box.turned R4.out t5 NS4.out,?_,fun g hg=>t5.notIn (O4.out.lt g hg).2 (N4.out g hg),fun x hx=>by simp at hx,List.nodup_nil,by simp,fun x _ hx=>zag _ _ hx⟩;have e0:rn.drop rn.length=[]:=List.drop_eq_nil_of_le (Nat.le_refl _);have o5:=O4.out;rw [e0] at o5;exact o5.same (fun g hg=>t5.only.block g (o5.lt g hg).2 (N4.out g hg)))
    clear h5 t5 s5 hres M5 ST5 z0;go_wp2;go_ret;exact F.out
end
section
variable {K:DiskOk} {w0 w w':World} {B:PB} {S S' T:Nat→Prop} {p q:Pst} {N Q A C:Nat} {V V1:Vw} {ns:List (List UInt8)} {nm:List UInt8} {sb ob made base:Nat} {rv:Value} {rn:List (List UInt8)}
def UndoV (K:DiskOk) (w0:World) (B:PB) (N Q A C:Nat) (p:Pst) (V:Vw) (ns:List (List UInt8)) (S:Nat→Prop) (w:World) (rv:Value) (rn:List (List UInt8)) (e:Ending) (w':World):Prop:=
 ∃ (q:Pst) (S':Nat→Prop),e = .returned (.tuple #[])∧ExS K w0 B N Q A C q (dropV rn V) (dropN rn ns) S' w'∧Moves (fun c=>rv.ownBlock=some c) w w' S S'∧StillX (fun x=>x∈rn) p q
theorem zn9 (h:ExS K w0 B N Q A C p V ns S w) (hZ:K.Z w0) (hN:N≤4096) (r:SrtAt w sb B.pb ob rv made) (hsb:¬ S sb) (hb0:w0.heap.size≤base) (hbw:base≤w.heap.size) (o:zaz w base rv rn) (ho:∀ g,rv.ownBlock=some g→¬ S g) (hl:rn.length≤1000) (hin:∀ x∈rn++[nm],x∈ns) (hnd:(rn++[nm]).Nodup) :
 Calls Tryz.prog 91 #[.pointer (some ⟨sb,0,none⟩), .string (str nm)] w (UndoV K w0 B N Q A C p V ns S w rv (rn++[nm])):=by
 have H:=zH h;have HZ:=zH hZ;have HN:=zH hN;have R:=zH r;have NSB:=zH hsb;have HB:=zH (And.intro hb0 hbw);have O:=zH o;have NO:=zH ho;have HL:=zH hl;have HIN:=zH hin;have HND:=zH hnd;have OSB:=zH (zcO o r (by decide));obtain ⟨n,hn⟩:∃ n,(rn++[nm]).length=n:=⟨_,rfl⟩
 have HNL:=zH hn;have hn1:rn.length+1=n:=by rw [←hn];simp
 have HN1:=zH hn1;have hni:(n:Int)≤1001:=by omega
 obtain ⟨RA,rc,hrv,-⟩:=o.form;subst hrv;obtain ⟨i0,hi,hz0,hz1,hz2⟩:=info_parts zir;have x2:=Box.cell r 2 rfl;have AT1:=zH (show At (w.alloc (.cells #[.string (str nm)] 9)) (w.heap.size+1) (some ⟨w.heap.size,0,none⟩) [strV nm] from At.new w [strV nm] 9 (w.heap.size+1) (by omega));clear h hZ hN r hsb hb0 hbw o ho hl hin hnd hn hn1;go_enter Tryz.func91,Tryz.ntmps91;go_wp2_with (at_builtin;refine zfN rfl _ _ 74 rfl base 9 i0 (.string ⟨#[]⟩) 16 Tryz.underlying74 hi hz0 hz1 hz2 rfl _ rn.length _ rfl (O.out.keep (zA _ _)) _ _ 1 1 [strV nm] rfl rfl AT1.out (by intro u hu;rw [List.mem_singleton] at hu;rw [hu];rfl) (by decide) (by have:=HL.out;unfold maxLen;omega) (by have:=HL.out;omega) (by have:=HB.out.2;simp only [World.size_alloc];omega) ?_)
 intro v6 w6 o6 g6 b6;have kA:Keeps w _:=zA w (.cells #[.string (str nm)] 9);have R6:=zH (show SrtAt w6 sb B.pb ob (.slice RA rn.length rc) made from Box.grownX (Box.keep R.out kA) g6 OSB.out);have H6:=zH ((H.out.keep kA).only (zbz g6) (fun i e=>Nat.le_trans HB.out.1 (O.out.lt i e).1) (fun i hi e=>NO.out i e hi));have M6:=zH ((Moves.of_keeps kA (fun c=>(Value.slice RA rn.length rc).ownBlock=some c) S).grown g6 (fun g hg=>.inl hg));have N6:=zH (show ∀ g,v6.ownBlock=some g→¬ S g from fun g hg=>by
  rcases b6 with e|e
  ·exact NO.out g (e▸hg)
  ·rw [e] at hg;injection hg with hg;exact H.out.lt (by omega))
 have O6:=zH (show RowO w6 base 9 v6 n ((rn++[nm]).map strV) from by
  rw [List.map_append,←HN1.out];exact o6)
 obtain ⟨A6,c6,rfl,-⟩:=o6.form;rw [HN1.out] at O6 N6;have hN1:=HN1.out;clear o6 g6 b6 kA;rw [hN1];clear hN1;go_wp2;go_loopw [14] (fun i wr=>∃ (k:Nat) (q:Pst) (S':Nat→Prop),i = .int .i64 (k:Int)∧k≤n∧ExS K w0 B N Q A C q (dropV ((rn++[nm]).take k) V) (dropN ((rn++[nm]).take k) ns) S' wr∧Moves (fun c=>(Value.slice RA rn.length rc).ownBlock=some c) w wr S S'∧StillX (fun x=>x∈rn++[nm]) p q∧SrtAt wr sb B.pb ob (.slice RA rn.length rc) made∧¬ S' sb∧
  RowO wr base 9 (.slice A6 n c6) n ((rn++[nm]).map strV)∧(∀ g,(Value.slice A6 n c6).ownBlock=some g→¬ S' g)) (fun i _=>n-(intOf i).toNat)
 case atStart=>exact ⟨0,p,S,rfl,Nat.zero_le _,H6.out,M6.out,StillX.refl _ _,R6.out,NSB.out,O6.out,N6.out⟩
 case round=>
  obtain ⟨k,q,S1,rfl,hk,hx,hm,hs,hr,nsb,ho,hno⟩:=hrel;by_cases hlt:k<n
  ·have hlt':(k:Int)<(n:Int):=(by omega);have hkl:k<(rn++[nm]).length:=by rw [HNL.out];exact hlt
   obtain ⟨x,hx1⟩:∃ x,(rn++[nm])[k]? = some x:=(⟨_,zG9 hkl⟩);obtain ⟨ad,had,-,hc0⟩:=At.get (RowO.at_ ho) (k:=k) (by rw [List.length_map];exact hkl);subst had;have c0:wr.cell? (ad.add k)=some (.string (str x)):=by
    rw [hc0,List.getElem?_map,hx1];rfl
   have hin:x∈dropN ((rn++[nm]).take k) ns:=zgX (HIN.out x (List.mem_of_getElem? hx1)) (fun hmem=>by
    obtain ⟨j,hj⟩:=List.mem_iff_getElem?.1 hmem;rw [List.getElem?_take] at hj;split at hj
    ·rename_i hjk;have:=(List.getElem?_inj hkl HND.out).1 (hx1.trans hj.symm);omega
    ·cases hj)
   have DR:=zH (znT hx HZ.out HN.out hin);have ET:=zH (show (rn++[nm]).take (k+1)=(rn++[nm]).take k++[x] by
    rw [List.take_succ_eq_append_getElem hkl];rw [zG9 hkl] at hx1;rw [Option.some.inj hx1])
   have y0:=Box.cell hr 0 rfl;have X1:=zH (List.mem_of_getElem? hx1);have HM:=zH hm;have HS:=zH hs;have HR:=zH hr;have HO:=zH ho;have HNO:=zH hno;have NS1:=zH nsb;clear hx hm hs hr nsb ho hno hx1 hkl hc0 hin hlt;go_wp2_with fail
   refine DR.out.mono ?_;rintro e w2 ⟨q2,S2,rfl,h2,t2,s2⟩;have ev:=zH (show dropV ((rn++[nm]).take (k+1)) V=upV (dropV ((rn++[nm]).take k) V) x none by rw [ET.out,zez]);have en:=zH (show dropN ((rn++[nm]).take (k+1)) ns=(dropN ((rn++[nm]).take k) ns).erase x by rw [ET.out,zeA]);have M2:=zH (HM.out.then (t2.moves _));have S2':=zH (HS.out.trans (s2.x (X:=fun x=>x∈rn++[nm]) X1.out));have R2:=zH (show SrtAt w2 sb B.pb ob (.slice RA rn.length rc) made from Box.turned HR.out t2 NS1.out);have NS2:=zH (t2.notIn (Box.lt HR.out) NS1.out);have O2:=zH (HO.out.same (fun g hg=>t2.only.block g (HO.out.lt g hg).2 (HNO.out g hg)));have N2:=zH (fun g hg=>show ¬ S2 g from t2.notIn (HO.out.lt g hg).2 (HNO.out g hg));have H2:=zH h2;clear h2 t2 s2 c0 y0;go_wp2;go_roundw
   case rel=>exact ⟨k+1,q2,S2,rfl,by omega,by rw [ev.out,en.out];exact H2.out,M2.out,S2'.out,R2.out,NS2.out,O2.out,N2.out⟩
   case measure=>simp [intOf];omega
  ·have hlt':¬ (k:Int)<(n:Int):=(by omega);obtain rfl:k=n:=by omega
   have e1:(rn++[nm]).take k=rn++[nm]:=(by rw [←HNL.out,List.take_length]);rw [e1] at hx;have F:=zH (show UndoV K w0 B N Q A C p V ns S w (.slice RA rn.length rc) (rn++[nm]) (.returned (.tuple #[])) wr from ⟨q,S1,rfl,hx,hm,hs⟩);clear hx hm hs hr nsb ho hno e1;go_wp2;go_returns;exact F.out
end
section
variable {K:DiskOk} {w0 w w':World} {B:PB} {S S' T:Nat→Prop} {p q:Pst} {N Q A C:Nat} {V V1:Vw} {ns:List (List UInt8)} {nmI nmO:List UInt8} {l:List Ed} {bi:Int}
theorem zoa (bi:Int) (w:World):Calls Tryz.prog 89 #[.int .i64 bi] w fun e w'=>e = .returned (.func (.func 114) #[] #[.pointer (some ⟨w.heap.size,0,none⟩)])∧w'=w.alloc (.cells #[.int .i64 bi] 3):=by
 go_enter Tryz.func89,Tryz.ntmps89;go_wp2;go_ret;exact ⟨rfl,rfl⟩
def SortW (K:DiskOk) (w0:World) (B:PB) (N Q A C:Nat) (p:Pst) (V:Vw) (ns:List (List UInt8)) (S:Nat→Prop) (w:World) (nmO:List UInt8) (l:List Ed) (hd:Bool) (e:Ending) (w':World):Prop:=
 ∃ (E:Nat) (q:Pst) (S':Nat→Prop),e = .returned (.int .i64 (E:Int))∧Turns w w' S S'∧StillX (fun x=>Tdot x∨x=nmO) p q∧
  ((E=0∧∃ c,RedB hd l c∧ExS K w0 B N Q A C q (upV V nmO (some (zae 12 (c.map edB)))) (nmO::ns) S' w'∧Tidy q nmO)∨
   (E=5∧Q<4*(A*C)+4∧ExS K w0 B N Q A C q V ns S' w'))
theorem Moves.turns {T:Nat→Prop} (h:Moves T w w' S S') (hT:∀ i,T i→w.heap.size≤i):Turns w w' S S':=⟨h.only.wide fun i hi e=>e.elim id fun e=>by have:=hT i e;omega,h.next⟩
theorem zob (PK:PageOk) (h:ExS K w0 B N Q A C p V ns S w) (hZ:K.Z w0) (hS:Sizes w0) (hN:N≤4096) (hN8:8≤N) (hbi:bi=0∨bi=1) (s:IsS V nmI 20 (l.map edB)) (hok:∀ e∈l,EdOk e) (hO:zaf nmO=true) (hOn:nmO∉ns) (hdot:∀ x∈ns,¬ Tdot x) (hOd:¬ Tdot nmO) (hA:ns.length+60≤A) (hC:l.length≤12*C) (hl:l.length≤1000) :
 Calls Tryz.prog 53 #[.pointer (some ⟨B.pb,0,none⟩), .string (str nmI), .string (str nmO), .int .i64 bi] w (SortW K w0 B N Q A C p V ns S w nmO l (decide (bi=1))):=by
 have hnI:nmI∈ns:=by
  have hmm:=h.tid.mem nmI;rw [s.file] at hmm;exact hmm.1 (by simp)
 have hne:nmI≠nmO:=fun e=>hOn (e▸hnI)
 have HI:=zH (zgr nmI);have HO:=zH (zgr nmO);have eI:decide (nmI.take 2=[116,46])=false:=decide_eq_false (hdot nmI hnI);have eO:decide (nmO.take 2=[116,46])=false:=decide_eq_false hOd;rw [eI] at HI;rw [eO] at HO;have FR:=zH (fun (W:World) (k:Keeps w W)=>zf7 (h.keep k));have OP:=zH (fun (W:World) (k:Keeps w W)=>by
  have:=zcZ (h.pj.keep k) hZ h.runs (by omega) (h.len24 s) 20;rw [zfd h s] at this;exact this)
 have CR:=zH (fun (W:World) (k:Keeps w W)=>zew (h.keep k) hZ hO hOn (by omega));have SV:=zH (fun (W:World) (q:Pst) (S1:Nat→Prop) (sb ob:Nat) (hx:ExS K w0 B N Q A C q (upV V nmO (some [])) (nmO::ns) S1 W) (r:SrtAt W sb B.pb ob (.slice none 0 0) 0) (nsb:¬ S1 sb) (hsb:w0.heap.size≤sb) (bo:Box W ob 3 #[.int .i64 bi]) (nob:¬ S1 ob)=>
  zn8 PK hx hZ hS hN hN8 r nsb hsb hbi bo nob (s.beside hne) (zci ⟨by decide,by decide⟩ (zap _ _ _)) hok hl hC (by simp only [List.length_cons];omega) (fun x hx=>by
   rcases List.mem_cons.1 hx with rfl|hx
   ·exact hOd
   ·exact hdot x hx))
 have H:=zH h;have HZ:=zH hZ;have HN:=zH hN;have HOn:=zH (And.intro hOn (And.intro hOd hdot));have hb2:((bi:Int) != 0)=true→(bi != 1)=false:=fun _=>by rcases hbi with rfl|rfl<;>simp_all
 have hN8i:¬ (N:Int)<8:=by omega
 have hse:((str nmI).toList == (str nmO).toList)=false:=by rw [zaL,zaL,beq_eq_false_iff_ne];exact hne
 obtain ⟨BB,hBB⟩:∃ BB,decide (bi=1)=BB:=⟨_,rfl⟩
 have HBB:=zH hBB;have HBI:=zH hbi;rw [hBB];clear h hZ hS hN hN8 s hok hO hOn hdot hOd hA hC hl hnI hne eI eO hb2 hBB;generalize str nmI=si at *;generalize hso:str nmO=so at *;have HSO:=zH hso;clear hso;have OR:=zH (fun W=>zoa bi W);have go:((bi != 0)=true∧(bi != 1)=false)∨(bi != 0)=false:=by rcases hbi with rfl|rfl<;>simp
 clear hbi;have HSE:=zH hse;rcases go with ⟨g1,g2⟩|g1
 all_goals
  go_enter Tryz.func53,Tryz.ntmps53;go_wp2_with fail
  refine (HI.out _).mono ?_;rintro e w1 ⟨rfl,rfl⟩;go_wp2_with fail
  refine (HO.out _).mono ?_;rintro e w1 ⟨rfl,rfl⟩;go_wp2_with fail
  refine (FR.out _ (zab _)).mono ?_;rintro e w1 ⟨rfl,k1⟩;have K1:=zH k1;clear k1;go_wp2_with fail
  refine (OP.out _ K1.out).mono ?_;rintro e w2 ⟨k2,⟨-,-,-,fb,rfl,-,-⟩|⟨hne,-⟩⟩;rotate_left
  ·exact absurd rfl hne
  have K2:=zH (zK K1.out k2);clear k2;go_wp2_with fail
  refine (CR.out _ K2.out).mono ?_;rintro e w3 ⟨q3,S3,rfl,h3,t3,s3,-⟩;have M3:=zH ((Turns.of_keeps K2.out).trans t3);have ST3:=zH (s3.x (X:=fun x=>Tdot x∨x=nmO) (.inr rfl));have H3:=zH h3;clear h3 t3 s3;go_wp2_with fail
  refine (OR.out _).mono ?_;rintro e w4 ⟨rfl,rfl⟩;have kA:=zA w3 (.cells #[.int .i64 bi] 3);have kB:=zK kA (zA _ (.cells #[.pointer (some ⟨B.pb,0,none⟩), .func (.func 114) #[] #[.pointer (some ⟨w3.heap.size,0,none⟩)], .slice none 0 0, .int .i64 0] 168));have SB:SrtAt ((w3.alloc (.cells #[.int .i64 bi] 3)).alloc (.cells #[.pointer (some ⟨B.pb,0,none⟩), .func (.func 114) #[] #[.pointer (some ⟨w3.heap.size,0,none⟩)], .slice none 0 0, .int .i64 0] 168)) (w3.heap.size+1) B.pb w3.heap.size (.slice none 0 0) 0:=by
   have:=Box.new (w3.alloc (.cells #[.int .i64 bi] 3)) 168 #[.pointer (some ⟨B.pb,0,none⟩), .func (.func 114) #[] #[.pointer (some ⟨w3.heap.size,0,none⟩)], .slice none 0 0, .int .i64 0];simp only [World.size_alloc] at this;exact this
  have OB:=(Box.new w3 3 #[.int .i64 bi]).keep (zA _ (.cells #[.pointer (some ⟨B.pb,0,none⟩), .func (.func 114) #[] #[.pointer (some ⟨w3.heap.size,0,none⟩)], .slice none 0 0, .int .i64 0] 168));have SC:=zH (SV.out _ q3 S3 _ _ (H3.out.keep kB) SB (H3.out.lt (by omega)) (by have:=H3.out.base;omega) OB (H3.out.lt (Nat.le_refl _)));have KB:=zH kB;have SBH:=zH SB;clear kA kB SB OB;go_wp2_with fail
  refine SC.out.mono ?_;rintro e w5 ⟨E,q5,S5,rfl,m5,s5,hres⟩;obtain ⟨W4,hW4⟩:∃ W4,(w3.alloc (.cells #[.int .i64 bi] 3)).alloc (.cells #[.pointer (some ⟨B.pb,0,none⟩), .func (.func 114) #[] #[.pointer (some ⟨w3.heap.size,0,none⟩)], .slice none 0 0, .int .i64 0] 168)=W4:=⟨_,rfl⟩
  rw [hW4] at KB SBH m5 hres;have M5m:=zH (((M3.out.moves (fun c=>c=w3.heap.size+1)).keep KB.out).then m5);have M5:=zH (M5m.out.turns (fun i e=>by rw [show i=w3.heap.size+1 from e];have:=M3.out.only.size;omega));have SM3:=zH (show w.heap.size≤w3.heap.size from M3.out.only.size);have ST5:=zH (ST3.out.trans s5);have NSB:=zH (m5.notIn (Box.lt SBH.out) (H3.out.lt (by omega)));have SZ4:=zH (And.intro (show w.heap.size≤W4.heap.size from Nat.le_trans M3.out.only.size KB.out.size) m5.size);clear hW4 KB M3 ST3 SC SV m5 s5;rcases hres with ⟨rfl,c,hred,h5,d5⟩|⟨rfl,hQ,rn,rv,made,V5,h5,r5,o5,n5,td,nd,hl5,hv5⟩
  ·have F:=zH (show SortW K w0 B N Q A C p V ns S w nmO l BB (.returned (.int .i64 ((0:Nat):Int))) w5 from
    ⟨0,q5,S5,rfl,M5.out,ST5.out, .inl ⟨rfl,c,by rw [←HBB.out];exact hred,by
     rw [zgS] at h5;exact h5,d5⟩⟩)
   clear hred h5 d5;go_wp2;go_ret;exact F.out
  ·have hnr:nmO∉rn:=(fun e=>HOn.out.2.1 (td nmO e));have UD0:=(zn9 (nm:=nmO) h5 HZ.out HN.out r5 NSB.out (Nat.le_trans H.out.base SZ4.out.1) SZ4.out.2 o5 n5 (by omega) (fun x hx=>by
    rcases List.mem_append.1 hx with hx|hx
    ·exact List.mem_append_left _ (List.mem_reverse.2 hx)
    ·rw [List.mem_singleton] at hx;rw [hx];exact List.mem_append_right _ List.mem_cons_self) (by
    rw [List.nodup_append];refine ⟨nd,by simp,fun a ha b hb=>?_⟩;rw [List.mem_singleton] at hb;subst hb;exact fun e=>hnr (e▸ha)))
   rw [HSO.out] at UD0;have UD:=zH UD0;clear UD0;have eV:dropV (rn++[nmO]) V5=V:=by
    rw [zez];funext x
    by_cases e:x=nmO
    ·rw [e,zap];exact (H.out.tid.no HOn.out.1).symm
    ·rw [zag _ _ e];by_cases hx:x∈rn
     ·rw [zf6 _ _ _ hx];exact (H.out.tid.no (fun e2=>HOn.out.2.2 x e2 (td x hx))).symm
     ·rw [zdI _ _ _ hx,hv5 x hx e,zag _ _ e]
   have eN:dropN (rn++[nmO]) (rn.reverse++nmO::ns)=ns:=by
    rw [zeA];have:=zdJ (ns:=nmO::ns) (a:=rn) (b:=[]) (by rw [List.append_nil];exact nd);rw [List.append_nil] at this;rw [this];simp
   have TD:=zH (show ∀ x,x∈rn++[nmO]→Tdot x∨x=nmO from fun x hx=>by
    rcases List.mem_append.1 hx with hx|hx
    ·exact .inl (td x hx)
    ·exact .inr (List.mem_singleton.1 hx))
   have EVN:=zH (And.intro eV eN);have HQ:=zH hQ;have O5:=zH o5;clear h5 r5 o5 n5 td nd hl5 hv5 eV eN hnr hQ;go_wp2_with fail
   refine UD.out.mono ?_;rintro e w6 ⟨q6,S6,rfl,h6,m6,s6⟩;have F:=zH (show SortW K w0 B N Q A C p V ns S w nmO l BB (.returned (.int .i64 ((5:Nat):Int))) w6 from
    ⟨5,q6,S6,rfl,(M5m.out.trans m6 (fun i e=>.inr (.inr (Nat.le_trans SZ4.out.1 (O5.out.lt i e).1)))).turns (fun i e=>by rw [show i=w3.heap.size+1 from e];have:=SM3.out;omega),ST5.out.trans (s6.mono TD.out), .inr ⟨rfl,HQ.out,by
     rw [EVN.out.1,EVN.out.2] at h6;exact h6⟩⟩)
   clear h6 m6 s6;go_wp2;go_ret;exact F.out
end
end Go.Proofs.YtjpldnjldindkaaGreatDoor
