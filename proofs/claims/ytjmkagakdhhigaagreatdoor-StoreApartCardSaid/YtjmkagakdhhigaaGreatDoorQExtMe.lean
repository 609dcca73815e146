/- Package extsort: merge. -/
import Derived.Test.YtjmkagakdhhigaaGreatDoorQExtDel
import Derived.Test.YtjmkagakdhhigaaGreatDoorQExtB
import Derived.Deep.LoopGhost
import Derived.Deep.Light
set_option linter.unusedVariables false
set_option linter.unusedSimpArgs false
set_option maxRecDepth 100000
namespace Go.Proofs.YtjmkagakdhhigaaGreatDoor
open Go.RowKit Go.Sort
section
variable {K:DiskOk} {w0 w w':World} {B:PB} {S S' T:Nat→Prop} {p q:Pst} {N Q A C:Nat} {V:Vw} {ns:List (List UInt8)} {nm:List UInt8} {fb wb b i n sb ob mb made base:Nat} {rv:Value} {rn:List (List UInt8)} {Rs:List (List Ed)} {ss:List Src}
theorem run_to1 {P:Program} (t e:TypeId) (ht:P.underlying t=some (.slice e)) (he:(P.info? e).map (·.size)=some 1) (A:Option Addr) (n c k:Nat) (hk:k≤c) (w:World) :
 (Instr.sliceAt t (.slice A n c) none (some (.int .i64 (k:Int))) none).run P w = .ok (.slice A k c) w:=by
 have he':P.elem t=e:=by simp [Program.elem,ht]
 have ht':P.underlying t=some (.slice (P.elem t)):=by rw [he'];exact ht
 obtain ⟨i,hi,hs⟩:=Option.map_eq_some_iff.1 he
 rw [run_sliceAt_slice (h:=ht'),run_slice_h (ht:=ht') (h0:=by omega) (h2:=by omega)]
 rw [he']
 cases A with
 | none=>simp [sizeOf,typeInfo,hi,hs,sliced]
 | some ad=>simp [sizeOf,typeInfo,hi,hs,sliced,Addr.add]
theorem IsS.one {V:Vw} {nm:List UInt8} {rs rs':List (List UInt8)} (h:IsS V nm 20 rs) (k:IsS V nm 20 rs') (h0:rs=[]):rs'=[]:=by
 have e:=h.file.symm.trans k.file
 injection e with e
 have e:=congrArg List.length e
 rw [pagesS_len,pagesS_len,h0] at e
 have h1:pagesN (240/20) ([]:List (List UInt8)).length=0:=by decide
 rw [h1] at e
 cases rs' with
 | nil=>rfl
 | cons y t=>
  exfalso
  unfold pagesN at e
  simp only [List.length_cons] at e
  omega
structure Mk (w:World) (S:Nat→Prop) (pb base sb ob made mb:Nat) (rv:Value) (rn:List (List UInt8)) (bi:Int) (wb fb:Nat) (nm:List UInt8):Prop where
 r:SrtAt w sb pb ob rv made
 o:RunsAt w base rv rn
 ox:Box w ob 3 #[.int .i64 bi]
 m:Box w mb 100 #[.pointer (some ⟨sb,0,none⟩)]
 f:StrAt w fb pb nm 20
 nr:¬ S sb
 no:∀ g,rv.ownBlock=some g→¬ S g
 nob:¬ S ob
 nm:¬ S mb
 nf:¬ S fb
 nw:¬ S wb
theorem Mk.keep {pb:Nat} {bi:Int} (k:Mk w S pb base sb ob made mb rv rn bi wb fb nm) (h:Keeps w w'):Mk w' S pb base sb ob made mb rv rn bi wb fb nm:=
 ⟨Box.keep k.r h,k.o.keep h,k.ox.keep h,k.m.keep h,k.f.keep h,k.nr,k.no,k.nob,k.nm,k.nf,k.nw⟩
theorem Mk.ord {pb:Nat} {bi:Int} (k:Mk w S pb base sb ob made mb rv rn bi wb fb nm):OrdAt w mb sb ob bi:=⟨k.m.cell 0 rfl,Box.cell k.r 1 rfl,k.ox.cell 0 rfl⟩
theorem Mk.moved {pb:Nat} {bi:Int} (k:Mk w S pb base sb ob made mb rv rn bi wb fb nm) (h:Moves T w w' S S') (hT:∀ c,T c→Ty w c 226∨Ty w c 218∨Ty w c 215) (hw:wb<w.heap.size):Mk w' S' pb base sb ob made mb rv rn bi wb fb nm:=by
 have ne:∀ {c:Nat} {t:TypeId},Ty w c t→t≠226→t≠218→t≠215→¬ T c:=fun hty h1 h2 h3 e=>by
  rcases hT _ e with h|h|h
  · exact Ty.ne hty h h1 rfl
  · exact Ty.ne hty h h2 rfl
  · exact Ty.ne hty h h3 rfl
 exact ⟨Box.moved k.r h k.nr (ne (Box.ty k.r) (by decide) (by decide) (by decide)),k.o.moved h (fun g hg=>⟨k.no g hg,ne (RowO.ty k.o hg) (by decide) (by decide) (by decide)⟩),
  k.ox.moved h k.nob (ne k.ox.ty (by decide) (by decide) (by decide)),k.m.moved h k.nm (ne k.m.ty (by decide) (by decide) (by decide)),k.f.moved h k.nf (ne (Box.ty k.f) (by decide) (by decide) (by decide)),
  h.notIn (Box.lt k.r) k.nr,fun g hg=>h.notIn (k.o.lt g hg).2 (k.no g hg),h.notIn k.ox.lt k.nob,h.notIn k.m.lt k.nm,h.notIn k.f.lt k.nf,h.notIn hw k.nw⟩
def MergeV (K:DiskOk) (w0:World) (B:PB) (N Q A C:Nat) (p:Pst) (V:Vw) (ns:List (List UInt8)) (S:Nat→Prop) (w:World) (base sb ob:Nat) (rv:Value) (made:Nat) (rn:List (List UInt8)) (Rs:List (List Ed)) (hd:Bool) (n wb:Nat) (nm:List UInt8) (en:Ending) (w':World):Prop:=
 ∃ (E:Nat) (q:Pst) (S':Nat→Prop) (c:List Ed),en = .returned (.int .i64 (E:Int))∧Moves (fun c=>c=sb∨c=wb) w w' S S'∧StillX (fun x=>x∈rn∨x=nm) p q∧
  ((E=0∧RedB hd Rs.flatten c∧ExS K w0 B N Q A C q (dropV (rn.take n) (upV V nm (some (pagesS 12 (c.map edB))))) (dropN (rn.take n) ns) S' w'∧∃ rv',SrtAt w' sb B.pb ob rv' made∧RunsAt w' base rv' (rn.drop n)∧(∀ g,rv'.ownBlock=some g→¬ S' g))∨
   (E=5∧Q<4*(A*C)+4∧ExS K w0 B N Q A C q (upV V nm (some (pagesS 12 (c.map edB)))) ns S' w'∧SrtAt w' sb B.pb ob rv made∧RunsAt w' base rv rn∧(∀ g,rv.ownBlock=some g→¬ S' g)))
set_option maxHeartbeats 64000000 in
theorem emerge_any (PK:PageOk) (h:ExS K w0 B N Q A C p V ns S w) (hZ:K.Z w0) (hS:Sizes w0) (hN:N≤4096) (r:SrtAt w sb B.pb ob rv made) (hsb:¬ S sb) (hs0:w0.heap.size≤sb) {bi:Int} (hbi:bi=0∨bi=1) (ho:Box w ob 3 #[.int .i64 bi]) (hob:¬ S ob) (o:RunsAt w base rv rn) (hno:∀ g,rv.ownBlock=some g→¬ S g)
 (hw:WrAt w wb fb (0,0)) (hwb:¬ S wb) (hwb0:w0.heap.size≤wb) (hf:StrAt w fb B.pb nm 20) (hfb:¬ S fb) (si:IsS V nm 20 []) (hn:n≤rn.length) (hin:∀ x∈rn,x∈ns) (hnd:rn.Nodup) (hrl:rn.length≤1000) {l:List Ed} (hR:RunsIs V (decide (bi=1)) l (rn.take n) Rs) (hok:∀ e∈l,EdOk e) (hl:l.length≤1000) (hC:l.length≤12*C) :
 Calls Tryz.prog 100 #[.pointer (some ⟨sb,0,none⟩), .int .i64 (n:Int), .pointer (some ⟨wb,0,none⟩)] w (MergeV K w0 B N Q A C p V ns S w base sb ob rv made rn Rs (decide (bi=1)) n wb nm):=by
 have hRml:∀ R∈Rs,(∀ e∈R,e∈l)∧RedB (decide (bi=1)) R R:=fun R hRm=>by
  obtain ⟨i,hi⟩:=List.mem_iff_getElem?.1 hRm
  have hil:=(List.getElem?_eq_some_iff.1 hi).1
  have:=hR.2 i _ R (List.getElem?_eq_getElem (by rw [hR.1];exact hil)) hi
  exact ⟨this.mem,this.red⟩
 have hRl:∀ R∈Rs,R.length≤100000:=fun R hRm=>by
  have:=rise_len (hRml R hRm).2.rise (hRml R hRm).1
  omega
 have hRn:Rs.length≤1000:=by
  rw [←hR.1,List.length_take]
  omega
 have htl:(rn.take n).length=n:=by rw [List.length_take];omega
 obtain ⟨RA,rc,hrv,hrc,-⟩:=o.form
 subst hrv
 have hat:RowO w base 9 (.slice RA n rc) n ((rn.take n).map strV):=by
  have:=RowO.take o hn
  rw [←List.map_take] at this
  exact this
 have hsz1:(Tryz.prog.info? 9).map (·.size)=some 1:=by kernel_rfl
 have hsl:∀ W:World,(Instr.sliceAt 89 (.slice RA rn.length rc) none (some (.int .i64 (n:Int))) none).run Tryz.prog W = .ok (.slice RA n rc) W:=fun W=>run_to1 (P:=Tryz.prog) 89 9 Tryz.underlying89 hsz1 RA rn.length rc n (by omega) W
 have kA:=zA w (.cells #[.pointer (some ⟨sb,0,none⟩)] 100)
 have MB:=Box.new w 100 #[.pointer (some ⟨sb,0,none⟩)]
 have SO:=zH (fun (W:World) (k:Keeps w W)=>by
  have:=esources_any (rn:=rn.take n) (Rs:=Rs) (c:=rc) PK (h.keep k) hZ hS hN (Box.keep r k) hsb hok hRl hR (RowO.at_ (hat.keep k)) (fun ad e=>hno ad.block (by rw [e];rfl)) (by rw [htl];omega)
  rw [htl] at this
  exact this)
 have DR:=zH (fun (W:World) (q:Pst) (V1:Vw) (S1:Nat→Prop) (hx:ExS K w0 B N Q A C q V1 ns S1 W) (hr:SrtAt W sb B.pb ob (.slice RA rn.length rc) made) (n1:¬ S1 sb) (ho:RunsAt W base (.slice RA rn.length rc) rn) (n2:∀ g,(Value.slice RA rn.length rc).ownBlock=some g→¬ S1 g)=>edrop_any hx hZ hN hr n1 hs0 ho n2 hrl hn hin hnd)
 have MK:=(show Mk w S B.pb base sb ob made w.heap.size (.slice RA rn.length rc) rn bi wb fb nm→True from fun _=>trivial)
 have H:=zH h
 have HZ:=zH hZ
 have HS:=zH hS
 have HN:=zH hN
 have BI:=zH hbi
 have WB:=zH (And.intro hw (And.intro hwb hwb0))
 have MK0:=zH (show Mk (w.alloc (.cells #[.pointer (some ⟨sb,0,none⟩)] 100)) S B.pb base sb ob made w.heap.size (.slice RA rn.length rc) rn bi wb fb nm from
  ⟨Box.keep r kA,o.keep kA,ho.keep kA,MB,hf.keep kA,hsb,hno,hob,h.lt (Nat.le_refl _),hfb,hwb⟩)
 have SI:=zH si
 have OK:=zH hok
 have HL:=zH (And.intro hl hC)
 have RML:=zH hRml
 have HRN:=zH hRn
 have KA:=zH kA
 have hni:(n:Int)≤1000:=by omega
 have hnc:(n:Int)≤(rc:Int):=by omega
 have hn0:(0:Int)≤(n:Int):=by omega
 have HNR:=zH hn
 have hrcm:n≤rc:=by omega
 clear hRn MK h hZ hS hN r hsb hs0 hbi ho hob o hno hw hwb hwb0 hf hfb si hn hin hnd hrl hR hok hl hC hRl hRml htl hat hsz1 kA MB hrc
 go_enter Tryz.func100,Tryz.ntmps100
 go_wp2_with fail
 obtain ⟨mb,hmb⟩:∃ mb,w.heap.size=mb:=⟨_,rfl⟩
 have HMB:=zH hmb
 rw [hmb] at MK0 ⊢
 generalize w.alloc (.cells #[.pointer (some ⟨sb,0,none⟩)] 100)=W2 at *
 have SK:=zH (fun (W:World) (k:Keeps W2 W)=>show W.cell? ⟨mb,0,none⟩=some (.pointer (some ⟨sb,0,none⟩))∧W.cell? ⟨sb,2,none⟩=some (.slice RA rn.length rc) from ⟨(MK0.out.m.keep k).cell 0 rfl,(Box.keep MK0.out.r k).cell 2 rfl⟩)
 clear hmb
 go_region_held3 (fun W=>W.cell? ⟨mb,0,none⟩=some (.pointer (some ⟨sb,0,none⟩))∧W.cell? ⟨sb,2,none⟩=some (.slice RA rn.length rc)) (first|assumption|exact SK.out _ (zD _)) (first
  | (go_at_call 136;refine (SO.out _ (zK KA.out (zD _))).mono ?_;rintro ee w3 ⟨E,q3,S3,v,ss,rfl,h3,m3,s3,hres⟩;have K3:=zH m3;have mk3:=Mk.moved (T:=fun _=>False) (MK0.out.keep (zD W2)) m3 (fun c e=>e.elim) (Nat.lt_of_lt_of_le (Box.lt WB.out.1) KA.out.size);have z3:=And.intro (mk3.m.cell 0 rfl) (Box.cell mk3.r 2 rfl);have MK3:=zH mk3;have H3:=zH h3;have ST3:=zH s3;have RES:=zH hres;clear m3 mk3 h3 s3 hres))
 clear z3
 have MF:=zH (show Moves (fun _=>False) w w3 S S3 from (Moves.of_keeps (zK KA.out (zD W2)) _ S).then K3.out)
 have M3:=zH (show Moves (fun c=>c=sb∨c=wb) w w3 S S3 from MF.out.with2 (fun i e=>e.elim))
 clear SK SO K3
 rcases RES.out with ⟨rfl,hall,hpre,hrun,hat,hge,hown,hnb⟩|⟨rfl,hQ⟩
 rotate_left
 · have F:=zH (show MergeV K w0 B N Q A C p V ns S w base sb ob (.slice RA rn.length rc) made rn Rs (decide (bi=1)) n wb nm (.returned (.int .i64 ((5:Nat):Int))) w3 from
    ⟨5,q3,S3,[],rfl,M3.out,ST3.out.mono (fun x e=>e.elim), .inr ⟨rfl,hQ,by
     have e:upV V nm (some (pagesS 12 (([]:List Ed).map edB)))=V:=upV_same SI.out.file
     rw [e]
     exact H3.out,MK3.out.r,MK3.out.o,MK3.out.no⟩⟩)
   clear hQ
   go_wp2_with fail
   go_ret
   exact F.out
 have hrem:ss.map Src.rem=Rs:=by
  rw [←hall]
  refine List.map_congr_left fun s hs=>?_
  unfold Src.rem Src.all
  rw [hpre s hs]
  rfl
 have L3:=zH (show ss.length≤1000 from by
  have h1:=congrArg List.length hrem
  rw [List.length_map] at h1
  have:=HRN.out
  omega)
 have MR3:=zH (show Mrg (decide (bi=1)) Rs.flatten (ss.map Src.rem) [] from by
  rw [hrem]
  exact Mrg.first fun r hr=>(RML.out r hr).2.le)
 have RU3:=zH hrun
 have AT3:=zH (And.intro hat hge)
 have OW3:=zH hown
 have NB3:=zH hnb
 have W3:=zH (show WrAt w3 wb fb (0,0) from by
  exact Box.moved WB.out.1 MF.out WB.out.2.1 id)
 have SI0:=zH (show upV V nm (some (pagesS 12 ((uniqE []).map edB)))=V from upV_same SI.out.file)
 clear hall hpre hrun hat hge hown hnb hrem RES
 go_wp2_with fail
 go_loopg [7] (totS ss) (fun kx v wr=>∃ (s:List Ed) (ss:List Src) (q:Pst) (S1:Nat→Prop),totS ss≤kx∧ss.length≤1000∧Mrg (decide (bi=1)) Rs.flatten (ss.map Src.rem) s∧Runs1 V (decide (bi=1)) l ss∧ExS K w0 B N Q A C q (upV V nm (some (pagesS 12 ((uniqE s).map edB)))) ns S1 wr∧Moves (fun c=>c=sb∨c=wb) w wr S S1∧StillX (fun x=>x∈rn∨x=nm) p q∧
  SrcsAt wr S1 B.pb ss∧(∀ s∈ss,w.heap.size≤s.b)∧Own wr w.heap.size 215 1 v ss.length (ss.map fun s=>ptrS s.b)∧(∀ g,v.ownBlock=some g→¬ S1 g)∧Mk wr S1 B.pb base sb ob made mb (.slice RA rn.length rc) rn bi wb fb nm∧WrAt wr wb fb (lastP (uniqE s))∧IsS (upV V nm (some (pagesS 12 ((uniqE s).map edB)))) nm 20 ((uniqE s).map edB))
 case atStart=>
  go_light
  exact ⟨[],ss,q3,S3,Nat.le_refl _,L3.out,MR3.out,RU3.out,by rw [SI0.out];exact H3.out,M3.out,ST3.out.mono (fun x e=>e.elim),AT3.out.1,fun s hs=>Nat.le_trans KA.out.size (AT3.out.2 s hs),OW3.out.base_le KA.out.size,NB3.out,MK3.out,W3.out,by rw [SI0.out];exact SI.out⟩
 case round=>
  clear MR3 RU3 H3 M3 MF ST3 AT3 OW3 NB3 MK3 W3 MK0 KA SI0
  obtain ⟨s,ss,q,S1,hkx,hl1,hmr,hru,hx,hm,hst,hat,hge,hown,hnb,hmk,hwr,his⟩:=hrel
  obtain ⟨A1,c1,rfl,hc1,-,-,-⟩:=hown.form
  by_cases hz:ss=[]
  · subst hz
    have DC:=zH (DR.out wr q _ S1 hx hmk.r hmk.nr hmk.o hmk.no)
    have c0:=hmk.m.cell 0 rfl
    have RD:=zH (show RedB (decide (bi=1)) Rs.flatten (uniqE s) from hmr.done (fun e he=>by
     obtain ⟨R,hR,heR⟩:=List.mem_flatten.1 he
     exact (RML.out R hR).2.loop e heR))
    have HM:=zH hm
    have HST:=zH hst
    clear hmr hru hx hm hst hat hge hown hnb hmk hwr his hkx DR hsl
    go_wp2_with fail
    refine DC.out.mono ?_
    rintro e w4 ⟨q4,S4,rv4,rfl,h4,m4,s4,r4,o4,n4⟩
    have F:=zH (show MergeV K w0 B N Q A C p V ns S w base sb ob (.slice RA rn.length rc) made rn Rs (decide (bi=1)) n wb nm (.returned (.int .i64 ((0:Nat):Int))) w4 from
     ⟨0,q4,S4,uniqE s,rfl,HM.out.then (m4.with2 (fun i e=>.inl e)),HST.out.trans (s4.mono (fun x e=>.inl e)), .inl ⟨rfl,RD.out,h4,rv4,r4,o4,n4⟩⟩)
    clear h4 m4 s4 r4 o4 n4
    go_wp2_with fail
    go_ret
    exact F.out
  · have hpos:0<ss.length:=List.length_pos_iff.2 hz
    have MF:=zH (minFunc_any (hd:=decide (bi=1)) (ss:=ss) (c:=c1) (cb:=#[.pointer (some ⟨mb,0,none⟩)]) rfl hpos (by omega) (Own.at_ hown) rfl (fun W k a ha c hc=>least_any BI.out (hmk.ord.keep k) ((hat.at_ a ha).1.keep k) ((hat.at_ c hc).1.keep k)))
    obtain ⟨m,hm0⟩:∃ m,ss.length=m:=⟨_,rfl⟩
    have LEN:=zH hm0
    have hmi:(0:Int)<(m:Int):=by omega
    have MR:=zH hmr
    have RU:=zH hru
    have HX:=zH hx
    have HM:=zH hm
    have HST:=zH hst
    have AT:=zH (And.intro hat hge)
    have OW:=zH hown
    have NB:=zH hnb
    have MK:=zH hmk
    have WR:=zH hwr
    have IS:=zH his
    have KX:=zH (And.intro hkx hl1)
    rw [hm0] at MF OW NB hc1 ⊢
    clear hmr hru hx hm hst hat hge hown hnb hmk hwr his hkx hl1 DR hsl hpos hz hm0
    go_wp2_with fail
    refine MF.out.mono ?_
    rintro e w4 ⟨s0,hs0,rfl,hleast,g4⟩
    obtain ⟨ix,hix⟩:=List.mem_iff_getElem?.1 hs0
    have k4:=g4.keeps
    have X4:=HX.out.keep k4
    have MK4:=MK.out.keep k4
    have WR4:WrAt w4 wb fb (lastP (uniqE s)):=Box.keep WR.out k4
    have AT4:=AT.out.1.keep k4
    have hrs0:=RU.out.run s0 hs0
    have hml:s0.e∈s0.all:=by unfold Src.all;simp
    have PS:(s++[s0.e]).Pairwise (LeE (decide (bi=1))):=by
     rw [List.pairwise_append]
     refine ⟨MR.out.sorted,List.pairwise_singleton _ _,fun x hx y hy=>?_⟩
     rw [List.mem_singleton] at hy
     subst hy
     exact MR.out.ahead x hx s0.rem (List.mem_map.2 ⟨s0,hs0,rfl⟩) s0.e (by unfold Src.rem;simp)
    have hsM:∀ e∈s++[s0.e],e∈l∧e.t≠e.h:=fun e he=>by
     have hM:e∈Rs.flatten:=by
      rcases List.mem_append.1 he with he|he
      · exact (MR.out.mem e).1 (.inl he)
      · rw [List.mem_singleton] at he
        subst he
        exact (MR.out.mem _).1 (.inr ⟨s0.rem,List.mem_map.2 ⟨s0,hs0,rfl⟩,by unfold Src.rem;simp⟩)
     obtain ⟨R,hR,heR⟩:=List.mem_flatten.1 hM
     exact ⟨(RML.out R hR).1 e heR,(RML.out R hR).2.loop e heR⟩
    have hlen:(stepU (uniqE s) s0.e).length≤C*12:=by
     rw [←uniqE_snoc]
     have:=rise_len (uniqE_red (decide (bi=1)) (s++[s0.e]) PS (fun e he=>(hsM e he).2)).rise (fun e he=>(hsM e (uniqE_mem _ e he)).1)
     have:=HL.out.2
     omega
    have PT:=zH (eput_any PK X4 HZ.out HS.out HN.out MK4.f MK4.nf WR4 MK4.nw WB.out.2.2 IS.out s0.e (OK.out s0.e (hsM s0.e (by simp)).1) hlen)
    obtain ⟨k1,k2,k3,k4'⟩:=AT4.at_ s0 hs0
    have d3:=Box.cell k1 3 rfl
    have d4:=Box.cell k1 4 rfl
    have d5:=Box.cell k1 5 rfl
    have d6:=Box.cell k1 6 rfl
    have PSH:=zH (And.intro hs0 (And.intro hix hleast))
    have HR0:=zH hrs0
    have HK4:=zH MK4
    have HA4:=zH AT4
    have HW4:=zH WR4
    have HM4:=zH (HM.out.keep k4)
    have HO4:=zH (OW.out.keep k4)
    have SML:=zH hsM
    clear X4 MK4 AT4 WR4 g4 k4 hrs0 hml PS hsM hlen k1 k2 k3 k4' hs0 hix hleast MF
    unfold edG at PT
    unfold ptrS
    go_wp2_with fail
    refine PT.out.mono ?_
    rintro e w5 ⟨E,q5,V5,S5,rfl,h5,m5,s5,hres⟩
    have tyW:∀ c,c=wb→Ty w4 c 226:=fun c e=>by rw [e];exact Box.ty HW4.out
    have MK5:=HK4.out.moved m5 (fun c e=>.inl (tyW c e)) (Box.lt HW4.out)
    have M5:=HM4.out.trans m5 (fun c e=>.inr (.inl (.inr e)))
    have ST5:=HST.out.trans (s5.x (X:=fun x=>x∈rn∨x=nm) (.inr rfl))
    rcases hres with ⟨rfl,hV,hI,hW⟩|⟨rfl,hQ,hV⟩
    rotate_left
    · subst hV
      have F:=zH (show MergeV K w0 B N Q A C p V ns S w base sb ob (.slice RA rn.length rc) made rn Rs (decide (bi=1)) n wb nm (.returned (.int .i64 ((5:Nat):Int))) w5 from
       ⟨5,q5,S5,uniqE s,rfl,M5,ST5, .inr ⟨rfl,hQ,h5,MK5.r,MK5.o,MK5.no⟩⟩)
      clear h5 m5 s5 tyW MK5 M5 ST5 hQ d3 d4 d5 d6
      go_wp2_with fail
      go_ret
      exact F.out
    rw [upV_up,←uniqE_snoc] at hV
    rw [←uniqE_snoc] at hI
    subst hV
    obtain ⟨hs0,hix,hleast⟩:=PSH.out
    have AT5:SrcsAt w5 S5 B.pb ss:=HA4.out.moved m5 (fun t ht=>⟨fun e=>Ty.ne (Box.ty (HA4.out.at_ t ht).1) (tyW _ e) (by decide) rfl,fun e=>Ty.ne (Box.ty (HA4.out.at_ t ht).2.1) (tyW _ e) (by decide) rfl⟩)
    obtain ⟨k1,k2,k3,k4⟩:=AT5.at_ s0 hs0
    have hne:s0.nm≠nm:=fun e=>HR0.out.ne (by
     have h1:=IsS.one SI.out (e▸HR0.out.file) rfl
     exact List.map_eq_nil_iff.1 h1)
    have hgs:=AT.out.2 s0 hs0
    have hal:s0.all.length=s0.pre.length+1+s0.post.length:=by unfold Src.all;simp;omega
    have AV:=zH (adv_any PK h5 HZ.out HS.out HN.out k2 k4 (HR0.out.file.beside hne) (fun e he=>OK.out e (HR0.out.mem e he)) (by have:=rise_len HR0.out.red.rise HR0.out.mem;have:=HL.out.1;omega) (show SrcBox w5 s0.b s0.f (s0.pre.length+1) s0.all.length s0.e true from k1) k3 (Nat.le_trans H.out.base hgs) (by omega))
    have O5:=HO4.out.moved m5 (fun g hg=>⟨NB.out g hg,fun e=>Ty.ne (HO4.out.ty hg) (tyW _ e) (by decide) rfl⟩)
    have N5:=fun g hg=>m5.notIn (HO4.out.lt g hg).2 (NB.out g hg)
    have K5:=zH MK5
    have MM5:=zH M5
    have SS5:=zH ST5
    have A5:=zH AT5
    have OO5:=zH O5
    have NN5:=zH N5
    have I5:=zH hI
    have WW5:=zH hW
    have GS:=zH (And.intro hgs hal)
    clear h5 m5 s5 tyW MK5 M5 ST5 d3 d4 d5 d6 hI hW hs0 hix hleast AT5 k1 k2 k3 k4 hne hgs hal O5 N5 PT HO4 HA4 HK4 HM4 HW4
    unfold ptrS at AV
    go_wp2_with fail
    refine AV.out.mono ?_
    rintro e w6 ⟨E,q6,S6,rfl,h6,m6,s6,⟨rfl,hsrc⟩|⟨rfl,hQ⟩⟩
    rotate_left
    · have k1:=(A5.out.at_ s0 PSH.out.1).1
      have MK6:=K5.out.moved m6 (fun c e=>.inr (.inl (by rw [show c=s0.b from e];exact Box.ty k1))) (Box.lt WW5.out)
      have F:=zH (show MergeV K w0 B N Q A C p V ns S w base sb ob (.slice RA rn.length rc) made rn Rs (decide (bi=1)) n wb nm (.returned (.int .i64 ((5:Nat):Int))) w6 from
       ⟨5,q6,S6,uniqE (s++[s0.e]),rfl,MM5.out.trans m6 (fun c e=>.inr (.inr (by rw [show c=s0.b from e];exact GS.out.1))),SS5.out.trans (s6.x0 _), .inr ⟨rfl,hQ,h6,MK6.r,MK6.o,MK6.no⟩⟩)
      clear h6 m6 s6 hQ k1 MK6
      go_wp2_with fail
      go_ret
      exact F.out
    have k1:=(A5.out.at_ s0 PSH.out.1).1
    have tyS:∀ c,c=s0.b→Ty w5 c 218:=fun c e=>by rw [e];exact Box.ty k1
    have MK6:=zH (K5.out.moved m6 (fun c e=>.inr (.inl (tyS c e))) (Box.lt WW5.out))
    have M6:=zH (MM5.out.trans m6 (fun c e=>.inr (.inr (by rw [show c=s0.b from e];exact GS.out.1))))
    have ST6:=zH (SS5.out.trans (s6.x0 (fun x=>x∈rn∨x=nm)))
    have W6:=zH (show WrAt w6 wb fb (lastP (uniqE (s++[s0.e]))) from by
     rw [lastP_uniq]
     exact Box.moved WW5.out m6 K5.out.nw (fun e=>Ty.ne (Box.ty WW5.out) (tyS _ e) (by decide) rfl))
    have O6:=zH (OO5.out.moved m6 (fun g hg=>⟨NN5.out g hg,fun e=>Ty.ne (OO5.out.ty hg) (tyS _ e) (by decide) rfl⟩))
    have N6:=zH (fun g hg=>show ¬ S6 g from m6.notIn (OO5.out.lt g hg).2 (NN5.out g hg))
    have X6:=zH h6
    have A6:=zH A5
    have MV6:=zH m6
    clear h6 s6 k1 tyS K5 MM5 SS5 WW5 OO5 NN5 m6
    rcases hsrc with ⟨hend,hbx⟩|⟨x,hx,hbx⟩
    · have hp0:s0.post=[]:=List.eq_nil_of_length_eq_zero (by have:=GS.out.2;omega)
      obtain ⟨g,rfl⟩:∃ g,A1=some ⟨g,0,none⟩:=by
       rcases O6.out.2 with ⟨-,h0⟩|⟨g,cap,cur,fz,hv,-⟩
       · exact absurd h0 (by omega)
       · injection hv with e1 e2 e3
         exact ⟨g,e1⟩
      have AE:=A6.out.erase PSH.out.2.1 MV6.out
      have hil:=(List.getElem?_eq_some_iff.1 PSH.out.2.1).1
      have O6':Own w6 w.heap.size 215 1 (.slice (some ⟨g,0,none⟩) m c1) m ((ss.map (·.b)).map ptrS):=by
       have:=O6.out
       rw [List.map_map]
       exact this
      have DF:=zH (deleteFunc_any (bs:=ss.map (·.b)) (i:=ix) (by rw [List.length_map,LEN.out]) (by have:=KX.out.2;have:=LEN.out;omega) O6' (by have:=LEN.out;omega) (fun j b hj hb=>by
       rw [List.getElem?_map] at hb
       obtain ⟨t,ht,rfl⟩:=Option.map_eq_some_iff.1 hb
       exact ⟨_,(AE.at_ t (eraseX_mem hj ht)).1,rfl⟩) (fun b hb=>by
       rw [List.getElem?_map,PSH.out.2.1] at hb
       have hb:s0.b=b:=Option.some.inj hb
       rw [←hb]
       exact ⟨_,hbx,rfl⟩))
      have IO:=zH (isOver_any (show Box w6 s0.b 218 _ from hbx) rfl)
      have AE6:=zH AE
      have HP0:=zH hp0
      have HIL:=zH hil
      have OT:=zH O6'
      clear hend hbx hp0 AE hil O6' hmi
      unfold ptrS at IO
      go_wp2_with fail
      refine IO.out.mono ?_
      rintro e w7 ⟨rfl,rfl⟩
      go_wp2_with fail
      refine DF.out.mono ?_
      rintro e w8 ⟨rfl,o8,ow8⟩
      have tyG:∀ c,c=g→Ty w6 c 215:=fun c e=>by rw [e];exact OT.out.ty rfl
      have m8:=Moves.of_only ow8 S6
      have X8:=zH (X6.out.only ow8 (fun i e=>by rw [show i=g from e];exact Nat.le_trans H.out.base (OT.out.lt g rfl).1) (fun i hi e=>N6.out g rfl (by rw [←show i=g from e];exact hi)))
      have A8:=zH (AE6.out.moved m8 (fun t ht=>⟨fun e=>Ty.ne (Box.ty (AE6.out.at_ t ht).1) (tyG _ e) (by decide) rfl,fun e=>Ty.ne (Box.ty (AE6.out.at_ t ht).2.1) (tyG _ e) (by decide) rfl⟩))
      have MK8:=zH (MK6.out.moved m8 (fun c e=>.inr (.inr (tyG c e))) (Box.lt W6.out))
      have M8:=zH (M6.out.trans m8 (fun c e=>.inr (.inr (by rw [show c=g from e];exact (OT.out.lt g rfl).1))))
      have W8:=zH (show WrAt w8 wb fb (lastP (uniqE (s++[s0.e]))) from Box.moved W6.out m8 MK6.out.nw (fun e=>Ty.ne (Box.ty W6.out) (tyG _ e) (by decide) rfl))
      have hle:(ss.eraseIdx ix).length=m-1:=by rw [List.length_eraseIdx_of_lt HIL.out,LEN.out]
      have O8:=zH (show Own w8 w.heap.size 215 1 (.slice (some ⟨g,0,none⟩) (m-1) c1) (ss.eraseIdx ix).length ((ss.eraseIdx ix).map fun s=>ptrS s.b) from by
       rw [hle]
       have e1:((ss.map (·.b)).eraseIdx ix).map ptrS=(ss.eraseIdx ix).map fun s=>ptrS s.b:=by
        rw [List.eraseIdx_eq_take_drop_succ,List.eraseIdx_eq_take_drop_succ]
        simp only [List.map_append,List.map_take,List.map_drop,List.map_map]
        rfl
       rw [←e1]
       exact o8)
      have N8:=zH (fun g' (hg':(Value.slice (some ⟨g,0,none⟩) (m-1) c1).ownBlock=some g')=>show ¬ S6 g' from N6.out g' hg')
      have TOT:=zH (totS_erase PSH.out.2.1)
      have HLE:=zH hle
      clear o8 ow8 tyG m8 hle
      go_wp2_with fail
      go_roundg (totS (ss.eraseIdx ix))
      case measure=>go_light;have:=KX.out.1;have:=TOT.out;omega
      case rel=>
       go_light
       exact ⟨s++[s0.e],ss.eraseIdx ix,q6,S6,Nat.le_refl _,by have:=HLE.out;have:=KX.out.2;have:=LEN.out;omega,MR.out.gone PSH.out.2.1 PSH.out.2.2 HP0.out,⟨fun t ht=>RU.out.run t (List.mem_of_mem_eraseIdx ht)⟩,X8.out,M8.out,ST6.out,A8.out,fun t ht=>AT.out.2 t (List.mem_of_mem_eraseIdx ht),O8.out,N8.out,MK8.out,W8.out,I5.out⟩
    · obtain ⟨post',hp'⟩:∃ post',s0.post=x::post':=by
       unfold Src.all at hx
       rw [List.getElem?_append_right (by omega),show s0.pre.length+1-s0.pre.length=1 by omega,List.getElem?_cons_succ] at hx
       cases hq:s0.post with
       | nil=>rw [hq] at hx;simp at hx
       | cons y t=>
        rw [hq] at hx
        simp only [List.getElem?_cons_zero,Option.some.injEq] at hx
        exact ⟨t,by rw [hx]⟩
      obtain ⟨s1,hs1⟩:∃ s1:Src,s1=⟨s0.b,s0.f,s0.nm,s0.pre++[s0.e],x,post'⟩:=⟨_,rfl⟩
      have hall1:s1.all=s0.all:=by
       rw [hs1]
       unfold Src.all
       simp only [List.append_assoc,List.singleton_append]
       rw [hp']
      have hsa:SrcAt w6 s1:=by
       have e1:s1.cells=srcC s0.f (s0.pre.length+1+1) s0.all.length x true:=by
        unfold Src.cells
        rw [hall1,hs1]
        simp only [List.length_append,List.length_singleton]
       have e2:s1.b=s0.b:=by rw [hs1]
       unfold SrcAt
       rw [e1,e2]
       exact hbx
      have AS:=zH (A6.out.set PSH.out.2.1 MV6.out (s1:=s1) (by rw [hs1]) (by rw [hs1]) (by rw [hs1]) hsa)
      have IO:=zH (isOver_any (show Box w6 s0.b 218 _ from hbx) rfl)
      have EB:=zH (show (ss.set ix s1).map (fun s=>ptrS s.b)=ss.map fun s=>ptrS s.b from by
       rw [List.map_set]
       apply List.ext_getElem?
       intro k
       rw [List.getElem?_set]
       split
       · rename_i e
         subst e
         split
         · rw [List.getElem?_map,PSH.out.2.1,hs1];rfl
         · rename_i hk
           rw [List.getElem?_eq_none (by omega)]
       · rfl)
      have RN:=zH (MR.out.next PSH.out.2.1 PSH.out.2.2 (s1:=s1) (by rw [hs1,hp'];rfl))
      have RR:=zH (show ∀ t∈ss.set ix s1,RunIs V (decide (bi=1)) l t.nm t.all∧w.heap.size≤t.b from fun t ht=>by
       rcases mem_setX ht with rfl|⟨j,-,hj⟩
       · rw [hall1]
         refine ⟨?_,?_⟩
         · have:=HR0.out
           rw [show t.nm=s0.nm by rw [hs1]]
           exact this
         · rw [show t.b=s0.b by rw [hs1]]
           exact GS.out.1
       · exact ⟨RU.out.run t (List.mem_of_getElem? hj),AT.out.2 t (List.mem_of_getElem? hj)⟩)
      have TOT:=zH (totS_set (s1:=s1) PSH.out.2.1)
      have TP:=zH (show s1.post.length<s0.post.length from by rw [hs1,hp'];simp)
      clear hx hbx hp' hs1 hall1 hsa
      unfold ptrS at IO
      go_wp2_with fail
      refine IO.out.mono ?_
      rintro e w7 ⟨rfl,rfl⟩
      go_wp2_with fail
      go_roundg (totS (ss.set ix s1))
      case measure=>go_light;have:=KX.out.1;have:=TOT.out;have:=TP.out;omega
      case rel=>
       go_light
       exact ⟨s++[s0.e],ss.set ix s1,q6,S6,Nat.le_refl _,by rw [List.length_set];exact KX.out.2,RN.out,⟨fun t ht=>(RR.out t ht).1⟩,X6.out,M6.out,ST6.out,AS.out,fun t ht=>(RR.out t ht).2,by rw [List.length_set,EB.out,LEN.out];exact O6.out,N6.out,MK6.out,W6.out,I5.out⟩
end
end Go.Proofs.YtjmkagakdhhigaaGreatDoor
