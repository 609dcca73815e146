/- An argument of type milepostlaw13.Net opened. -/
import Derived.Test.YtjmkagakdhhigaaGreatDoorQFrame
import Derived.Test.YtjmkagakdhhigaaGreatDoorQStView
import Derived.Test.YtjmkagakdhhigaaGreatDoorQStNm
import Derived.Deep.RegionHeld3
import Derived.Test.YtjmkagakdhhigaaGreatDoorQPoolHeal
import Derived.Test.YtjmkagakdhhigaaGreatDoorQExtRf
import Derived.Test.YtjmkagakdhhigaaGreatDoorQLawExt0
set_option linter.unusedVariables false
set_option linter.unusedSimpArgs false
set_option maxRecDepth 100000
namespace Go.Proofs.YtjmkagakdhhigaaGreatDoor
open Go.RowKit
open Go.ChangeShapes Go.WideShapes Go.ChangeAt Go.Deep
structure NetS where
 A:Option Addr
 m:Nat
 c:Nat
 Av:Option Addr
 nv:Nat
 cv:Nat
 g:Int
 f:Nat
 l:List Ed
 vs:List Vt
structure NetOk (W:World) (e:NetS):Prop where
 m:e.m=e.l.length
 c:e.m≤e.c
 mx:e.c≤maxLen
 l:At W W.heap.size e.A (edsC e.l)
 ok:∀ x∈e.l,EdOk x
 nv:e.nv=e.vs.length
 cv:e.nv≤e.cv
 mv:e.cv≤maxLen
 vs:At W W.heap.size e.Av (vtsC e.vs)
 ov:∀ x∈e.vs,VtOk x
 g : -9223372036854775808≤e.g∧e.g≤9223372036854775807
 f:e.f<256
def netA (e:NetS):Array Value:=#[.slice e.A e.m e.c, .slice e.Av e.nv e.cv, .int .i64 e.g, .int .u8 (e.f:Int)]
theorem flat_net:flat Tryz.prog 6 49=some [22,47,3,5]:=by kernel_rfl
theorem cells_net:Tryz.prog.cellsOf 49=[22,47,3,5].length:=by kernel_rfl
theorem net_of {H:Type} {enc:TypeId×Value→H} {W:World} {rc:Reach} {b0:Nat} {v:Value} {d:DataW H} {p:List MemPlace} (hv:Value.okWide Tryz.prog W rc b0 49 v) (hT:DataW.Trod enc Tryz.prog W 0 (fun _=>true) true 49 v d p) :
 ∃ e:NetS,v = .agg (netA e)∧NetOk W e:=by
 obtain ⟨cs,rfl,hl,hf⟩:=flat_agg Tryz.underlying49 flat_net cells_net hv hT
 match cs,hl with
 | [d0,d1,d2,d3],_=>
  obtain ⟨c0,hc0,lf0⟩:=hf 0 22 rfl
  obtain ⟨c1,hc1,lf1⟩:=hf 1 47 rfl
  obtain ⟨c2,hc2,lf2⟩:=hf 2 3 rfl
  obtain ⟨z2,rfl,q2⟩:=lf2.int Tryz.underlying3
  have m2:=bounds_i64 q2
  obtain ⟨c3,hc3,lf3⟩:=hf 3 5 rfl
  obtain ⟨z3,rfl,q3⟩:=lf3.int Tryz.underlying5
  obtain ⟨x3,rfl,m3⟩:=nat_u8 q3
  obtain rfl:=Option.some.inj hc0
  obtain rfl:=Option.some.inj hc1
  obtain rfl:=Option.some.inj hc2
  obtain rfl:=Option.some.inj hc3
  obtain ⟨m,y,h⟩:=lf0
  have hs:∃ A n c,d0 = .slice A n c:=by
   rcases open_slice Tryz.underlying22 h with ⟨hcs,_⟩|⟨a,len,cap,m',n',D,Pl,hcs,_⟩
   · simp only [List.cons.injEq,and_true] at hcs
     exact ⟨_,_,_,hcs⟩
   · simp only [List.cons.injEq,and_true] at hcs
     exact ⟨_,_,_,hcs⟩
  obtain ⟨A,n,c,rfl⟩:=hs
  obtain ⟨l,h1,h2,h3,h4,h5⟩:=edges_of (d:=y.1) (p:=y.2) ⟨m,h⟩
  obtain ⟨m',y',h'⟩:=lf1
  have hs:∃ A n c,d1 = .slice A n c:=by
   rcases open_slice Tryz.underlying47 h' with ⟨hcs,_⟩|⟨a,len,cap,m',n',D,Pl,hcs,_⟩
   · simp only [List.cons.injEq,and_true] at hcs
     exact ⟨_,_,_,hcs⟩
   · simp only [List.cons.injEq,and_true] at hcs
     exact ⟨_,_,_,hcs⟩
  obtain ⟨Av,nv,cv,rfl⟩:=hs
  obtain ⟨vs,g1,g2,g3,g4,g5⟩:=verts_of (d:=y'.1) (p:=y'.2) ⟨m',h'⟩
  exact ⟨⟨A,n,c,Av,nv,cv,z2,x3,l,vs⟩,rfl,⟨h1,h2,h3,h4,h5,g1,g2,g3,g4,g5,m2,m3⟩⟩
end Go.Proofs.YtjmkagakdhhigaaGreatDoor
namespace Go.Proofs.YtjmkagakdhhigaaGreatDoor
open Go.RowKit Go.Sort
theorem info_vert:(Tryz.prog.info? 74).map (fun i=>(i.zero,i.size,i.bytes))=some (some (.agg #[.int .u32 0, .int .u32 0, .int .u32 0]),3,12):=by kernel_rfl
theorem own_empty13 (w:World) (e:TypeId) (size:Nat):Own (w.alloc (.cells #[] e)) w.heap.size e size (.slice (some ⟨w.heap.size,0,none⟩) 0 0) 0 []:=
 ⟨by simp, .inr ⟨w.heap.size,0,#[],(0,0),rfl,Nat.le_refl _,heap_alloc_new w _, .inl rfl,Nat.le_refl _,by simp [maxLen],by simp,by simp⟩⟩
theorem vtsC_ones (l:List Vt):∀ u∈vtsC l,u.oneCell'=true:=by
 intro u hu
 obtain ⟨e,_,he⟩:=List.mem_flatMap.1 hu
 simp only [vtC,List.mem_cons,List.not_mem_nil,or_false] at he
 rcases he with rfl|rfl|rfl<;>rfl
theorem vtsC_len (l:List Vt):(vtsC l).length=l.length*3:=flatMap_length vtC 3 vtC_length l
theorem step_app13 {P:Program} {w:World} {ops:Array Oper} {o:Oper} {a:Act} {K:Act→World→Prop} {Q:Exit→Act→World→Prop} {E:Prop} (hg:Region.wanted o (yielded ops a.tmps)=true) (s x:Operand) (t:TypeId)
 (ho:o.op = .call {callee:=.builtin .append,args:=#[s,x],argTypes:=#[t,t]})
 (base:Nat) (e:TypeId) (i:TypeInfo) (z:Value) (size bytes:Nat) (ht:P.underlying t=some (.slice e)) (hi:P.info? e=some i) (hz:i.zero=some z)
 (hsize:i.size=size) (hby:i.bytes=bytes) (hzs:z.cells.size=size) (hsz:0<size)
 (v:Value) (n:Nat) (xs:List Value) (hs:a.eval s=v) (hown:Own w base e size v n xs)
 (B:Nat) (A:Option Addr) (m c:Nat) (news:List Value) (hx:a.eval x = .slice A m c) (hm:news.length=m*size) (hr:At w B A news) (h1:∀ u∈news,u.oneCell'=true)
 (h63:n+m≤maxLen) (hbytes:(n+m)*bytes≤140737488355328) (hbase:base≤w.heap.size)
 (hK:∀ v' w',Own w' base e size v' (n+m) (xs++news)→w.grownBy w' v.ownBlock→(v'.ownBlock=v.ownBlock∨v'.ownBlock=some w.heap.size)→K (a.put o.dst v') w') :
 if Region.wanted o (yielded ops a.tmps)=true then Oper.wp P o a w K Q else E:=by
 rw [if_pos hg]
 exact wp_app w s x t ho base e i z size bytes ht hi hz hsize hby hzs hsz v n xs hs hown B A m c news hx hm hr h1 h63 hbytes hbase hK
theorem net_box (w:World) (x:NetS):Box (w.alloc (.cells (netA x) 49)) w.heap.size 49 (netA x):=Box.new _ _ _
theorem vast13_any (x:NetS) (w:World):Calls Tryz.prog 17 #[.agg (netA x)] w fun e w'=>e = .returned (.bool (decide (300<x.m∨100<x.nv)))∧Keeps w w':=by
 have k1:=zH (zA w (.cells #[.slice x.A x.m x.c, .slice x.Av x.nv x.cv, .int .i64 x.g, .int .u8 (x.f:Int)] 49))
 have B1:=net_box w x
 unfold netA at *
 have c0:=B1.cell 0 rfl
 have c1:=B1.cell 1 rfl
 clear B1
 by_cases h1:300<x.m
 · have h1':(300:Int)<(x.m:Int):=by omega
   rw [decide_eq_true (.inl h1)]
   clear h1
   go_enter Tryz.func17,Tryz.ntmps17
   go_wp2_with fail
   go_ret
   exact ⟨rfl,k1.out⟩
 · have h1':decide ((300:Int)<(x.m:Int))=false:=decide_eq_false (by omega)
   have h1'':decide (300<x.m)=false:=decide_eq_false (by omega)
   by_cases h2:100<x.nv
   · have h2':(100:Int)<(x.nv:Int):=by omega
     rw [decide_eq_true (.inr h2)]
     clear h1 h2
     go_enter Tryz.func17,Tryz.ntmps17
     go_wp2_with fail
     go_ret
     exact ⟨rfl,k1.out⟩
   · have h2':decide ((100:Int)<(x.nv:Int))=false:=decide_eq_false (by omega)
     have h2'':decide (100<x.nv)=false:=decide_eq_false (by omega)
     rw [decide_eq_false (by omega)]
     clear h1 h2
     go_enter Tryz.func17,Tryz.ntmps17
     go_wp2_with fail
     go_ret
     exact ⟨rfl,k1.out⟩
structure MadeAt (K:DiskOk) (wb:World) (B:PB) (N:Nat) (g:Nat) (a b:List Ed) (vs:List Vt) (gb bv bt bh:Nat) (q:Pst) (V:Vw) (S:Nat→Prop) (w:World):Prop where
 ex:ExS K wb B N 131072 70 50 q V [nmG 118 g,nmG 114 g,nmG 101 g,xN] S w
 gr:GrAt w S B (nmG 101 g) (nmG 114 g) (nmG 118 g) vs.length gb bv bt bh
 gn:GenV V (nmG 101 g) (nmG 114 g) (nmG 118 g) a b vs
 te:Tidy q (nmG 101 g)
 tr:Tidy q (nmG 114 g)
 tv:Tidy q (nmG 118 g)
def MadeV (K:DiskOk) (w:World) (x:NetS) (e:Ending) (w':World):Prop:=
 (¬ (0≤x.g∧x.g≤1048576)∧e = .returned (.tuple #[.pointer none, .pointer none, .bool false])∧Keeps w w')∨
 (∃ (wb:World) (B:PB) (g:Nat) (a b:List Ed) (gb bv bt bh:Nat) (q:Pst) (V:Vw) (S:Nat→Prop),x.g=(g:Int)∧g≤1048576∧e = .returned (.tuple #[.pointer (some ⟨B.db,0,none⟩), .pointer (some ⟨gb,0,none⟩), .bool false])∧Keeps w wb∧RedB false x.l a∧RedB true x.l b∧MadeAt K wb B (8+x.f%40) g a b x.vs gb bv bt bh q V S w')
section
variable {K:DiskOk} {wb w w':World} {B:PB} {N g gb bv bt bh:Nat} {a b:List Ed} {vs:List Vt} {q q':Pst} {V:Vw} {S S':Nat→Prop}
end
def Once (l:List Ed) (i:Nat) (x:Ed):Prop:=l[i]? = some x∧∀ j y,l[j]? = some y→j≠i→y≠x
def belowE (hd:Bool) (v:Nat) (a:List Ed):Nat:=(a.filter fun e=>decide (endE hd e<v)).length
set_option maxHeartbeats 8000000 in
theorem fileOf13_any (base:Nat) (v:Value) (l:List (List UInt8×List UInt8)) (nm:List UInt8) (sv:ByteArray) (hv:sv=str nm) (w:World) (h:FilesAt w base v l) (hl:l.length≤9223372036854775000) :
 Calls Tryz.prog 23 #[v, .string sv] w (LookV w base (lookF l nm)):=by
 subst hv
 obtain ⟨vs,h1,h2,h3⟩:=h
 obtain ⟨A,c,rfl,hc,-⟩:=h2.form
 have H1:=zH h1
 have H2:=zH h2
 have H3:=zH h3
 obtain ⟨RR,hRR⟩:∃ RR,lookF l nm=RR:=⟨_,rfl⟩
 rw [hRR]
 have HRR:=zH hRR
 clear h1 h2 h3 hRR
 go_enter Tryz.func23,Tryz.ntmps23
 go_wp2_with fail
 go_loopw [6] (fun i wr=>∃ j:Nat,j≤l.length∧i = .int .i64 j∧(∀ k q,k<j→l[k]? = some q→q.1≠nm)∧w=wr) (fun i _=>l.length-(intOf i).toNat)
 case atStart=>exact ⟨0,Nat.zero_le _,rfl,fun k q hk=>by omega,rfl⟩
 case round=>
  obtain ⟨j,hj,rfl,hpre,rfl⟩:=hrel
  have HP:=zH hpre
  clear hpre
  by_cases hlt:j<l.length
  · obtain ⟨p,hp⟩:∃ p,l[j]? = some p:=⟨_,List.getElem?_eq_getElem hlt⟩
    obtain ⟨x,hx,c0,c1⟩:=files_cells l vs H1.out j p hp
    have hxl:((l.zip vs).flatMap fun p=>[strV p.1.1,p.2]).length=l.length*2:=H2.out.1
    obtain ⟨g,rfl,q0,-⟩:=H2.out.cell (j:=j*2) (by rw [hxl];omega)
    obtain ⟨g',hg',q1,-⟩:=H2.out.cell (j:=j*2+1) (by rw [hxl];omega)
    obtain rfl:g=g':=by injection hg' with hg';injection hg'
    rw [c0] at q0
    rw [c1] at q1
    unfold strV at q0
    have hjn:(j:Int)<(l.length:Int):=by omega
    have HPP:=zH hp
    have OX:=zH (H3.out j p.2 x (by rw [hp];rfl) hx)
    have hse:=str_eq p.1 nm
    clear hxl c0 c1 hg' hp hx
    by_cases hn:p.1=nm
    · have hb:decide (p.1=nm)=true:=decide_eq_true hn
      rw [hb] at hse
      have FD:=zH (lookF_at HPP.out hn HP.out)
      obtain ⟨Ax,cx,rfl,hcx,-⟩:=OX.out.form
      clear hn hb
      generalize (str p.1)=s1 at *
      generalize (str nm)=s2 at *
      go_wp2_with fail
      refine bodyPost_ret (v:=.tuple #[.slice Ax p.2.length cx, .bool true]) (by simp [results,Tryz.results23,go_sem]) rfl ?_
      rw [←HRR.out,FD.out]
      exact ⟨keeps_refl _,Ax,cx,rfl,OX.out⟩
    · have hb:decide (p.1=nm)=false:=decide_eq_false hn
      rw [hb] at hse
      have HN:=zH hn
      clear hn hb
      generalize (str p.1)=s1 at *
      generalize (str nm)=s2 at *
      go_wp2_with fail
      go_roundw
      case rel=>exact ⟨j+1,by omega,by go_num,fun k q hk hq=>by
       by_cases e:k=j
       · subst e
         rw [HPP.out] at hq
         obtain rfl:=Option.some.inj hq
         exact HN.out
       · exact HP.out k q (by omega) hq,trivial⟩
      case measure=>simp [intOf];omega
  · obtain rfl:j=l.length:=by omega
    have NO:=zH (show lookF l nm=none from lookF_none fun k q hq=>HP.out k q (List.getElem?_eq_some_iff.1 hq).1 hq)
    clear hlt hj
    go_wp2_with fail
    refine bodyPost_ret (v:=.tuple #[.slice none 0 0, .bool false]) (by simp [results,Tryz.results23,go_sem]) rfl ?_
    rw [←HRR.out,NO.out]
    exact ⟨keeps_refl _,rfl⟩
section
variable {K:DiskOk} {w0 w w':World} {B:PB} {S S':Nat→Prop} {p q:Pst} {N Q A C:Nat} {V:Vw} {ns:List (List UInt8)} {nmI nmO:List UInt8} {bi:Int}
set_option maxHeartbeats 16000000 in
theorem sort_there (h:ExS K w0 B N Q A C p V ns S w) (hZ:K.Z w0) (hb:¬ SortNo N nmI nmO bi) {rs:List (List UInt8)} (s:IsS V nmI 20 rs) (hlO:nmO.length≤maxLen) (hO:nameOk nmO=true) (hin:nmO∈ns) :
 Calls Tryz.prog 12 #[.pointer (some ⟨B.pb,0,none⟩), .string (str nmI), .string (str nmO), .int .i64 bi] w fun e w'=>∃ S',e = .returned (.int .i64 4)∧ExS K w0 B N Q A C p V ns S' w'∧Turns w w' S S':=by
 have HI:=zH (hasPre_any nmI)
 have HO:=zH (hasPre_any nmO)
 have FR:=zH (fun (W:World) (k:Keeps w W)=>e_frames (h.keep k))
 have OP:=zH (fun (W:World) (k:Keeps w W)=>by
  have:=sopen_any (h.pj.keep k) hZ h.runs (by omega) (h.len24 s) 20
  rw [open_zero h s] at this
  exact this)
 have CR:=zH (fun (W:World) (k:Keeps w W)=>by
  have:=x_create_no (h.keep k) hZ hlO (.inr hin)
  rw [if_neg (by rw [hO];decide)] at this
  exact this)
 unfold SortNo at hb
 have hse:((str nmI).toList == (str nmO).toList)=false:=by rw [str_toList,str_toList,beq_eq_false_iff_ne];exact fun e=>hb (.inr (.inl e))
 have eI:decide (nmI.take 2=[116,46])=false:=decide_eq_false (fun e=>hb (.inr (.inr (.inl e))))
 have eO:decide (nmO.take 2=[116,46])=false:=decide_eq_false (fun e=>hb (.inr (.inr (.inr (.inl e)))))
 have hN:¬ (N:Int)<8:=fun e=>hb (.inr (.inr (.inr (.inr (by omega)))))
 rw [eI] at HI
 rw [eO] at HO
 have HBI:Hid (((bi != 0)=true∧(bi != 1)=false)∨(bi != 0)=false):=zH (by
  have hbi:bi=0∨bi=1:=Classical.byContradiction fun g=>hb (.inl g)
  rcases hbi with rfl|rfl<;>simp)
 clear hb eI eO h s hO hlO hin
 generalize str nmI=si at *
 generalize str nmO=so at *
 rcases HBI.out with ⟨g1,g2⟩|g1
 all_goals
  go_enter Tryz.func12,Tryz.ntmps12
  go_wp2_with fail
  refine (HI.out _).mono ?_
  rintro e w1 ⟨rfl,rfl⟩
  go_wp2_with fail
  refine (HO.out _).mono ?_
  rintro e w1 ⟨rfl,rfl⟩
  go_wp2_with fail
  refine (FR.out _ (keeps_refl _)).mono ?_
  rintro e w1 ⟨rfl,k1⟩
  have K1:=zH k1
  clear k1
  go_wp2_with fail
  refine (OP.out _ K1.out).mono ?_
  rintro e w2 ⟨k2,⟨-,-,-,fb,rfl,-,-⟩|⟨hne,-⟩⟩
  rotate_left
  · exact absurd rfl hne
  have K2:=zH (zK K1.out k2)
  clear k2
  go_wp2_with fail
  refine (CR.out _ K2.out).mono ?_
  rintro e w3 ⟨S3,rfl,h3,t3⟩
  have R:=zH (And.intro h3 ((Turns.of_keeps K2.out).trans t3))
  clear h3 t3
  go_wp2_with fail
  go_ret
  exact ⟨S3,rfl,R.out.1,R.out.2⟩
variable {sE sR sV:ByteArray} {vv:Value} {bp br bv bs:Nat}
set_option maxHeartbeats 4000000 in
theorem mk1_there (h:ExS K w0 B N Q A C p V ns S w) (hZ:K.Z w0) (hb:¬ SortNo N nmI nmO 0) {rs:List (List UInt8)} (s:IsS V nmI 20 rs) (hlO:nmO.length≤maxLen) (hO:nameOk nmO=true) (hin:nmO∈ns) (c:MkAt w S B nmI sE sR sV vv bp br bv bs) :
 Calls Tryz.prog 77 #[.string (str nmO), .pointer (some ⟨bp,0,none⟩), .pointer (some ⟨br,0,none⟩)] w fun e w'=>∃ S',e = .returned (.int .i64 4)∧ExS K w0 B N Q A C p V ns S' w'∧Turns w w' S S':=by
 have SO:=zH (sort_there h hZ hb s hlO hO hin)
 have c0:=c.p.cell 0 rfl
 have c1:=c.r.cell 0 rfl
 generalize str nmO=sO at *
 generalize str nmI=sI at *
 clear h hZ hb s hlO hO hin c
 go_enter Tryz.func77,Tryz.ntmps77
 go_wp2_with fail
 refine SO.out.mono ?_
 rintro e w2 ⟨S2,rfl,x2,t2⟩
 have X2:=zH x2
 have T2:=zH t2
 clear x2 t2 c0 c1
 go_wp2_with fail
 go_ret
 exact ⟨S2,rfl,X2.out,T2.out⟩
set_option maxHeartbeats 16000000 in
theorem gmake_there (h:ExS K w0 B N Q A C p V ns S w) (hZ:K.Z w0) (hT:PowT w0) (hN8:8≤N) {rs:List (List UInt8)} (s:IsS V nmI 20 rs) (g:Nat) (hg:g≤1048576) (hE:nmG 101 g∈ns) (hIE:nmI≠nmG 101 g) (hdI:nmI.take 2≠[116,46]) (Av:Option Addr) (nv cv:Nat) :
 Calls Tryz.prog 37 #[.pointer (some ⟨B.pb,0,none⟩), .string (str nmI), .int .i64 (g:Int), .slice Av nv cv] w fun e w'=>∃ S',e = .returned (.int .i64 4)∧ExS K w0 B N Q A C p V ns S' w'∧Turns w w' S S':=by
 have GE:=zH (fun W=>isGen_any (g:Int) W)
 rw [decide_eq_true (show 0≤(g:Int)∧(g:Int)≤1048576 by omega)] at GE
 have NME:=zH (fun (W:World) (kW:Keeps w0 W)=>nameG_any (hT.keep kW) 101 101 rfl g (by omega))
 have NMR:=zH (fun (W:World) (kW:Keeps w0 W)=>nameG_any (hT.keep kW) 114 114 rfl g (by omega))
 have NMV:=zH (fun (W:World) (kW:Keeps w0 W)=>nameG_any (hT.keep kW) 118 118 rfl g (by omega))
 have NOK:=zH (show nameOk (nmG 101 g)=true∧(nmG 101 g).length≤maxLen∧¬ SortNo N nmI (nmG 101 g) 0 from ⟨nmG_ok rfl hg,Nat.le_trans (nmG_len 101 hg).1 (by decide),by
  unfold SortNo
  rintro (e|e|e|e|e)
  · exact e (.inl rfl)
  · exact hIE e
  · exact hdI e
  · exact nmG_dot (by decide) g e
  · omega⟩)
 have k1:=zA w (.cells #[.pointer (some ⟨B.pb,0,none⟩)] 25)
 have k2:=zA (w.alloc (.cells #[.pointer (some ⟨B.pb,0,none⟩)] 25)) (.cells #[.string (str nmI)] 9)
 have k3:=zA ((w.alloc (.cells #[.pointer (some ⟨B.pb,0,none⟩)] 25)).alloc (.cells #[.string (str nmI)] 9)) (.cells #[.slice Av nv cv] 47)
 have K3:=zH (zK k1 (zK k2 k3))
 have B1:=zH (((Box.new w 25 #[.pointer (some ⟨B.pb,0,none⟩)]).keep k2).keep k3)
 have B2:=zH (show Box _ (w.heap.size+1) 9 #[.string (str nmI)] from by simpa using (Box.new (w.alloc (.cells #[.pointer (some ⟨B.pb,0,none⟩)] 25)) 9 #[.string (str nmI)]).keep k3)
 have B3:=zH (show Box _ (w.heap.size+1+1) 47 #[.slice Av nv cv] from by simpa using Box.new ((w.alloc (.cells #[.pointer (some ⟨B.pb,0,none⟩)] 25)).alloc (.cells #[.string (str nmI)] 9)) 47 #[.slice Av nv cv])
 have c0:=B1.out.cell 0 rfl
 have H:=zH h
 have HZ:=zH hZ
 have SI:=zH s
 have HE:=zH hE
 have KP3:=zH (zK h.pj.kp K3.out)
 clear h hZ hT hN8 s hg hE hIE hdI k1 k2 k3
 generalize nmG 101 g=nE at *
 generalize nmG 114 g=nR at *
 generalize nmG 118 g=nV at *
 go_enter Tryz.func37,Tryz.ntmps37
 go_wp2_with fail
 refine (GE.out _).mono ?_
 rintro e w1 ⟨rfl,rfl⟩
 clear GE
 go_wp2_with fail
 refine (NME.out _ KP3.out).mono ?_
 rintro e w4 ⟨rfl,k4⟩
 have K4:=zH k4
 clear k4 c0
 go_wp2_with fail
 refine (NMR.out _ (zK KP3.out K4.out)).mono ?_
 rintro e w5 ⟨rfl,k5⟩
 have K5:=zH (zK K4.out k5)
 clear k5
 go_wp2_with fail
 refine (NMV.out _ (zK KP3.out K5.out)).mono ?_
 rintro e w6 ⟨rfl,k6⟩
 have K6:=zH (zK K5.out k6)
 clear k6
 have kb:=zA w6 (.cells #[.string (str nE), .func (.func 77) #[] #[.pointer (some ⟨w.heap.size,0,none⟩), .pointer (some ⟨w.heap.size+1,0,none⟩)], .string (str nR), .func (.func 78) #[] #[.pointer (some ⟨w.heap.size,0,none⟩), .pointer (some ⟨w.heap.size+1,0,none⟩)], .string (str nV), .func (.func 79) #[] #[.pointer (some ⟨w.heap.size,0,none⟩), .pointer (some ⟨w.heap.size+1+1,0,none⟩)]] 148)
 have MA:=zH (show MkAt (w6.alloc (.cells #[.string (str nE), .func (.func 77) #[] #[.pointer (some ⟨w.heap.size,0,none⟩), .pointer (some ⟨w.heap.size+1,0,none⟩)], .string (str nR), .func (.func 78) #[] #[.pointer (some ⟨w.heap.size,0,none⟩), .pointer (some ⟨w.heap.size+1,0,none⟩)], .string (str nV), .func (.func 79) #[] #[.pointer (some ⟨w.heap.size,0,none⟩), .pointer (some ⟨w.heap.size+1+1,0,none⟩)]] 148)) S B nmI (str nE) (str nR) (str nV) (.slice Av nv cv) w.heap.size (w.heap.size+1) (w.heap.size+1+1) w6.heap.size from
  ⟨(B1.out.keep K6.out).keep kb,(B2.out.keep K6.out).keep kb,(B3.out.keep K6.out).keep kb,Box.new _ _ _,H.out.lt (Nat.le_refl _),H.out.lt (by omega),H.out.lt (by omega),H.out.lt (zK K3.out K6.out).size⟩)
 have X7:=zH (H.out.keep (zK K3.out (zK K6.out kb)))
 have T7:=zH (Turns.of_keeps (S:=S) (zK K3.out (zK K6.out kb)))
 clear kb B1 B2 B3 NME NMR NMV
 go_wp2_with fail
 go_loopw [37] (fun i wr=>i = .int .i64 0∧ExS K w0 B N Q A C p V ns S wr∧MkAt wr S B nmI (str nE) (str nR) (str nV) (.slice Av nv cv) w.heap.size (w.heap.size+1) (w.heap.size+1+1) w6.heap.size∧Turns w wr S S) (fun _ _=>0)
 case atStart=>exact ⟨rfl,X7.out,MA.out,T7.out⟩
 case round=>
  obtain ⟨rfl,hx,hc,ht⟩:=hrel
  have TQ:=zH ht
  have c0:=hc.s.cell 0 rfl
  have c1:=hc.s.cell 1 rfl
  have ka:=zA wr (.cells #[.string (str nE), .func (.func 77) #[] #[.pointer (some ⟨w.heap.size,0,none⟩), .pointer (some ⟨w.heap.size+1,0,none⟩)]] 148)
  have SO:=zH (mk1_there (hx.keep ka) HZ.out NOK.out.2.2 SI.out NOK.out.2.1 NOK.out.1 HE.out (hc.keep ka))
  have KA:=zH ka
  clear hx hc ht ka
  go_wp2_with fail
  refine SO.out.mono ?_
  rintro e w8 ⟨S8,rfl,x8,t8⟩
  have F:=zH (show ∃ S',ExS K w0 B N Q A C p V ns S' w8∧Turns w w8 S S' from ⟨S8,x8,(TQ.out.trans (Turns.of_keeps KA.out)).trans t8⟩)
  clear x8 t8 c0 c1 SO
  go_wp2_with fail
  go_loopw [53] (fun i wr=>i = .int .i64 0∧wr=w8) (fun _ _=>0)
  case atStart=>exact ⟨rfl,rfl⟩
  case round=>
   obtain ⟨rfl,rfl⟩:=hrel
   obtain ⟨S9,x9,t9⟩:=F.out
   have X9:=zH x9
   have T9:=zH t9
   clear x9 t9
   go_wp2_with fail
   go_ret
   exact ⟨S9,rfl,X9.out,T9.out⟩
end
end Go.Proofs.YtjmkagakdhhigaaGreatDoor
