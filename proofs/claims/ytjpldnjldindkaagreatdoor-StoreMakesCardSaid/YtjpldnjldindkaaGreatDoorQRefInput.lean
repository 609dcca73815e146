/- The contracts of package milepostref05: Head and Row. -/
import Derived.Test.YtjpldnjldindkaaGreatDoorQRefWeight
import Derived.Outline
import Derived.Test.YtjpldnjldindkaaGreatDoorQEdges
import Derived.Lib.SlBytesConst
set_option linter.all false
set_option maxHeartbeats 0
set_option maxRecDepth 100000
namespace Go.Proofs.YtjpldnjldindkaaGreatDoor
open Go.RowKit
def zsS (r:HRes):Value:=.tuple #[.int .u32 (r.n:Int), .int .u32 (r.m:Int), .int .i64 (r.e:Int), .int .i64 (r.a:Int)]
def zs3 (r:RRes):Value:=.tuple #[.agg #[.int .u32 (r.ed.t:Int), .int .u32 (r.ed.h:Int), .int .u64 (r.ed.x:Int), .int .u32 (r.ed.m:Int)], .int .i64 (r.e:Int), .int .i64 (r.a:Int)]
theorem zdL:(Tryz.prog.info? 64).map (fun i=>(i.zero,i.size,i.bytes))=some (some (.agg #[.int .u32 0, .int .u32 0, .int .u64 0, .int .u32 0]),4,24):=by kernel_rfl
theorem zbQ (l:List Ed):∀ u∈edsC l,u.oneCell'=true:=by
 intro u hu;obtain ⟨e,_,he⟩:=List.mem_flatMap.1 hu;simp only [edC,List.mem_cons,List.not_mem_nil,or_false] at he;rcases he with rfl|rfl|rfl|rfl<;>rfl
def NewE (w:World) (l:List Ed) (e:Ending) (w':World):Prop:=∃ v,e = .returned v∧Own w' w.heap.size 64 4 v l.length (edsC l)∧Keeps w w'
def zs4 (w:World) (r:CRes) (e:Ending) (w':World):Prop:=
 ∃ v,e = .returned (.tuple #[.int .u32 (r.n:Int),v, .int .i64 (r.e:Int), .int .i64 (r.a:Int)])∧Own w' w.heap.size 64 4 v r.l.length (edsC r.l)∧Keeps w w'
structure Rows (n m:Nat) (l:List UInt8) (k:Nat) (acc:List Ed):Prop where
 len:acc.length=k
 le:12+16*k≤l.length
 km:k≤m
 eq:rowsS n m (l.drop 12) 12=if (rowsS n (m-k) (l.drop (12+16*k)) (12+16*k)).e=0 then ⟨acc++(rowsS n (m-k) (l.drop (12+16*k)) (12+16*k)).l,0,0⟩ else ⟨[],(rowsS n (m-k) (l.drop (12+16*k)) (12+16*k)).e,(rowsS n (m-k) (l.drop (12+16*k)) (12+16*k)).a⟩
def zs5 (w:World) (N:Nat) (l:List Ed) (e:Ending) (w':World):Prop:=
 (WOk N l∧∃ v,e = .returned (.tuple #[v, .int .i64 0])∧Own w' w.heap.size 5 1 v (zoA N l).length (cel (zoA N l))∧Keeps w w')∨
 (¬ WOk N l∧e = .returned (.tuple #[.slice none 0 0, .int .i64 1])∧Keeps w w')
def EdG (W:World) (g j:Nat) (e:Ed):Prop:=W.cell? ⟨g,j*4,none⟩=some (.int .u32 (e.t:Int))∧W.cell? ⟨g,j*4+1,none⟩=some (.int .u32 (e.h:Int))∧W.cell? ⟨g,j*4+2,none⟩=some (.int .u64 (e.x:Int))∧W.cell? ⟨g,j*4+3,none⟩=some (.int .u32 (e.m:Int))
theorem EdG.keep {W V:World} {g j:Nat} {e:Ed} (h:EdG W g j e) (k:Keeps W V):EdG V g j e:=⟨k.cellOf h.1,k.cellOf h.2.1,k.cellOf h.2.2.1,k.cellOf h.2.2.2⟩
def EdF (W:World) (g j:Nat):Prop:=W.frozen? ⟨g,j*4,none⟩=false∧W.frozen? ⟨g,j*4+1,none⟩=false∧W.frozen? ⟨g,j*4+2,none⟩=false∧W.frozen? ⟨g,j*4+3,none⟩=false
theorem zdy {W:World} {B g n cap:Nat} {T:TypeId} {l:List Ed} (h:Own W B T 4 (.slice (some ⟨g,0,none⟩) n cap) n (edsC l)) {j:Nat} {e:Ed} (he:l[j]? = some e):EdG W g j e∧EdF W g j:=by
 have hj:=(zI9.1 he).1;have f:∀ i,i<4→(edsC l)[j*4+i]? = (edC e)[i]?:=fun i hi=>by
  unfold edsC;rw [zaZ edC 4 za0 l hi,he];rfl
 have G:∀ i,i<4→W.cell? ⟨g,j*4+i,none⟩=(edC e)[i]? ∧ W.frozen? ⟨g,j*4+i,none⟩=false:=fun i hi=>by
  obtain ⟨g',e',c0,z0,_⟩:=h.cell (j:=j*4+i) (by rw [zau];omega);injection e' with e';injection e' with e';subst e';exact ⟨c0.trans (f i hi),z0⟩
 exact ⟨⟨(G 0 (by decide)).1,(G 1 (by decide)).1,(G 2 (by decide)).1,(G 3 (by decide)).1⟩,⟨(G 0 (by decide)).2,(G 1 (by decide)).2,(G 2 (by decide)).2,(G 3 (by decide)).2⟩⟩
theorem zrY (l:List Ed) (a:Nat) (z:Ed):((((edsC l).set (a*4) (.int .u32 (z.t:Int))).set (a*4+1) (.int .u32 (z.h:Int))).set (a*4+2) (.int .u64 (z.x:Int))).set (a*4+3) (.int .u32 (z.m:Int))=edsC (l.set a z):=by
 unfold edsC;induction l generalizing a with
 | nil=>simp
 | cons x l ih=>
  rcases a with _|a
  ·simp [edC]
  ·have e:(a+1)*4=a*4+1+1+1+1:=(by omega);rw [e];simp only [List.flatMap_cons,edC,List.set_cons_succ,List.cons_append,List.nil_append];rw [←ih a]
def stEd (W:World) (g j:Nat) (f:Ed):World:=(((W.setCell ⟨g,j*4,none⟩ (.int .u32 (f.t:Int))).setCell ⟨g,j*4+1,none⟩ (.int .u32 (f.h:Int))).setCell ⟨g,j*4+2,none⟩ (.int .u64 (f.x:Int))).setCell ⟨g,j*4+3,none⟩ (.int .u32 (f.m:Int))
theorem Own.stored {W:World} {B g cap:Nat} {T:TypeId} {l:List Ed} (h:Own W B T 4 (.slice (some ⟨g,0,none⟩) l.length cap) l.length (edsC l)) {j:Nat} (hj:j<l.length) (z:Ed):Own (stEd W g j z) B T 4 (.slice (some ⟨g,0,none⟩) (l.set j z).length cap) (l.set j z).length (edsC (l.set j z)):=by
 have o1:=h.store (j:=j*4) (by rw [zau];omega) (.int .u32 (z.t:Int));have o2:=o1.store (j:=j*4+1) (by rw [List.length_set,zau];omega) (.int .u32 (z.h:Int));have o3:=o2.store (j:=j*4+2) (by rw [List.length_set,List.length_set,zau];omega) (.int .u64 (z.x:Int));have o4:=o3.store (j:=j*4+3) (by rw [List.length_set,List.length_set,List.length_set,zau];omega) (.int .u32 (z.m:Int));rw [zrY] at o4;rw [List.length_set];exact o4
theorem Own.stored' {W:World} {B g cap n:Nat} {T:TypeId} {l:List Ed} (hn:l.length=n) (h:Own W B T 4 (.slice (some ⟨g,0,none⟩) n cap) n (edsC l)) {j:Nat} (hj:j<n) (z:Ed):Own (stEd W g j z) B T 4 (.slice (some ⟨g,0,none⟩) n cap) n (edsC (l.set j z)):=by
 subst hn;have:=h.stored hj z;rw [List.length_set] at this;exact this
theorem zdM {W:World} {B g cap n:Nat} {T:TypeId} {l:List Ed} (h:Own W B T 4 (.slice (some ⟨g,0,none⟩) n cap) n (edsC l)) {j:Nat} {e:Ed} (he:l[j]? = some e):EdG W g j e∧EdF W g j:=zdy h he
theorem EdBox.farSt {W:World} {b g:Nat} {T:TypeId} {e:Ed} (h:EdBox W b T e) (hb:b≠g) (j:Nat) (f:Ed):EdBox (stEd W g j f) b T e:=
 ⟨(((h.box.far (p:=⟨g,j*4,none⟩) hb _).far (p:=⟨g,j*4+1,none⟩) hb _).far (p:=⟨g,j*4+2,none⟩) hb _).far (p:=⟨g,j*4+3,none⟩) hb _⟩
theorem zrZ {α:Type} (a:List α) (r:Nat) (hr:r<a.length) (z y:α) (hy:a[r]? = some y):(a.take (r+1)++z::a.drop (r+1)).set (r+1) y=a.take r++y::a.drop r:=by
 have hl:(a.take (r+1)).length=r+1:=by rw [List.length_take];omega
 have e1:(a.take (r+1)++z::a.drop (r+1)).set (r+1) y=a.take (r+1)++y::a.drop (r+1):=by
  rw [List.set_append_right _ _ (by omega),hl,Nat.sub_self];rfl
 have h1:a[r]=y:=(zI9.1 hy).2;rw [e1,List.take_succ_eq_append_getElem hr,h1,List.drop_eq_getElem_cons hr,h1];simp
theorem zj7 {α:Type} (a:List α) (p:Nat) (hp:p≤a.length) (z y:α):(a.take p++z::a.drop p).set p y=a.take p++y::a.drop p:=by
 have hl:(a.take p).length=p:=by rw [List.length_take];omega
 rw [List.set_append_right _ _ (by omega),hl,Nat.sub_self];rfl
theorem zr0 {α:Type} (a:List α) (r:Nat) (hr:r<a.length) (z:α):(a.take (r+1)++z::a.drop (r+1))[r]? = a[r]?:=by
 rw [List.getElem?_append_left (by rw [List.length_take];omega),List.getElem?_take,if_pos (by omega)]
theorem zgd {α:Type} (a:List α) (p:Nat) (hp:p≤a.length) (z:α):(a.take p++z::a.drop p)[p]? = some z:=by
 have hl:(a.take p).length=p:=by rw [List.length_take];omega
 rw [List.getElem?_append_right (by omega),hl,Nat.sub_self];rfl
theorem zcQ {α:Type} (a:List α) (p:Nat) (hp:p≤a.length) (z:α):(a.take p++z::a.drop p).length=a.length+1:=by
 simp;omega
theorem zdd {B:Nat} {a W:World} (h:Below B a W) {g:Nat} (hb:B≤g) (j:Nat) (f:Ed):Below B a (stEd W g j f):=
 (((h.setCell (p:=⟨g,j*4,none⟩) hb _).setCell (p:=⟨g,j*4+1,none⟩) hb _).setCell (p:=⟨g,j*4+2,none⟩) hb _).setCell (p:=⟨g,j*4+3,none⟩) hb _
theorem zoB {a:List Ed} {p:Nat} {e:Ed} (h:a[p]? = some e):a=a.take p++e::a.drop (p+1):=by
 have hp:=(zI9.1 h).1;have h1:a[p]=e:=(zI9.1 h).2;rw [←h1,←List.drop_eq_getElem_cons hp,List.take_append_drop]
theorem zoC {a:List Ed} {p:Nat} {e x:Ed} (h:Rise a) (he:a[p]? = some e) (hx:ahd x e=true):∀ f∈a.drop p,ahd x f=true:=by
 intro f hf;have hp:=(zI9.1 he).1;have h1:a[p]=e:=(zI9.1 he).2;rw [List.drop_eq_getElem_cons hp,h1] at hf;have h2:Rise (a.drop p):=List.Pairwise.sublist (List.drop_sublist p a) h;rw [List.drop_eq_getElem_cons hp,h1] at h2;rcases List.mem_cons.1 hf with rfl|hf
 ·exact hx
 ·exact zmG hx ((List.pairwise_cons.1 h2).1 f hf)
theorem zfk (a b:Ed) (w:World) :
 Calls Tryz.prog 97 #[.agg (edA a), .agg (edA b)] w fun e w'=>e = .returned (.bool (ahd a b))∧Keeps w w':=by
 have k0:=fun a b=>zK (zA w a) (zA (w.alloc a) b)
 unfold edA;by_cases h1:a.t<b.t
 ·have e1:ahd a b=true:=(by simp [ahd,h1]);rw [e1];clear e1;go_enter Tryz.func97,Tryz.ntmps97;go_wp2
  go_ret;exact ⟨rfl,k0 _ _⟩
 ·by_cases h2:a.t=b.t
  ·have e1:ahd a b=decide (a.h<b.h):=(by simp [ahd,h2]);have h3:((a.t:Int) == (b.t:Int))=true:=by rw [beq_iff_eq];omega
   have h4:decide (a.t<b.t)=false:=decide_eq_false (by omega);rw [e1];clear e1 h1 h2;go_enter Tryz.func97,Tryz.ntmps97;go_wp2
   go_ret;exact ⟨by simp [h4],k0 _ _⟩
  ·have e1:ahd a b=false:=(by simp [ahd,h1,h2]);have h3:((a.t:Int) == (b.t:Int))=false:=by rw [beq_eq_false_iff_ne];omega
   have h4:decide (a.t<b.t)=false:=decide_eq_false (by omega);rw [e1];clear e1 h1 h2;go_enter Tryz.func97,Tryz.ntmps97;go_wp2
   go_ret;exact ⟨by simp [h4],k0 _ _⟩
theorem ziM (A:Option Addr) (n c:Nat) (l:List Ed) (w:World) (hB:At w w.heap.size A (edsC l)) (hok:∀ e∈l,EdOk e) (hnl:n=l.length) (hn:n≤1000000) :
 Calls Tryz.prog 60 #[.slice A n c] w fun e w'=>∃ a,Red l a∧NewE w a e w':=by
 obtain ⟨i0,hi,hz0,hz1,hz2⟩:=info_parts zdL;have HB:=zH hB;have HNL:=zH hnl;have HOK:=zH hok;have hn2:(n:Int)≤1000000:=by omega
 clear hB hnl hok;go_enter Tryz.func60,Tryz.ntmps60;go_wp2;go_loopw [3,4] (fun v i wr=>∃ (k:Nat) (a:List Ed),k≤n∧i = .int .i64 k∧Own wr w.heap.size 64 4 v a.length (edsC a)∧Red (l.take k) a∧a.length≤k∧Keeps w wr) (fun _ i _=>n-(intOf i).toNat)
 case atStart=>exact ⟨0,[],Nat.zero_le _,rfl,Own.nil _ _ _ _,zqE,Nat.zero_le _,zab _⟩
 case round=>
  obtain ⟨k,a,hk,rfl,hO,hR,hak,hkp⟩:=hrel;obtain ⟨A1,c1,rfl,hc1,-,-,-⟩:=hO.form;have HR:=zH hR;have HAK:=zH hak;have hO':=zH hO;clear hR hak hO;by_cases hlt:k<n
  ·obtain ⟨x,hx⟩:∃ x,l[k]? = some x:=(⟨_,zG9 (by have:=HNL.out;omega)⟩);obtain ⟨ad,rfl,_,hE⟩:=zbJ HB.out hx;obtain ⟨a0,a1,a2,a3⟩:=hE.keep hkp;have okx:=zH (HOK.out _ (List.mem_of_getElem? hx));have HX:=zH hx;have hkn:(k:Int)<(n:Int):=by omega
   have k0:(0:Int)≤(k:Int):=(by omega);have ET:=zH (show l.take (k+1)=l.take k++[x] by
    rw [List.take_succ_eq_append_getElem (by have:=HNL.out;omega)];rw [zG9 (by have:=HNL.out;omega)] at hx;rw [Option.some.inj hx])
   clear hx hlt;by_cases hl:x.t=x.h
   ·have hl':((x.t:Int) == (x.h:Int))=true:=by rw [beq_iff_eq];omega
    have HLP:=zH hl;have FIN:=zH (show Red (l.take (k+1)) a by rw [ET.out];exact HR.out.loop1 hl);clear hl;go_wp2_with fail
    refine ⟨⟨k+1,a,by omega,by go_num,hO'.out.keep (zA _ _),FIN.out,by have:=HAK.out;omega,zK hkp (zA _ _)⟩,?_⟩;simp [intOf];omega
   ·have hl':((x.t:Int) == (x.h:Int))=false:=by rw [beq_eq_false_iff_ne];omega
    have HLP:=zH hl;have hal:(a.length:Int)≤1000000:=by have:=HAK.out;omega
    have O0:=hO'.out.keep (zA wr (.cells #[.int .u32 (x.t:Int), .int .u32 (x.h:Int), .int .u64 (x.x:Int), .int .u32 (x.m:Int)] 64));have X0:=EdBox.new wr 64 x;have K0:=zK hkp (zA wr (.cells #[.int .u32 (x.t:Int), .int .u32 (x.h:Int), .int .u64 (x.x:Int), .int .u32 (x.m:Int)] 64));have hxb:w.heap.size≤wr.heap.size:=hkp.size;have hgx:(Value.slice A1 a.length c1).ownBlock≠some wr.heap.size:=fun e=>by
     have:=(hO'.out.lt _ e).2;omega
    clear hl hkp hE hO';go_wp2_with fail
    clear a0 a1 a2 a3 hl';generalize wr.alloc (.cells #[.int .u32 (x.t:Int), .int .u32 (x.h:Int), .int .u64 (x.x:Int), .int .u32 (x.m:Int)] 64)=W0 at *;generalize wr.heap.size=xb at *;go_loopw [6] (fun at_ wi=>∃ p:Nat,p≤a.length∧at_ = .int .i64 p∧(∀ j e,j<p→a[j]? = some e→ahd e x=true)∧Keeps W0 wi) (fun at_ _=>a.length-(intOf at_).toNat)
    case atStart=>exact ⟨0,Nat.zero_le _,rfl,fun j e hj=>by omega,zab _⟩
    case round=>
     obtain ⟨p,hp,rfl,hlo,hks⟩:=hrel;have OW:=O0.keep hks;have BX:=X0.keep hks;have KW:=zK K0 hks;obtain ⟨x0,x1,x2,x3⟩:=BX.cells;have LO:=zH hlo;clear hlo;by_cases hpl:p<a.length
     ·obtain ⟨e,he⟩:∃ e,a[p]? = some e:=(⟨_,zG9 hpl⟩);obtain ⟨g,rfl,-,-,hgb⟩:=OW.cell (j:=p*4) (by rw [zau];omega);obtain ⟨hG,hF⟩:=zdy OW he;have hpn:(p:Int)<(a.length:Int):=(by omega);have hp0:(0:Int)≤(p:Int):=by omega
      have C1:=zH (zfk e x);have C2:=zH (zfk x e);have SS:=zH (fun (V:World) (k:Keeps wr V)=>And.intro (hG.keep k) (BX.keep k).cells);have HE:=zH he;have HF:=zH hF;have HOW:=zH OW;have HBX:=zH BX;clear he hG hF OW BX x0 x1 x2 x3;go_wp2_with fail
      go_region_held3 (fun V=>(V.cell? ⟨g,p*4,none⟩=some (.int .u32 (e.t:Int))∧V.cell? ⟨g,p*4+1,none⟩=some (.int .u32 (e.h:Int))∧V.cell? ⟨g,p*4+2,none⟩=some (.int .u64 (e.x:Int))∧V.cell? ⟨g,p*4+3,none⟩=some (.int .u32 (e.m:Int)))∧(V.cell? ⟨xb,0,none⟩=some (.int .u32 (x.t:Int))∧V.cell? ⟨xb,1,none⟩=some (.int .u32 (x.h:Int))∧V.cell? ⟨xb,2,none⟩=some (.int .u64 (x.x:Int))∧V.cell? ⟨xb,3,none⟩=some (.int .u32 (x.m:Int)))) (exact SS.out _ (by first|assumption|exact zD _)) (first
       | (go_at_call 97;refine (C1.out _).mono ?_;rintro ee w1 ⟨rfl,k1⟩;replace k1:=zK (zD _) k1))
      cases hb:ahd e x
      ·have SS1:=zH (fun (V:World) (k:Keeps w1 V)=>SS.out V (zK k1 k));have g1:=SS.out w1 k1;go_wp2_with fail
       go_region_held3 (fun V=>(V.cell? ⟨g,p*4,none⟩=some (.int .u32 (e.t:Int))∧V.cell? ⟨g,p*4+1,none⟩=some (.int .u32 (e.h:Int))∧V.cell? ⟨g,p*4+2,none⟩=some (.int .u64 (e.x:Int))∧V.cell? ⟨g,p*4+3,none⟩=some (.int .u32 (e.m:Int)))∧(V.cell? ⟨xb,0,none⟩=some (.int .u32 (x.t:Int))∧V.cell? ⟨xb,1,none⟩=some (.int .u32 (x.h:Int))∧V.cell? ⟨xb,2,none⟩=some (.int .u64 (x.x:Int))∧V.cell? ⟨xb,3,none⟩=some (.int .u32 (x.m:Int)))) (exact SS1.out _ (by first|assumption|exact zD _)) (first
        | (go_at_call 97;refine (C2.out _).mono ?_;rintro ee w2 ⟨rfl,k2⟩;replace k2:=zK (zD _) k2))
       cases hb2:ahd x e
       ·have SS2:=zH (fun (V:World) (k:Keeps w2 V)=>SS1.out V (zK k2 k));have oke:=zH (HOK.out e (List.mem_of_mem_take (HR.out.mem e (List.mem_of_getElem? HE.out))));have C3:=zH (ziL x.t x.h x.x x.m e.t e.h e.x e.m okx.out.x okx.out.m oke.out.x oke.out.m);clear g1;have g1:=SS1.out w2 k2;go_wp2_with fail
        go_region_held3 (fun V=>(V.cell? ⟨g,p*4,none⟩=some (.int .u32 (e.t:Int))∧V.cell? ⟨g,p*4+1,none⟩=some (.int .u32 (e.h:Int))∧V.cell? ⟨g,p*4+2,none⟩=some (.int .u64 (e.x:Int))∧V.cell? ⟨g,p*4+3,none⟩=some (.int .u32 (e.m:Int)))∧(V.cell? ⟨xb,0,none⟩=some (.int .u32 (x.t:Int))∧V.cell? ⟨xb,1,none⟩=some (.int .u32 (x.h:Int))∧V.cell? ⟨xb,2,none⟩=some (.int .u64 (x.x:Int))∧V.cell? ⟨xb,3,none⟩=some (.int .u32 (x.m:Int)))) (exact SS2.out _ (by first|assumption|exact zD _)) (first
         | (go_at_call 98;refine (C3.out _).mono ?_;rintro ee w3 ⟨rfl,k3⟩;replace k3:=zK (zD _) k3))
        have k13:=zK k1 (zK k2 k3);have hpair:Pair x e:=zqD hb2 hb;have SPL:=zH (show a=a.take p++e::a.drop (p+1) from zoB HE.out);have RED:=zH (show Red (l.take (k+1)) (a.take p++(bif betE x e then x else e)::a.drop (p+1)) by
         rw [ET.out];exact Red.better1 (by rw [←SPL.out];exact HR.out) hpair)
        have hbe:betE x e=betB x.x x.m e.x e.m:=rfl;rw [hbe] at RED;cases hb3:betB x.x x.m e.x e.m
        ·rw [hb3] at RED;simp only [cond_false] at RED;rw [←SPL.out] at RED;clear g1;go_wp2_with fail
         refine ⟨⟨k+1,a,by omega,by go_num,HOW.out.keep k13,RED.out,by have:=HAK.out;omega,zK KW k13⟩,?_⟩;simp [intOf];omega
        ·rw [hb3] at RED;simp only [cond_true] at RED;have es:a.take p++x::a.drop (p+1)=a.set p x:=(List.set_eq_take_append_cons_drop.trans (if_pos hpl)).symm;rw [es] at RED;have OW3:=HOW.out.keep k13;obtain ⟨-,f0,f1,f2,f3⟩:=zdy OW3 HE.out;clear g1;obtain ⟨-,x0,x1,x2,x3⟩:=SS.out w3 k13;have ST:=zH (OW3.stored hpl x);have KS:=zH (zdd (zK KW k13) (g:=g) hgb p x);clear OW3;go_wp2_with fail
         refine ⟨⟨k+1,a.set p x,by omega,by go_num,by have:=ST.out;rw [List.length_set] at this ⊢;exact this,RED.out,by rw [List.length_set];have:=HAK.out;omega,KS.out⟩,?_⟩;simp [intOf];omega
       ·clear g1;have k12:=zK k1 k2;have HI:=zH (show ∀ f∈a.drop p,ahd x f=true from zoC HR.out.rise HE.out hb2);have TT:=zH (fun (V:World) (k:Keeps wr V)=>And.intro (HOW.out.keep k) (And.intro (HBX.out.keep k) (zK KW k)));have RED:=zH (show Red (l.take (k+1)) (a.take p++x::a.drop p) by
         rw [ET.out];exact Red.new1 (by rw [List.take_append_drop];exact HR.out) HLP.out (fun f hf=>by
          obtain ⟨j,hj⟩:=List.getElem?_of_mem hf;have hj2:=(zI9.1 hj).1;rw [List.length_take] at hj2;rw [List.getElem?_take,if_pos (by omega)] at hj;exact LO.out j f (by omega) hj) HI.out)
        go_wp2_with (at_builtin;refine zaj _ rfl _ _ 22 rfl w.heap.size 64 i0 (.agg #[.int .u32 0, .int .u32 0, .int .u64 0, .int .u32 0]) 4 24 Tryz.underlying22 hi hz0 hz1 hz2 rfl (by decide) _ a.length (edsC a) rfl ((TT.out _ k12).1.keep (zA _ _)) _ _ 1 1 (edC x) rfl rfl (At.new _ _ _ _ (Nat.lt_succ_self _)) (by intro u hu;exact zbQ [x] u (by simpa [edsC] using hu)) (by unfold maxLen;omega) (by omega) (zK (TT.out _ k12).2.2 (zA _ _)).size ?_)
        intro v' w5 hown' hgrow hblk;have TO:=TT.out _ k12;have K5:Keeps w w5:=Below.grown (zK TO.2.2 (zA _ _)) hgrow (zK TO.2.2 (zA _ _)).size (fun g hg=>(TO.1.lt g hg).1);have BX5:EdBox w5 xb 64 x:=⟨(hgrow.block xb (by have:=TO.2.1.box.lt;simp only [World.size_alloc];omega) (fun e=>hgx e.symm)).trans (TO.2.1.keep (zA _ _)).box⟩
        obtain ⟨A5,c5,rfl,hc5,-,-,-⟩:=hown'.form;obtain ⟨g5,rfl,-,-,hgb5⟩:=hown'.cell (j:=0) (by rw [List.length_append,za0];omega);have hx5:xb≠g5:=fun e=>by
         have hb:=TO.2.1.box.lt;rcases hblk with h|h
         ·exact hgx (by rw [←h,←e];rfl)
         ·have:(Value.slice (some ⟨g5,0,none⟩) (a.length+1) c5).ownBlock=some g5:=rfl;rw [this,←e] at h;try simp only [World.size_alloc] at h
          injection h with h;omega
        have hc5':((a.length:Int)+1)≤(c5:Int):=(by omega);have e5:edsC a++edC x=edsC (a++[x]):=by simp [edsC]
        rw [e5] at hown';have O5:=zH hown';have B5:=zH BX5;clear hown' BX5 hgrow hblk TO;go_wp2;go_loopw [7] (fun i wr=>∃ (q:Nat) (z:Ed),p≤q∧q≤a.length∧i = .int .i64 q∧Own wr w.heap.size 64 4 (.slice (some ⟨g5,0,none⟩) (a.length+1) c5) (a.length+1) (edsC (a.take q++z::a.drop q))∧EdBox wr xb 64 x∧Keeps w wr) (fun i _=>(intOf i).toNat)
        case atStart=>exact ⟨a.length,x,by omega,Nat.le_refl _,by go_num,by simpa using O5.out,B5.out,K5⟩
        case round=>
         obtain ⟨q,z,hq1,hq2,rfl,hOq,hBq,hKq⟩:=hrel;by_cases hlq:p<q
         ·obtain ⟨r,rfl⟩:∃ r,q=r+1:=(⟨q-1,by omega⟩);obtain ⟨y,hy⟩:∃ y,a[r]? = some y:=⟨_,zG9 (by omega)⟩
          obtain ⟨⟨y0,y1,y2,y3⟩,-⟩:=zdM hOq (j:=r) ((zr0 a r (by omega) z).trans hy);obtain ⟨⟨z0,z1,z2,z3⟩,f0,f1,f2,f3⟩:=zdM hOq (j:=r+1) (zgd a (r+1) hq2 z);have ST:=zH (by have:=hOq.stored' (zcQ a (r+1) hq2 z) (j:=r+1) (by omega) y;rwa [zrZ a r (by omega) z y hy] at this);have BT:=zH (hBq.farSt hx5 (r+1) y);have KT:=zH (zdd hKq (g:=g5) hgb5 (r+1) y);have O9:=zH hOq;clear hOq hBq hKq hy;go_wp2_with fail
          exact ⟨⟨r,y,by omega,by omega,rfl,ST.out,BT.out,KT.out⟩,by simp [intOf]⟩
         ·have hqe:q=p:=(by omega);rw [hqe] at hOq;obtain ⟨⟨z0,z1,z2,z3⟩,f0,f1,f2,f3⟩:=zdM hOq (j:=p) (zgd a p (by omega) z);obtain ⟨x0,x1,x2,x3⟩:=hBq.cells;have ST:=zH (by have:=hOq.stored' (zcQ a p (by omega) z) (j:=p) (by omega) x;rwa [zj7 a p (by omega) z x] at this);have KT:=zH (zdd hKq (g:=g5) hgb5 p x);have O9:=zH hOq;clear hOq hBq hKq;go_wp2_with fail
          refine ⟨⟨k+1,a.take p++x::a.drop p,by omega,by go_num,by rw [zcQ a p (by omega) x];exact ST.out,RED.out,by rw [zcQ a p (by omega) x];have:=HAK.out;omega,KT.out⟩,?_⟩;simp [intOf];omega
      ·have LO':=zH (show ∀ j f,j<p+1→a[j]? = some f→ahd f x=true from fun j f hj hf=>by
        by_cases hjp:j=p
        ·subst hjp;rw [HE.out] at hf;obtain rfl:=Option.some.inj hf;exact hb
        ·exact LO.out j f (by omega) hf)
       go_wp2;go_roundw
       case rel=>exact ⟨p+1,by omega,by go_num,LO'.out,zK hks k1⟩
       case measure=>simp [intOf];omega
     ·obtain rfl:p=a.length:=(by omega);go_wp2_with fail
      have HOW:=zH OW;have HBX:=zH BX;have HI:=zH (show ∀ f∈a.drop a.length,ahd x f=true from fun f hf=>by rw [List.drop_length] at hf;simp at hf);clear OW BX x0 x1 x2 x3;go_quiet (fail)
      have k9:=zam wr nq;generalize wr.drewN nq=wq at *;go_wp2;go_quiet (fail)
      have k10:=zK k9 (zam wq nq);generalize wq.drewN nq=wz at *;obtain ⟨x0,x1,x2,x3⟩:=(HBX.out.keep k10).cells;have TT:=zH (fun (V:World) (k:Keeps wr V)=>And.intro (HOW.out.keep k) (And.intro (HBX.out.keep k) (zK KW k)));have RED:=zH (show Red (l.take (k+1)) (a.take a.length++x::a.drop a.length) by
       rw [ET.out];exact Red.new1 (by rw [List.take_append_drop];exact HR.out) HLP.out (fun f hf=>by
        obtain ⟨j,hj⟩:=List.getElem?_of_mem hf;have hj2:=(zI9.1 hj).1;rw [List.length_take] at hj2;rw [List.getElem?_take,if_pos (by omega)] at hj;exact LO.out j f (by omega) hj) HI.out)
      go_wp2_with (at_builtin;refine zaj _ rfl _ _ 22 rfl w.heap.size 64 i0 (.agg #[.int .u32 0, .int .u32 0, .int .u64 0, .int .u32 0]) 4 24 Tryz.underlying22 hi hz0 hz1 hz2 rfl (by decide) _ a.length (edsC a) rfl ((TT.out _ k10).1.keep (zA _ _)) _ _ 1 1 (edC x) rfl rfl (At.new _ _ _ _ (Nat.lt_succ_self _)) (by intro u hu;exact zbQ [x] u (by simpa [edsC] using hu)) (by unfold maxLen;omega) (by omega) (zK (TT.out _ k10).2.2 (zA _ _)).size ?_)
      intro v' w5 hown' hgrow hblk;have TO:=TT.out _ k10;have K5:Keeps w w5:=Below.grown (zK TO.2.2 (zA _ _)) hgrow (zK TO.2.2 (zA _ _)).size (fun g hg=>(TO.1.lt g hg).1);have BX5:EdBox w5 xb 64 x:=⟨(hgrow.block xb (by have:=TO.2.1.box.lt;simp only [World.size_alloc];omega) (fun e=>hgx e.symm)).trans (TO.2.1.keep (zA _ _)).box⟩
      obtain ⟨A5,c5,rfl,hc5,-,-,-⟩:=hown'.form;obtain ⟨g5,rfl,-,-,hgb5⟩:=hown'.cell (j:=0) (by rw [List.length_append,za0];omega);have hx5:xb≠g5:=fun e=>by
       have hb:=TO.2.1.box.lt;rcases hblk with h|h
       ·exact hgx (by rw [←h,←e];rfl)
       ·have:(Value.slice (some ⟨g5,0,none⟩) (a.length+1) c5).ownBlock=some g5:=rfl;rw [this,←e] at h;try simp only [World.size_alloc] at h
        injection h with h;omega
      have hc5':((a.length:Int)+1)≤(c5:Int):=(by omega);have e5:edsC a++edC x=edsC (a++[x]):=by simp [edsC]
      rw [e5] at hown';have O5:=zH hown';have B5:=zH BX5;clear hown' BX5 hgrow hblk TO;go_wp2;go_loopw [7] (fun i wr=>∃ (q:Nat) (z:Ed),a.length≤q∧q≤a.length∧i = .int .i64 q∧Own wr w.heap.size 64 4 (.slice (some ⟨g5,0,none⟩) (a.length+1) c5) (a.length+1) (edsC (a.take q++z::a.drop q))∧EdBox wr xb 64 x∧Keeps w wr) (fun i _=>(intOf i).toNat)
      case atStart=>exact ⟨a.length,x,by omega,Nat.le_refl _,by go_num,by simpa using O5.out,B5.out,K5⟩
      case round=>
       obtain ⟨q,z,hq1,hq2,rfl,hOq,hBq,hKq⟩:=hrel;by_cases hlq:a.length<q
       ·exact absurd hlq (by omega)
       ·have hqe:q=a.length:=(by omega);rw [hqe] at hOq;obtain ⟨⟨z0,z1,z2,z3⟩,f0,f1,f2,f3⟩:=zdM hOq (j:=a.length) (zgd a a.length (by omega) z);obtain ⟨x0,x1,x2,x3⟩:=hBq.cells;have ST:=zH (by have:=hOq.stored' (zcQ a a.length (by omega) z) (j:=a.length) (by omega) x;rwa [zj7 a a.length (by omega) z x] at this);have KT:=zH (zdd hKq (g:=g5) hgb5 a.length x);have O9:=zH hOq;clear hOq hBq hKq;go_wp2_with fail
        refine ⟨⟨k+1,a.take a.length++x::a.drop a.length,by omega,by go_num,by rw [zcQ a a.length (by omega) x];exact ST.out,RED.out,by rw [zcQ a a.length (by omega) x];have:=HAK.out;omega,KT.out⟩,?_⟩;simp [intOf];omega
  ·obtain rfl:k=n:=(by omega);go_wp2;go_ret;refine ⟨a,?_,_,rfl,hO'.out,hkp⟩;have:=HR.out
   rwa [HNL.out,List.take_length] at this
end Go.Proofs.YtjpldnjldindkaaGreatDoor
