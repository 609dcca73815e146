/- Package pool: frames emptied, dirty or not. -/
import Derived.Test.YtjpldnjldindkaaGreatDoorQPoolBa
set_option linter.all false
set_option maxHeartbeats 0
set_option maxRecDepth 100000
namespace Go.Proofs.YtjpldnjldindkaaGreatDoor
open Go.RowKit
section
variable {w w':World} {B:PB} {X:PX} {Fp:Nat→Prop} {sl sl':List (Option Fx)} {dl:List (List UInt8×List Nat)} {t t':PT} {W:List ((List UInt8×Nat)×Nat)} {bk:List UInt8→Nat→Nat}
structure Mid (w:World) (B:PB) (sl:List (Option Fx)) (t:PT) (W:List ((List UInt8×Nat)×Nat)) (bk:List UInt8→Nat→Nat):Prop where
 box:Box w B.pb 156 (plC B sl.length t)
 row:Box w B.gr 194 (rowC sl).toArray
 wher:MapW plV dpt w B.wb W
 look:∀ nm k,lookM W (nm,k)=if some (nm,k)∈zac (frs sl) then some (bk nm k) else none
 one:One (frs sl)
 most:sl.length≤4096
theorem PIn.mid (h:PIn w B X Fp sl dl t):Mid w B sl t X.W X.bk:=⟨h.box,h.row,h.wher,h.look,h.one,h.most⟩
theorem ze8 (one:One (frs sl)) {i:Nat} {x:Fx} (hx:sl[i]? = some (some x)) (nm:List UInt8) (k:Nat):some (nm,k)∈zac (frs (sl.set i none))↔some (nm,k)∈zac (frs sl)∧(nm,k)≠(x.f.name,x.f.k):=by
 rw [zbp];constructor
 ·intro hm;refine ⟨zb5 hm,fun e=>?_⟩;obtain ⟨j,f,hf,e1,e2⟩:=mem_keys.1 hm;rw [Option.map_none,List.getElem?_set] at hf;split at hf
  ·split at hf<;>simp at hf
  ·rename_i hne;obtain ⟨e3,e4⟩:=Prod.mk.inj e;refine hne (one i j (nm,k) ?_ ?_)
   ·rw [zbA (zaH hx),e3,e4]
   ·rw [zbA hf,e1,e2]
 ·rintro ⟨h1,h2⟩;exact zcG (zaH hx) none h1 h2
theorem znx (h:Mid w B sl t W bk) {i:Nat} {x:Fx} (hx:sl[i]? = some (some x)) (hF:Box w x.blk 196 x.cells) {rn:Nat} (hrn:t.rn=rn+1) (hrm:t.rn≤t.rm) (hbig:t.rm≤1000000) :
 Calls Tryz.prog 123 #[.pointer (some ⟨B.pb,0,none⟩), .int .i64 (i:Int)] w fun e w'=>e = .returned (.tuple #[])∧Only w w' (fun c=>c=B.pb∨c=B.gr∨c=B.wb)∧∃ W',Mid w' B (sl.set i none) {t with rn:=rn} W' bk:=by
 have hil:=(zI9.1 hx).1;have p1:w.cell? ⟨B.pb,1,none⟩=some (.slice (some ⟨B.gr,0,none⟩) sl.length sl.length):=h.box.cell 1 rfl;have p2:w.cell? ⟨B.pb,2,none⟩=some (.map (some B.wb)):=h.box.cell 2 rfl;have r1:w.cell? ⟨B.gr,i,none⟩=some (.pointer (some ⟨x.blk,0,none⟩)):=h.row.cell i (zbx hx);have q0:w.cell? ⟨x.blk,0,none⟩=some (.string (str x.f.name)):=hF.cell 0 rfl;have q1:w.cell? ⟨x.blk,1,none⟩=some (.int .i64 (x.f.k:Int)):=hF.cell 1 rfl;obtain ⟨w1,d1,M1,O1⟩:=zdq (P:=Tryz.prog) zd8 (h.wher.keep (zD w)) (x.f.name,x.f.k) 0;have nb:B.pb≠B.wb:=fun e=>h.wher.ne h.box e
 have ng:B.gr≠B.wb:=fun e=>h.wher.ne h.row e
 have npg:B.pb≠B.gr:=zal h.box h.row (by decide);have b1:Box w1 B.pb 156 (plC B sl.length t):=(O1.block _ h.box.lt nb).trans h.box;have g1:Box w1 B.gr 194 (rowC sl).toArray:=(O1.block _ h.row.lt ng).trans h.row;have P1:w1.cell? ⟨B.pb,1,none⟩=some (.slice (some ⟨B.gr,0,none⟩) sl.length sl.length):=b1.cell 1 rfl;have fg:=g1.frozen i;have rc:w1.cell? ⟨B.gr,i,none⟩=some (.pointer (some ⟨x.blk,0,none⟩)):=g1.cell i (zbx hx);have b2:Box (w1.setCell ⟨B.gr,i,none⟩ (.pointer none)) B.pb 156 (plC B sl.length t):=b1.far (p:=⟨B.gr,i,none⟩) (show B.pb≠B.gr from npg) _;have AD:=zH (zhp (w1.setCell ⟨B.gr,i,none⟩ (.pointer none)) B.pb 5 t.rn t.rm rn (-1) (plC B sl.length t) (by decide) b2 rfl rfl (by omega) (by omega));have hmx:max t.rm rn=t.rm:=by omega
 rw [hmx] at AD;have UP:=zH (fun (w3:World) (hb:Box w3 B.pb 156 (((plC B sl.length t).setIfInBounds 5 (.int .i64 (rn:Int))).setIfInBounds (5+1) (.int .i64 (t.rm:Int)))) (ho:Only (w1.setCell ⟨B.gr,i,none⟩ (.pointer none)) w3 (fun c=>c=B.pb))=>show Only w w3 (fun c=>c=B.pb∨c=B.gr∨c=B.wb)∧∃ W',Mid w3 B (sl.set i none) {t with rn:=rn} W' bk from by
  have hO:Only w w3 (fun c=>c=B.pb∨c=B.gr∨c=B.wb):=
   (((show Only w w1 (fun c=>c=B.wb) from ⟨O1.os,O1.tape,O1.output,O1.size,O1.block⟩).more (fun _ e=>.inr (.inr e))).trans (za7 w1 ⟨B.gr,i,none⟩ (.pointer none)) (fun i e=>.inl (.inr (.inl e)))).trans ho (fun i e=>.inl (.inl e))
  have hrow:Box w3 B.gr 194 ((rowC sl).toArray.setIfInBounds i (.pointer none)):=(ho.block _ (by simpa using g1.lt) (fun e=>npg e.symm)).trans (g1.set i (.pointer none));have M2:MapW plV dpt w3 B.wb (delM W (x.f.name,x.f.k)):=(M1.same (w':=w1.setCell ⟨B.gr,i,none⟩ (.pointer none)) (Below.heap_setCell _ _ _ _ (fun e=>ng e.symm))).same (ho.block _ (by simpa using M1.lt) (fun e=>nb e.symm));refine ⟨hO,_,by rw [List.length_set];exact hb,?_,M2,fun nm k=>?_,by rw [zbp];exact zdt h.one i,by rw [List.length_set];exact h.most⟩
  ·rw [zet];show Box w3 B.gr _ ((rowC sl).set i (.pointer none)).toArray;rw [←List.setIfInBounds_toArray];exact hrow
  ·rw [zeW,h.look];by_cases e:(nm,k)=(x.f.name,x.f.k)
   ·rw [if_pos e,if_neg (fun hm=>((ze8 h.one hx nm k).1 hm).2 e)]
   ·rw [if_neg e];by_cases e2:some (nm,k)∈zac (frs sl)
    ·rw [if_pos e2,if_pos ((ze8 h.one hx nm k).2 ⟨e2,e⟩)]
    ·rw [if_neg e2,if_neg (fun hm=>e2 ((ze8 h.one hx nm k).1 hm).1)])
 have hii:(i:Int)<(sl.length:Int):=by omega
 have hni:(sl.length:Int)≤4096:=by have:=h.most;omega
 unfold plV at d1;simp only at d1;generalize sl.length=n at *;generalize str x.f.name=sv at *;generalize hkk:x.f.k=k at *;generalize x.blk=xb at *;clear h hF hx hrn hrm hmx O1 M1 b1 g1 b2;go_enter Tryz.func123,Tryz.ntmps123;go_wp2;go_region
 go_wp2_with fail
 refine AD.out.mono ?_;rintro e w3 ⟨rfl,hb3,ho3⟩;obtain ⟨U1,U2⟩:=UP.out _ hb3 ho3;go_wp2;go_returns;exact ⟨rfl,U1,U2⟩
theorem zpz {κ α β:Type} [DecidableEq κ] (f:κ×α→β) (l:List (κ×α)) (k:κ):delM (l.map fun e=>(e.1,f e)) k=(delM l k).map fun e=>(e.1,f e):=by
 unfold delM;rw [List.filter_map];rfl
theorem PIn.dropped (h:PIn w B X Fp sl dl t) (hlt:∀ i,Fp i→i<w'.heap.size) (ho:Only w w' (fun c=>c=B.pb∨c=B.gr∨c=B.wb∨c=B.dm)) (m:Mid w' B sl' t' W X.bk) {nm:List UInt8}
 (dirt:MapW strW sliV w' B.dm (delM (dl.map fun e=>(e.1,((X.R e.1).1,e.2.length,(X.R e.1).2))) nm)) (hsl:∀ (j:Nat) (y:Fx),sl'[j]? = some (some y)↔sl[j]? = some (some y)∧y.f.name≠nm) :
 PIn w' B ⟨X.R,X.bk,W⟩ Fp sl' (delM dl nm) t':=by
 have sm:∀ {j:Nat},Fp j→j≠B.pb→j≠B.gr→j≠B.wb→j≠B.dm→w'.heap[j]? = w.heap[j]?:=fun hj h1 h2 h3 h4=>ho.block _ (h.lt _ hj) (fun e=>by rcases e with e|e|e|e;exact h1 e;exact h2 e;exact h3 e;exact h4 e)
 have smc:∀ {j:Nat} {c:Array Value} {T:TypeId} {f:Nat×Nat},Fp j→w.heap[j]? = some (.cells c T f)→j≠B.pb→j≠B.gr→w'.heap[j]? = w.heap[j]?:=fun hj hc h1 h2=>sm hj h1 h2 (h.notwb hc) (h.notdm hc)
 have hmem:∀ {nm':List UInt8} {ks:List Nat},(nm',ks)∈delM dl nm→(nm',ks)∈dl∧nm'≠nm:=fun hm=>by
  unfold delM at hm;rw [List.mem_filter] at hm;exact ⟨hm.1,by simpa using hm.2⟩
 refine ⟨m.box,m.row,fun i x hx=>?_,fun i j x y hx hy e=>h.apart i j x y ((hsl i x).1 hx).1 ((hsl j y).1 hy).1 e,fun i x hx=>h.bk i x ((hsl i x).1 hx).1,m.wher,m.look,?_,fun nm' ks he=>?_,fun nm' ks he=>h.rowne nm' ks (hmem he).1,fun a ks b ks' ha hb=>h.rowap a ks b ks' (hmem ha).1 (hmem hb).1,fun nm' k hk=>?_,h.dlok.del nm,m.one,⟨h.inP.pb,h.inP.gr,h.inP.wb,h.inP.dm,fun i x hx=>h.inP.fr i x ((hsl i x).1 hx).1,fun nm' ks he=>h.inP.row nm' ks (hmem he).1⟩,hlt,m.most,h.two⟩
 ·obtain ⟨hx,-⟩:=(hsl i x).1 hx;obtain ⟨p1,p2,p3⟩:=h.inP.fr i x hx;have F:=h.fr i x hx;refine F.same (smc p1 F.box (zal F.box h.box (by decide)) (zal F.box h.row (by decide))) (smc p2 F.file (zal F.file h.box (by decide)) (zal F.file h.row (by decide))) (fun g hg=>?_);obtain ⟨c,f,hc⟩:=F.text.cells hg;exact smc (p3 g hg) hc (zal hc h.box (by decide)) (zal hc h.row (by decide))
 ·rw [zpz] at dirt;exact dirt
 ·obtain ⟨he,-⟩:=hmem he;refine (h.rows nm' ks he).same (fun g hg=>?_);rw [zbw] at hg;obtain ⟨c,hc⟩:=h.rowcell he hg;exact smc (h.inP.row nm' ks he g hg) hc (zal hc h.box (by decide)) (fun e=>h.rowne nm' ks he (by rw [←e];exact hg))
 ·rw [zbC] at hk;split at hk
  ·simp at hk
  ·rename_i hne;obtain ⟨i,f,hf,e1,e2⟩:=mem_keys.1 (h.held nm' k hk);obtain ⟨x,hx,rfl⟩:=zbO hf;exact mem_keys.2 ⟨i,x.f,zaH ((hsl i x).2 ⟨hx,by rw [e1];exact hne⟩),e1,e2⟩
end
def heldN (fr:List (Option Frm)) (nm:List UInt8) (j:Nat):List Nat:=(List.range j).filter fun i=>isOf nm ((fr[i]?).getD none)
theorem zeu (fr:List (Option Frm)) (nm:List UInt8) (j:Nat):heldN fr nm (j+1)=if isOf nm ((fr[j]?).getD none) then heldN fr nm j++[j] else heldN fr nm j:=by
 unfold heldN;rw [List.range_succ,List.filter_append];split
 ·rename_i h;simp [h]
 ·rename_i h;simp [h]
theorem zh6 (fr:List (Option Frm)) (nm:List UInt8) (j:Nat):(heldN fr nm j).length≤j:=by
 have:=List.length_filter_le (fun i=>isOf nm ((fr[i]?).getD none)) (List.range j);rw [List.length_range] at this;exact this
theorem mem_heldN {fr:List (Option Frm)} {nm:List UInt8} {j i:Nat}:i∈heldN fr nm j↔i<j∧isOf nm ((fr[i]?).getD none)=true:=by
 unfold heldN;rw [List.mem_filter,List.mem_range]
theorem zkA (fr:List (Option Frm)) (nm:List UInt8) (j:Nat):(heldN fr nm j).Nodup:=List.Nodup.sublist List.filter_sublist List.nodup_range
def goneN (sl:List (Option Fx)) (S:List Nat):List (Option Fx):=sl.mapIdx fun i o=>if i∈S then none else o
theorem zch (sl:List (Option Fx)) (S:List Nat) (i:Nat):(goneN sl S)[i]? = (sl[i]?).map fun o=>if i∈S then none else o:=List.getElem?_mapIdx
theorem zh7 (sl:List (Option Fx)):goneN sl []=sl:=by
 apply List.ext_getElem?;intro i;rw [zch];cases sl[i]?<;>simp
theorem zgK (sl:List (Option Fx)) (S:List Nat) (i:Nat):goneN sl (S++[i])=(goneN sl S).set i none:=by
 apply List.ext_getElem?;intro j;rw [zch,List.getElem?_set,zch];by_cases e:i=j
 ·subst e;rw [if_pos rfl];unfold goneN;rw [List.length_mapIdx];cases e2:sl[i]? with
  | none=>rw [if_neg (by have:=List.getElem?_eq_none_iff.1 e2;omega)];rfl
  | some o=>rw [if_pos (zI9.1 e2).1];simp
 ·rw [if_neg e];cases sl[j]? with
  | none=>rfl
  | some o=>simp [Ne.symm e]
theorem zl6 (sl:List (Option Fx)) (nm:List UInt8) (j:Nat) (y:Fx):(goneN sl (heldN (frs sl) nm sl.length))[j]? = some (some y)↔sl[j]? = some (some y)∧y.f.name≠nm:=by
 rw [zch];cases e:sl[j]? with
 | none=>simp
 | some o=>
  have hj:=(zI9.1 e).1;have hf:(frs sl)[j]? = some (o.map Fx.f):=by rw [zbE,e];rfl
  have hm:j∈heldN (frs sl) nm sl.length↔isOf nm (o.map Fx.f)=true:=by
   rw [mem_heldN,hf];exact ⟨fun h=>h.2,fun h=>⟨hj,h⟩⟩
  cases o with
  | none=>simp
  | some x=>
   simp only [Option.map_some,Option.some.injEq];have hx:isOf nm (some x.f)=true↔x.f.name=nm:=(by simp [isOf]);by_cases hn:x.f.name=nm
   ·rw [if_pos (hm.2 (hx.2 hn))];constructor
    ·intro h;cases h
    ·rintro ⟨rfl,h⟩;exact absurd hn h
   ·rw [if_neg (fun h=>hn (hx.1 (hm.1 h)))];constructor
    ·intro h;obtain rfl:=Option.some.inj h;exact ⟨rfl,hn⟩
    ·rintro ⟨rfl,-⟩;rfl
theorem zny (sl:List (Option Fx)) (nm:List UInt8):frs (goneN sl (heldN (frs sl) nm sl.length))=dropF (frs sl) nm:=by
 apply List.ext_getElem?;intro j;rw [zbE,zch,zf1,zbE];cases e:sl[j]? with
 | none=>rfl
 | some o=>
  have hj:=(zI9.1 e).1;have hf:(frs sl)[j]? = some (o.map Fx.f):=by rw [zbE,e];rfl
  have hm:j∈heldN (frs sl) nm sl.length↔isOf nm (o.map Fx.f)=true:=by
   rw [mem_heldN,hf];exact ⟨fun h=>h.2,fun h=>⟨hj,h⟩⟩
  simp only [Option.map_some];by_cases h:j∈heldN (frs sl) nm sl.length
  ·rw [if_pos h,if_pos (hm.1 h)];rfl
  ·rw [if_neg h,if_neg (fun h2=>h (hm.2 h2))]
def natC (l:List Nat):List Value:=intC (l.map fun (i:Nat)=>(i:Int))
theorem zpA (l:List Nat) (i:Nat):natC (l++[i])=natC l++[.int .i64 (i:Int)]:=by simp [natC,intC]
theorem zpB (l:List Nat):(natC l).length=l.length:=by simp [natC,intC]
section
variable {K:DiskOk} {w0 w w':World} {B:PB} {X X':PX} {Fd Fp Fd' Fp':Nat→Prop} {sl sl':List (Option Fx)} {p p':Pst}
theorem zpC (h:PHave K w0 w B Fd Fp X sl p) (hZ:K.Z w0) (hbig:p.mostR≤100000) {M:Nat} (hb:Bnd M p.fr) (hM:M≤1000000000000) (nm:List UInt8) (hnm:nm.length≤maxLen) :
 Calls Tryz.prog 93 #[.pointer (some ⟨B.pb,0,none⟩), .string (str nm)] w fun e w'=>e = .returned (.int .i64 ((zat p nm).2:Int))∧Left K w0 w w' B (Both Fd Fp) (zat p nm).1:=by
 have p1:w.cell? ⟨B.pb,1,none⟩=some (.slice (some ⟨B.gr,0,none⟩) sl.length sl.length):=h.I.box.cell 1 rfl;have hni:(sl.length:Int)≤4096:=by have:=h.I.most;omega
 obtain ⟨n,hn⟩:∃ n,sl.length=n:=⟨_,rfl⟩
 rw [hn] at p1 hni;have HN:=zH hn;have H:=zH h;obtain ⟨i0,hi,hz0,hz1,hz2⟩:=info_parts zpf;have HBB:=zH hb;clear h hn hb;generalize hsv:str nm=sv at *;go_enter Tryz.func93,Tryz.ntmps93;go_wp2;go_loopw [5,17] (fun v i wr=>∃ (j:Nat) (A:Option Addr) (c:Nat),j≤n∧i = .int .i64 j∧v = .slice A (heldN p.fr nm j).length c∧Hid (Own wr w.heap.size 3 1 (.slice A (heldN p.fr nm j).length c) (heldN p.fr nm j).length (natC (heldN p.fr nm j)))∧Hid (Keeps w wr)∧Hid (∀ i,i<j→isPin ((p.fr[i]?).getD none)=true→isOf nm ((p.fr[i]?).getD none)=false)) (fun _ i _=>n-(intOf i).toNat)
 case atStart=>exact ⟨0,none,0,Nat.zero_le _,rfl,rfl,zH (Own.nil _ _ _ _),zH (zab _),zH (fun i hi=>absurd hi (Nat.not_lt_zero _))⟩
 case round=>
  obtain ⟨j,A,c,hj,rfl,rfl,HO,KR,PN⟩:=hrel;by_cases hlt:j<n
  ·have hji:(j:Int)<(n:Int):=(by omega);have h1:=H.out.keep KR.out;have hjl:j<sl.length:=by have:=HN.out;omega
   obtain ⟨o,ho⟩:∃ o,sl[j]? = some o:=(⟨_,zG9 hjl⟩);have hrow:wr.cell? ⟨B.gr,j,none⟩=some (ptrO (o.map Fx.blk)):=h1.I.row.cell j (zbx ho);have hfr:p.fr[j]? = some (o.map Fx.f):=by rw [h1.fr,zbE,ho];rfl
   cases o with
   | none=>
    simp only [Option.map_none,ptrO] at hrow hfr;have hs:heldN p.fr nm (j+1)=heldN p.fr nm j:=by rw [zeu,hfr];rfl
    have PN':=zH (show ∀ i,i<j+1→isPin ((p.fr[i]?).getD none)=true→isOf nm ((p.fr[i]?).getD none)=false from fun i hi hp=>by
     rcases Nat.lt_succ_iff_lt_or_eq.1 hi with h2|rfl
     ·exact PN.out i h2 hp
     ·rw [hfr];rfl)
    clear h1 hjl ho hfr;go_wp2;go_roundw
    case rel=>exact ⟨j+1,A,c,by omega,by go_num,by rw [hs],by rw [hs];exact HO,KR,PN'⟩
    case measure=>simp [intOf]<;>omega
   | some x=>
    simp only [Option.map_some,ptrO] at hrow hfr;have FX:=h1.I.fr j x ho;have q0:wr.cell? ⟨x.blk,0,none⟩=some (.string (str x.f.name)):=FX.box.cell 0 rfl;have q4:wr.cell? ⟨x.blk,4,none⟩=some (.int .i64 (x.f.pins:Int)):=FX.box.cell 4 rfl;by_cases hnm2:x.f.name=nm
    ·have hq:((str x.f.name).toList == sv.toList)=true:=(by rw [←hsv,hnm2,beq_self_eq_true]);by_cases hp:0<x.f.pins
     ·have hpi:(0:Int)<(x.f.pins:Int):=(by omega);have hany:p.fr.any (fun o=>isOf nm o&&isPin o)=true:=by
       rw [List.any_eq_true];exact ⟨some x.f,List.mem_of_getElem? hfr,by simp [isOf,isPin,hnm2,hp]⟩
      have hd:zat p nm=(p,10):=by unfold zat;rw [if_pos hany]
      have R0:=zH (show Left K w0 w wr B (Both Fd Fp) (zat p nm).1∧(((zat p nm).2:Nat):Int)=10 from by rw [hd];exact ⟨⟨Fd,Fp,X,sl,H.out.keep KR.out,Turns.of_keeps KR.out⟩,rfl⟩);clear h1 hjl ho hfr FX hany hd hp;go_wp2;go_returns;exact ⟨by rw [R0.out.2];rfl,R0.out.1⟩
     ·have hp0:x.f.pins=0:=(by omega);have hs:heldN p.fr nm (j+1)=heldN p.fr nm j++[j]:=by
       rw [zeu,hfr];simp [isOf,hnm2]
      have PN':=zH (show ∀ i,i<j+1→isPin ((p.fr[i]?).getD none)=true→isOf nm ((p.fr[i]?).getD none)=false from fun i hi hp=>by
       rcases Nat.lt_succ_iff_lt_or_eq.1 hi with h2|rfl
       ·exact PN.out i h2 hp
       ·rw [hfr] at hp;simp [isPin,hp0] at hp)
      have hmm:(heldN p.fr nm j).length≤j:=zh6 _ _ _;have hpz:¬ ((0:Int)<(x.f.pins:Int)):=(by omega);have q4':wr.cell? ⟨x.blk,4,none⟩=some (.int .i64 0):=by rw [q4,hp0];rfl
      have ka:=zA wr (.cells #[.int .i64 (j:Int)] 3);have O0:=zH (HO.out.keep ka);have AT:=zH (At.new wr [.int .i64 (j:Int)] 3 (wr.heap.size+1) (Nat.lt_succ_self _));have KA:=zH ka;clear h1 hjl ho hfr FX hp hpz q4 hp0 hnm2;obtain ⟨hl,hhl⟩:∃ hl,heldN p.fr nm j=hl:=⟨_,rfl⟩
      rw [hhl] at O0 hs hmm ⊢;obtain ⟨L,hL⟩:∃ L,hl.length=L:=(⟨_,rfl⟩);rw [hL] at O0 hmm ⊢;have hsz:w.heap.size≤wr.heap.size+1:=by have:=KR.out.size;omega
      clear HO hhl;go_wp2_with (at_builtin;refine zaj _ rfl _ _ 179 rfl w.heap.size 3 i0 (.int .i64 0) 1 8 Tryz.underlying179 hi hz0 hz1 hz2 rfl (by decide) _ L (natC hl) rfl O0.out _ (some ⟨wr.heap.size,0,none⟩) 1 1 [.int .i64 (j:Int)] rfl rfl AT.out (by intro u hu;rw [List.mem_singleton] at hu;subst hu;rfl) (by unfold maxLen;omega) (by omega) (by simpa using hsz) ?_;intro v5 w5 hown5 hg5 hb5)
      have k5:Keeps wr w5∨True:=.inr trivial;have K5:=zH (show Keeps w w5 from Below.grown (zK KR.out KA.out) hg5 (zK KR.out KA.out).size (fun g hg=>(O0.out.lt g hg).1));obtain ⟨A5,c5,rfl,-⟩:=hown5.form;have HO5:=zH hown5;clear hown5 hg5 hb5 k5;go_wp2;go_roundw
      case rel=>exact ⟨j+1,A5,c5,by omega,by go_num,by rw [hs,List.length_append,hL];rfl,by rw [hs,zpA,List.length_append,hL];exact HO5,K5,PN'⟩
      case measure=>simp [intOf]<;>omega
    ·have hq:((str x.f.name).toList == sv.toList)=false:=by
      rw [←hsv,zaL,zaL,beq_eq_false_iff_ne];exact hnm2
     have hs:heldN p.fr nm (j+1)=heldN p.fr nm j:=by
      rw [zeu,hfr];simp [isOf,hnm2]
     have PN':=zH (show ∀ i,i<j+1→isPin ((p.fr[i]?).getD none)=true→isOf nm ((p.fr[i]?).getD none)=false from fun i hi hp=>by
      rcases Nat.lt_succ_iff_lt_or_eq.1 hi with h2|rfl
      ·exact PN.out i h2 hp
      ·rw [hfr];simp [isOf,hnm2])
     clear h1 hjl ho hfr FX;go_wp2;go_roundw
     case rel=>exact ⟨j+1,A,c,by omega,by go_num,by rw [hs],by rw [hs];exact HO,KR,PN'⟩
     case measure=>simp [intOf]<;>omega
  ·obtain rfl:j=n:=(by omega);have hfr:=H.out.fr;have hany:¬ (p.fr.any (fun o=>isOf nm o&&isPin o)=true):=by
    rw [List.any_eq_true];rintro ⟨o,ho,hb⟩;rw [Bool.and_eq_true] at hb;obtain ⟨i,hi⟩:=List.getElem?_of_mem ho;have hil:i<sl.length:=by have:=(zI9.1 hi).1;rw [hfr,zdg] at this;exact this
    have h2:=PN.out i (by have:=HN.out;omega) (by rw [hi];exact hb.2);rw [hi] at h2;simp only [Option.getD_some] at h2;rw [h2] at hb;cases hb.1
   have hd:zat p nm=({p with d:=(zaE p.d nm).1,fr:=dropF p.fr nm,dl:=delM p.dl nm},(zaE p.d nm).2):=by
    unfold zat;rw [if_neg hany];rfl
   have hpin:pinN (dropF p.fr nm)=pinN p.fr:=by
    unfold pinN dropF;rw [List.countP_map];refine (List.countP_congr fun o ho=>?_);simp only [Function.comp_apply];by_cases h1:isOf nm o=true
    ·rw [if_pos h1];constructor
     ·intro h;cases h
     ·intro h;exact absurd (List.any_eq_true.2 ⟨o,ho,by rw [h1,h];rfl⟩) hany
    ·rw [if_neg h1]
   have hok:=(ze1 H.out.ok nm).ok;rw [hd] at hok;have HD:=zH hd;have HP:=zH hpin;have HK:=zH (show PstOk {p with fr:=dropF p.fr nm,dl:=delM p.dl nm} from hok.disk p.d);obtain ⟨hs,hhs⟩:∃ hs,heldN p.fr nm j=hs:=⟨_,rfl⟩
   have hmm:(heldN p.fr nm j).length≤j:=zh6 _ _ _;rw [hhs] at HO hmm ⊢;obtain ⟨L,hL⟩:∃ L,hs.length=L:=(⟨_,rfl⟩);rw [hL] at HO hmm ⊢;have HS:=zH hhs;have HL:=zH hL;have HI:=zH (H.out.keep KR.out).I;have hLi:(L:Int)≤4096:=by omega
   have BEL:=zH H.out.below;have R0:=zH (show resN (frs (goneN sl (hs.take 0)))≤p.mostR from by rw [List.take_zero,zh7,←hfr];exact H.out.ok.mostR);have M0:=zH (show Mid wr B (goneN sl (hs.take 0)) ⟨p.hand,resN (frs (goneN sl (hs.take 0))),p.mostR,pinN p.fr,p.mostP⟩ X.W X.bk from by
    rw [List.take_zero,zh7,←hfr];exact HI.out.mid)
   have hinN:∀ (t:Nat) (i:Nat),hs[t]? = some i→∃ x,sl[i]? = some (some x)∧(goneN sl (hs.take t))[i]? = some (some x):=fun t i hi=>by
    have h1:i∈heldN p.fr nm j:=by rw [hhs];exact List.mem_of_getElem? hi
    obtain ⟨h2,h3⟩:=mem_heldN.1 h1;have hnd:hs.Nodup:=by rw [←hhs];exact zkA _ _ _
    have hnot:i∉hs.take t:=fun hm=>by
     obtain ⟨t',ht'⟩:=List.getElem?_of_mem hm;rw [List.getElem?_take] at ht';split at ht'
     ·rename_i hlt';have h5:=(List.getElem?_inj (zI9.1 ht').1 hnd).1 (ht'.trans hi.symm);omega
     ·cases ht'
    have hil:i<sl.length:=by have:=HN.out;omega
    obtain ⟨o,ho⟩:∃ o,sl[i]? = some o:=(⟨_,zG9 hil⟩);rw [hfr,zbE,ho] at h3;cases o with
    | none=>simp [isOf] at h3
    | some x=>exact ⟨x,ho,by rw [zch,ho,Option.map_some,if_neg hnot]⟩
   have IN:=zH hinN;clear hany hd hpin hok hhs hL hinN hlt hj hfr;generalize wr=wh at *;go_wp2;go_loopw [45] (fun i wr=>∃ (t:Nat) (W:List ((List UInt8×Nat)×Nat)),t≤L∧i = .int .i64 t∧Hid (Only wh wr (fun c=>c=B.pb∨c=B.gr∨c=B.wb))∧Hid (Mid wr B (goneN sl (hs.take t)) ⟨p.hand,resN (frs (goneN sl (hs.take t))),p.mostR,pinN p.fr,p.mostP⟩ W X.bk)∧Hid (resN (frs (goneN sl (hs.take t)))≤p.mostR)) (fun i _=>L-(intOf i).toNat)
   case atStart=>exact ⟨0,X.W,Nat.zero_le _,rfl,zH (Only.refl _ _),M0,R0⟩
   case round=>
    obtain ⟨t,W,ht,rfl,OQ,MQ,RQ⟩:=hrel;have HOQ:=HO.out.same (w':=wr) (fun g hg=>OQ.out.block g (HO.out.lt g hg).2 (fun e=>by
     have h1:=(HO.out.lt g hg).1;have h2:g<w.heap.size:=BEL.out g (.inr (by rcases e with rfl|rfl|rfl;exact HI.out.inP.pb;exact HI.out.inP.gr;exact HI.out.inP.wb));omega))
    by_cases hlt:t<L
    ·have hti:(t:Int)<(L:Int):=(by omega);obtain ⟨i,hi⟩:∃ i,hs[t]? = some i:=⟨_,zG9 (by have:=HL.out;omega)⟩
     obtain ⟨x,hx,hx2⟩:=IN.out t i hi;obtain ⟨g,rfl,hcc,-,-⟩:=HOQ.cell (j:=t) (by rw [zpB,HL.out];exact hlt);have hcc':wr.cell? ⟨g,t,none⟩=some (.int .i64 (i:Int)):=by
      rw [hcc];simp [natC,intC,hi]
     have FX:=(HI.out.fr i x hx).box;have FQ:Box wr x.blk 196 x.cells:=(OQ.out.block _ FX.lt (fun e=>by
      rcases e with e|e|e
      ·exact zal FX HI.out.box (by decide) e
      ·exact zal FX HI.out.row (by decide) e
      ·exact HI.out.notwb FX e)).trans FX
     have hcnt:=zbe (fun o:Option Frm=>o.isSome) (l:=frs (goneN sl (hs.take t))) (i:=i) (y:=some x.f) none (zaH hx2);simp only [Option.isSome_some,Option.isSome_none,Bool.false_eq_true,if_true,if_false,Nat.add_zero] at hcnt;have htk:hs.take (t+1)=hs.take t++[i]:=by rw [List.take_add_one,hi];rfl
     have hfs:frs (goneN sl (hs.take (t+1)))=(frs (goneN sl (hs.take t))).set i none:=by rw [htk,zgK,zbp];rfl
     have hrn:resN (frs (goneN sl (hs.take t)))=resN (frs (goneN sl (hs.take (t+1))))+1:=by rw [hfs];exact hcnt.symm
     have EM:=zH (znx MQ.out hx2 FQ (rn:=resN (frs (goneN sl (hs.take (t+1))))) hrn RQ.out (by show p.mostR≤1000000;omega));have NXT:=zH (show (goneN sl (hs.take t)).set i none=goneN sl (hs.take (t+1)) from by rw [htk,zgK]);have RQ':=zH (show resN (frs (goneN sl (hs.take (t+1))))≤p.mostR from by have:=RQ.out;omega);clear HOQ hcc FX FQ hcnt htk hfs hrn hx hx2 hi;go_wp2_with fail
     refine EM.out.mono ?_;rintro e wn ⟨rfl,on,Wn,mn⟩;have ON:=zH (OQ.out.trans on (fun j hj=>.inl hj));rw [NXT.out] at mn;have MN:=zH mn;clear on mn;go_wp2;go_roundw
     case rel=>exact ⟨t+1,Wn,by omega,by go_num,ON,MN,RQ'⟩
     case measure=>simp [intOf]<;>omega
    ·obtain rfl:t=L:=(by omega);have htk:hs.take t=hs:=by rw [←HL.out,List.take_length]
     have MQ1:=MQ.out;rw [htk] at MQ1;have hfr:=H.out.fr;have hhs:heldN (frs sl) nm sl.length=hs:=by rw [←hfr,HN.out];exact HS.out
     have hgf:frs (goneN sl hs)=dropF p.fr nm:=(by rw [←hhs,zny,hfr]);have hdm:B.dm≠B.pb∧B.dm≠B.gr∧B.dm≠B.wb:=⟨fun e=>HI.out.notdm HI.out.box e.symm,fun e=>HI.out.notdm HI.out.row e.symm,fun e=>HI.out.two e.symm⟩
     have hdml:B.dm<wh.heap.size:=HI.out.lt _ HI.out.inP.dm;have dq:=HI.out.dirt.same (w':=wr) (OQ.out.block _ hdml (fun e=>by rcases e with e|e|e;exact hdm.1 e;exact hdm.2.1 e;exact hdm.2.2 e));obtain ⟨wD,dD,MD,OD⟩:=zdq (P:=Tryz.prog) zcW dq nm 0;have m3:wr.cell? ⟨B.pb,3,none⟩=some (.map (some B.dm)):=MQ1.box.cell 3 rfl;have bpD:Box wD B.pb 156 _:=(OD.block _ MQ1.box.lt (fun e=>hdm.1 e.symm)).trans MQ1.box;have m0:wD.cell? ⟨B.pb,0,none⟩=some (.pointer (some ⟨B.db,0,none⟩)):=bpD.cell 0 rfl;have midD:Mid wD B (goneN sl hs) ⟨p.hand,resN (frs (goneN sl hs)),p.mostR,pinN p.fr,p.mostP⟩ W X.bk:=⟨bpD,(OD.block _ MQ1.row.lt (fun e=>hdm.2.1 e.symm)).trans MQ1.row,MQ1.wher.same (OD.block _ MQ1.wher.lt (fun e=>hdm.2.2 e.symm)),MQ1.look,MQ1.one,MQ1.most⟩
     have oD:Only wh wD (fun c=>c=B.pb∨c=B.gr∨c=B.wb∨c=B.dm):=(OQ.out.more (S':=fun c=>c=B.pb∨c=B.gr∨c=B.wb∨c=B.dm) (fun j e=>by rcases e with e|e|e;exact .inl e;exact .inr (.inl e);exact .inr (.inr (.inl e)))).trans (OD.more (S':=fun c=>c=B.pb∨c=B.gr∨c=B.wb∨c=B.dm) (fun j e=>.inr (.inr (.inr e)))) (fun j hj=>.inl hj);have ID:=HI.out.dropped (fun i hi=>Nat.lt_of_lt_of_le (HI.out.lt i hi) oD.size) oD midD MD (fun j y=>by rw [←hhs];exact zl6 sl nm j y);have PH:=(H.out.keep KR.out).pool (p':={p with fr:=dropF p.fr nm,dl:=delM p.dl nm}) rfl (ID.tal (by
      unfold tally;rw [hgf,HP.out])) (Turns.only_in oD (fun j e=>by rcases e with rfl|rfl|rfl|rfl;exact HI.out.inP.pb;exact HI.out.inP.gr;exact HI.out.inP.wb;exact HI.out.inP.dm)) hgf.symm HK.out
     have RM:=zH (PH.1.D.went (s':=(zaE p.d nm).1) (E:=(zaE p.d nm).2) rfl (K.remove nm (PH.1.D.z hZ) PH.1.D.D hnm));have PHH:=zH (And.intro PH.1 ((Turns.of_keeps (S:=Both Fd Fp) KR.out).trans PH.2));unfold dpt strV at RM;unfold strW at dD;rw [hsv] at RM dD;clear MQ1 MQ OQ RQ HOQ dq MD OD bpD midD oD ID PH hgf hhs htk hlt ht;go_wp2_with fail
     refine RM.out.mono ?_;rintro e w9 ⟨rfl,F',D',t'⟩;have R:=zH (PHH.out.1.disk D' t');clear D' t';go_wp2;go_returns;rw [HD.out];exact ⟨rfl,F',Fp,_,_,R.out.1,PHH.out.2.trans R.out.2⟩
end
def doP (p:Pst) (o:Op10):Pst×List UInt8×Nat×Nat:=
 if o.kind=0 then ((zaA p o.name).1,[],0,(zaA p o.name).2)
 else if o.kind=1 then ((zat p o.name).1,[],0,(zat p o.name).2)
 else if o.kind=2 then (p,[],(if (findP p o.name).2=0 then (findP p o.name).1 else 0),(findP p o.name).2)
 else if o.kind=3 then ((pinPl p o.name o.k).1,(pinPl p o.name o.k).2.1,0,(pinPl p o.name o.k).2.2)
 else if o.kind=4 then ((za4 p o.name o.k).1,[],0,(za4 p o.name o.k).2)
 else if o.kind=5 then ((zai p o.name o.k).1,(zai p o.name o.k).2.1,0,(zai p o.name o.k).2.2)
 else if o.kind=6 then ((zah p o.name o.k o.b).1,o.b,0,(zah p o.name o.k o.b).2)
 else if o.kind=7 then ((zao p o.name).1,[],0,(zao p o.name).2)
 else if o.kind=8 then ({p with d:=(zgt p.d o.k).1},[],0,(zgt p.d o.k).2)
 else if o.kind=9 then ({p with d:=(armS p.d o.k).1},[],0,(armS p.d o.k).2)
 else if o.kind=10 then ({p with d:=(onS p.d []).1},[],0,(onS p.d []).2)
 else if o.kind=11 then ({p with d:=(flipS p.d o.name o.k 1).1},[],0,(flipS p.d o.name o.k 1).2)
 else (p,[],0,0)
section
variable {K:DiskOk} {w0 w w':World} {B:PB} {X X':PX} {Fd Fp Fd' Fp':Nat→Prop} {sl sl':List (Option Fx)} {p p':Pst}
def PJ (K:DiskOk) (w0:World) (B:PB) (q:Pst) (S:Nat→Prop) (w:World):Prop:=∃ Fd Fp X sl,S=Both Fd Fp∧PHave K w0 w B Fd Fp X sl q
theorem zdG (K:DiskOk) (w0:World) (B:PB) (q:Pst):Stay w0 (PJ K w0 B q):=by
 refine ⟨?_,?_⟩
 ·rintro S w w' T ⟨Fd,Fp,X,sl,rfl,h⟩ o hT;refine ⟨Fd,Fp,X,sl,rfl,⟨K.same h.D.D (fun i hi=>o.block i (K.lt h.D.D i hi) (fun e=>(hT i e).2 (.inl hi))) o.size,h.D.low,Below.trans h.D.kp (o.below (fun i hi=>(hT i hi).1) h.D.kp.size)⟩,h.I.same (fun i hi=>o.block i (h.I.lt i hi) (fun e=>(hT i e).2 (.inr hi))) o.size,h.fr,h.ok,h.low,h.ap⟩
 ·rintro S w ⟨Fd,Fp,X,sl,rfl,h⟩;exact h.below
theorem zft {F:Nat→Prop} {q:Pst} (h:Left K w0 w w' B F q):∃ S',PJ K w0 B q S' w'∧Turns w w' F S':=by
 obtain ⟨Fd',Fp',X',sl',h1,t⟩:=h;exact ⟨_,⟨Fd',Fp',X',sl',rfl,h1⟩,t⟩
theorem zq9 {F:Nat→Prop} {q:Pst} {l:List UInt8} {E:Nat} {e:Ending} (h:TextV K w0 w B F q l E e w'):∃ v,e = .returned (.tuple #[v, .int .i64 (E:Int)])∧Own w' w.heap.size 5 1 v l.length (cel l)∧∃ S',PJ K w0 B q S' w'∧Turns w w' F S'∧(∀ g,v.ownBlock=some g→¬ S' g):=by
 obtain ⟨v,rfl,o,Fd',Fp',X',sl',h1,t,n⟩:=h;exact ⟨v,rfl,o,_,⟨Fd',Fp',X',sl',rfl,h1⟩,t,n⟩
structure FitP (p:Pst) (M:Nat):Prop where
 b:Bnd M p.fr
 t:Txt p.fr
 R:p.mostR≤100000
 P:p.mostP≤100000
theorem znz {fr:List (Option Frm)} (h:Txt fr) (i:Nat):(textF fr i).length≤16777216:=by
 unfold textF;cases e:fr[i]? with
 | none=>simp
 | some o=>
  cases o with
  | none=>simp
  | some f=>exact h i f e
end
theorem iteR {α:Type} {R:α→Prop} {c:Prop} [Decidable c] {a b:α} (h1:c→R a) (h2:¬ c→R b):R (if c then a else b):=by
 by_cases h:c
 ·rw [if_pos h];exact h1 h
 ·rw [if_neg h];exact h2 h
theorem zhq {p:Pst} {o:Op10} {R:Pst→Prop} (hd:R (zat p o.name).1) (hpin:R (pinPl p o.name o.k).1) (hun:R (za4 p o.name o.k).1) (hre:R (zai p o.name o.k).1) (hwr:R (zah p o.name o.k o.b).1) (hfl:R (zao p o.name).1) (hdk:∀ d,R {p with d:=d}):R (doP p o).1:=by
 show (fun q:Pst×List UInt8×Nat×Nat=>R q.1) (doP p o);unfold doP;refine iteR (R:=fun q:Pst×List UInt8×Nat×Nat=>R q.1) (fun _=>hdk _) (fun _=>?_);refine iteR (R:=fun q:Pst×List UInt8×Nat×Nat=>R q.1) (fun _=>hd) (fun _=>?_);refine iteR (R:=fun q:Pst×List UInt8×Nat×Nat=>R q.1) (fun _=>hdk p.d) (fun _=>?_);refine iteR (R:=fun q:Pst×List UInt8×Nat×Nat=>R q.1) (fun _=>hpin) (fun _=>?_);refine iteR (R:=fun q:Pst×List UInt8×Nat×Nat=>R q.1) (fun _=>hun) (fun _=>?_);refine iteR (R:=fun q:Pst×List UInt8×Nat×Nat=>R q.1) (fun _=>hre) (fun _=>?_);refine iteR (R:=fun q:Pst×List UInt8×Nat×Nat=>R q.1) (fun _=>hwr) (fun _=>?_);refine iteR (R:=fun q:Pst×List UInt8×Nat×Nat=>R q.1) (fun _=>hfl) (fun _=>?_);refine iteR (R:=fun q:Pst×List UInt8×Nat×Nat=>R q.1) (fun _=>hdk _) (fun _=>?_);refine iteR (R:=fun q:Pst×List UInt8×Nat×Nat=>R q.1) (fun _=>hdk _) (fun _=>?_);refine iteR (R:=fun q:Pst×List UInt8×Nat×Nat=>R q.1) (fun _=>hdk _) (fun _=>?_);refine iteR (R:=fun q:Pst×List UInt8×Nat×Nat=>R q.1) (fun _=>hdk _) (fun _=>?_);exact hdk p.d
theorem zpD {p:Pst} (hd:DsOk p.d) (h:PstOk p) (o:Op10):Well p (doP p o).1:=
 zhq (ze1 h _) (zo5 hd h _ _) (zlE h _ _) (zm0 hd h _ _) (zlF hd h _ _ _) (zlG h _) (fun d=>⟨h.disk d,rfl,fun M b _=>b.more (Nat.le_succ _)⟩)
theorem zra {p:Pst} (hd:DsOk p.d) (h:Txt p.fr) (o:Op10):Txt (doP p o).1.fr:=
 zhq (R:=fun q=>Txt q.fr) (zpb h _) (zqY hd h _ _) (zm2 h _ _) (zpa hd h _ _) (zm3 h _ _ _) (zm4 h _) (fun d=>h)
theorem zpE {p:Pst} (h:PstOk p) (o:Op10):Grow p (doP p o).1:=
 zhq (zm6 _ _) (zpc h _ _) (zlJ _ _) (zm5 h _ _) (zlK h _ _ _) (zlL _ _) (fun d=>za5 rfl rfl rfl)
theorem zrb {p:Pst} (h:PstOk p) (o:Op10):sumP (doP p o).1.fr+(if o.kind=4∧(doP p o).2.2.2=0 then 1 else 0)=sumP p.fr+(if o.kind=3∧(doP p o).2.2.2=0 then 1 else 0):=by
 by_cases h3:o.kind=3
 ·have hd:doP p o=((pinPl p o.name o.k).1,(pinPl p o.name o.k).2.1,0,(pinPl p o.name o.k).2.2):=by unfold doP;rw [h3];rfl
  rw [hd,if_neg (by omega)];have:=zq0 h o.name o.k;simp only [h3,true_and,Nat.add_zero];exact this
 ·by_cases h4:o.kind=4
  ·have hd:doP p o=((za4 p o.name o.k).1,[],0,(za4 p o.name o.k).2):=by unfold doP;rw [h4];rfl
   rw [hd];have:=zm7 (p:=p) o.name o.k;simp only [h4,true_and];rw [this];simp
  ·rw [if_neg (fun e=>h4 e.1),if_neg (fun e=>h3 e.1),Nat.add_zero,Nat.add_zero];show (fun q:Pst×List UInt8×Nat×Nat=>sumP q.1.fr=sumP p.fr) (doP p o);unfold doP;refine iteR (R:=fun q:Pst×List UInt8×Nat×Nat=>sumP q.1.fr=sumP p.fr) (fun e=>rfl) (fun _=>?_);refine iteR (R:=fun q:Pst×List UInt8×Nat×Nat=>sumP q.1.fr=sumP p.fr) (fun e=>zlN p o.name) (fun _=>?_);refine iteR (R:=fun q:Pst×List UInt8×Nat×Nat=>sumP q.1.fr=sumP p.fr) (fun e=>rfl) (fun _=>?_);refine iteR (R:=fun q:Pst×List UInt8×Nat×Nat=>sumP q.1.fr=sumP p.fr) (fun e=>absurd e h3) (fun _=>?_);refine iteR (R:=fun q:Pst×List UInt8×Nat×Nat=>sumP q.1.fr=sumP p.fr) (fun e=>absurd e h4) (fun _=>?_);refine iteR (R:=fun q:Pst×List UInt8×Nat×Nat=>sumP q.1.fr=sumP p.fr) (fun e=>zpd h o.name o.k) (fun _=>?_);refine iteR (R:=fun q:Pst×List UInt8×Nat×Nat=>sumP q.1.fr=sumP p.fr) (fun e=>zm8 h o.name o.k o.b) (fun _=>?_);refine iteR (R:=fun q:Pst×List UInt8×Nat×Nat=>sumP q.1.fr=sumP p.fr) (fun e=>zm9 p o.name) (fun _=>?_);refine iteR (R:=fun q:Pst×List UInt8×Nat×Nat=>sumP q.1.fr=sumP p.fr) (fun e=>rfl) (fun _=>?_);refine iteR (R:=fun q:Pst×List UInt8×Nat×Nat=>sumP q.1.fr=sumP p.fr) (fun e=>rfl) (fun _=>?_);refine iteR (R:=fun q:Pst×List UInt8×Nat×Nat=>sumP q.1.fr=sumP p.fr) (fun e=>rfl) (fun _=>?_);refine iteR (R:=fun q:Pst×List UInt8×Nat×Nat=>sumP q.1.fr=sumP p.fr) (fun e=>rfl) (fun _=>?_);rfl
structure Runs (p:Pst) (n j:Nat):Prop where
 ok:PstOk p
 len:p.fr.length=n
 b:Bnd (65536+j) p.fr
 t:Txt p.fr
 R:p.mostR≤n
 P:p.mostP≤p.mostR
 s:sumP p.fr≤j
theorem Runs.fit {p:Pst} {n j:Nat} (h:Runs p n j) (hn:n≤4096):FitP p (65536+j):=⟨h.b,h.t,by have:=h.R;omega,by have:=h.R;have:=h.P;omega⟩
theorem Runs.next {p:Pst} {n j:Nat} (h:Runs p n j) (hd:DsOk p.d) (o:Op10):Runs (doP p o).1 n (j+1):=by
 have W:=zpD hd h.ok o;have G:=zpE h.ok o;have S:=zrb h.ok o;have l:=h.len;have r:=h.R;have g:=G.hi;refine ⟨W.ok,W.len.trans h.len,by have:=W.bnd _ h.b (by omega);exact this,zra hd h.t o,by omega,?_,?_⟩
 ·have h1:=G.pk.2;have h2:=G.lo;have h3:=h.P;have h4:=W.ok.mostR;have h5:=zlM (doP p o).1.fr;omega
 ·have:=h.s;split at S<;>split at S<;>omega
theorem zpF (d:Ds) {n:Nat} (h:1≤n∧n≤4096):Runs (newPl d n) n 0:=by
 obtain ⟨h1,h2,h3⟩:=zjd d h;exact ⟨h1,by simp [newPl],h2.more (by omega),zqZ d n,Nat.zero_le _,Nat.le_refl _,by omega⟩
end Go.Proofs.YtjpldnjldindkaaGreatDoor
