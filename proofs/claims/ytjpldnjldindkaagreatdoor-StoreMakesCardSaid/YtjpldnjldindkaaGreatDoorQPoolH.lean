/- Package pool: soil. -/
import Derived.Test.YtjpldnjldindkaaGreatDoorQPoolRep
set_option linter.all false
set_option maxHeartbeats 0
set_option maxRecDepth 100000
namespace Go.Proofs.YtjpldnjldindkaaGreatDoor
open Go.RowKit
section
variable {w w':World} {B:PB} {X:PX} {Fp:Nat→Prop} {sl:List (Option Fx)} {dl:List (List UInt8×List Nat)} {t:PT}
def DTo (w:World) (B:PB) (Fp:Nat→Prop) (sl:List (Option Fx)) (dl':List (List UInt8×List Nat)) (t:PT) (e:Ending) (w':World):Prop:=e = .returned (.tuple #[])∧∃ X' Fp',PIn w' B X' Fp' sl dl' t∧Turns w w' Fp Fp'
theorem zl2 (X:PX) (nm:List UInt8) (ks:List Nat) (k:Nat):(zan X nm ks).take (below ks k)++dpt (X.bk nm k)::(zan X nm ks).drop (below ks k)=zan X nm (insK ks k):=by
 unfold zan insK;rw [List.map_append,List.map_cons,List.map_take,List.map_drop]
theorem zbV (X:PX) (nm:List UInt8) (ks:List Nat):(zan X nm ks).length=ks.length:=List.length_map _
theorem zes (X:PX) (nm:List UInt8) (ks:List Nat):∀ u∈zan X nm ks,u.oneCell'=true:=fun u hu=>by
 obtain ⟨k,-,rfl⟩:=List.mem_map.1 hu;rfl
theorem PRow.lt {v:Value} {xs:List Value} (h:PRow w v xs) {g:Nat} (hg:v.ownBlock=some g):g<w.heap.size:=by
 obtain ⟨c,hc⟩:=h.cells hg;exact (zJ9.1 hc).1
theorem PRow.keep {v:Value} {xs:List Value} (h:PRow w v xs) (k:Keeps w w'):PRow w' v xs:=h.same fun g hg=>k.block g (h.lt hg)
theorem PIn.putRow (h:PIn w B X Fp sl dl t) {nm:List UInt8} {ob:Option Nat} (hob:ob=none∨∃ ks,(nm,ks)∈dl∧ob=(X.R nm).1) {W w4:World} (hk:Keeps w W) {v':Value} {ks:List Nat} (hks:ks≠[]) (hrise:ks.Pairwise (· < ·)) (hheld:∀ k∈ks,some (nm,k)∈zac (frs sl))
 (hp:PRow w4 v' (zan X nm ks)) (ho:Onto W ob w4 v') (hobl:∀ g,ob=some g→g<w.heap.size) :
 ∃ g' c' w5,v' = .slice (some ⟨g',0,none⟩) ks.length c'∧(Instr.mapUpdate 152 (.map (some B.dm)) (.string (str nm)) (.slice (some ⟨g',0,none⟩) ks.length c')).run Tryz.prog w4 = .ok () w5∧
  ∃ X' Fp',PIn w5 B X' Fp' sl (putM dl nm ks) t∧Turns w w5 Fp Fp':=by
 have hlen:=zbV X nm ks;rcases hp.form with ⟨-,h0⟩|⟨g',cur,rfl,hbx,-,-,-⟩
 ·exfalso;rw [h0] at hlen;exact hks (List.eq_nil_of_length_eq_zero hlen.symm)
 ·rw [hlen] at hp ho ⊢;have obF:∀ g,ob=some g→Fp g:=fun g hg=>by
   rcases hob with e|⟨ks',he,e⟩
   ·rw [e] at hg;cases hg
   ·exact h.inP.row nm ks' he g (e.symm.trans hg)
  have obc:∀ g,ob=some g→∃ c,w.heap[g]? = some (.cells c 194 (0,0)):=fun g hg=>by
   rcases hob with e|⟨ks',he,e⟩
   ·rw [e] at hg;cases hg
   ·exact h.rowcell he (e.symm.trans hg)
  have hw4:∀ j,j<w.heap.size→ob≠some j→w4.heap[j]? = w.heap[j]?:=(fun j hj hne=>(ho.1.block j (Nat.lt_of_lt_of_le hj hk.size) (fun e=>hne e.symm)).trans (hk.block j hj));have hs4:w.heap.size≤w4.heap.size:=Nat.le_trans hk.size ho.1.size;have hdm:=h.dirt.lt;have M4:MapW strW sliV w4 B.dm _:=h.dirt.same (hw4 _ hdm (fun e=>by obtain ⟨c,hc⟩:=obc _ e;exact h.notdm hc rfl));obtain ⟨w5,r5,M5,O5⟩:=zfZ (P:=Tryz.prog) zcW M4 nm (some g',ks.length,cur.size);rw [←zq6 X dl nm (some g') cur.size ks] at M5;have hw5:∀ j,j<w.heap.size→j≠B.dm→ob≠some j→w5.heap[j]? = w.heap[j]?:=fun j hj hd hne=>(O5.block j (Nat.lt_of_lt_of_le hj hs4) hd).trans (hw4 j hj hne)
  have hs5:w.heap.size≤w5.heap.size:=Nat.le_trans hs4 O5.size;have hg4:g'≠B.dm:=fun e=>by
   have:=h.dirt.same (hw4 _ hdm (fun e=>by obtain ⟨c,hc⟩:=obc _ e;exact h.notdm hc rfl));exact this.ne hbx e
  have hp5:PRow w5 (.slice (some ⟨g',0,none⟩) ks.length cur.size) (zan X nm ks):=hp.same fun g hg=>by
   obtain rfl:=Option.some.inj hg;exact O5.block _ hbx.lt hg4
  have hg':∀ g,some g'=some g→(ob=some g∨w.heap.size≤g)∧g<w5.heap.size:=fun g hg=>by
   obtain rfl:=Option.some.inj hg;refine ⟨?_,Nat.lt_of_lt_of_le hbx.lt O5.size⟩;rcases ho.2 with e|e
   ·exact .inl e.symm
   ·exact .inr (Nat.le_trans hk.size (e _ rfl))
  refine ⟨g',cur.size,w5,rfl,r5,_,_,h.dirtyTo hob (fun j hj hd hne=>hw5 j (h.lt j hj) hd hne) hg' hs5 (h.dlok.put nm hks hrise) (fun nm' k hk'=>?_) (fun nm' ks' he hne=>?_) (fun ks' he=>?_) M5,⟨⟨?_,?_,?_,hs5,fun j hj hn=>?_⟩,fun j hj=>?_⟩⟩
  ·rw [zdS] at hk';split at hk'
   ·rename_i e;rw [e];exact hheld k hk'
   ·exact h.held nm' k hk'
  ·rcases mem_putM.1 he with e|e
   ·exact absurd (Prod.mk.inj e).1 hne
   ·exact e.1
  ·rcases mem_putM.1 he with e|e
   ·obtain ⟨-,rfl⟩:=Prod.mk.inj e;exact hp5
   ·exact absurd rfl e.2
  ·exact O5.os.trans (ho.1.os.trans hk.os)
  ·exact O5.tape.trans (ho.1.tape.trans hk.tape)
  ·exact O5.output.trans (ho.1.output.trans hk.output)
  ·exact hw5 j hj (fun e=>hn (by rw [e];exact h.inP.dm)) (fun e=>hn (obF j e))
  ·rcases hj with hj|hj
   ·exact .inl hj
   ·rcases (hg' j hj).1 with e|e
    ·exact .inl (obF j e)
    ·exact .inr e
theorem zkx (V:World) (v u:Value) (xs:List Value) (i:Nat) (h:PRow V v xs) (hi:i≤xs.length) (hm:xs.length≤1000000000) (h1:∀ x∈xs,x.oneCell'=true) (hu:u.oneCell'=true) :
 Calls Tryz.prog 194 #[v, .int .i64 (i:Int), .slice (some ⟨V.heap.size,0,none⟩) 1 1] (V.alloc (.cells #[u] 194)) (RowTo (V.alloc (.cells #[u] 194)) v.ownBlock (xs.take i++u::xs.drop i)):=
 zlO _ v u xs i V.heap.size (h.keep (zA _ _)) hi hm h1 hu (Box.new V _ _) (fun e=>by have:=h.lt e;omega)
theorem zpn (h:PIn w B X Fp sl dl t) {i:Nat} {x:Fx} (hx:sl[i]? = some (some x)) :
 Calls Tryz.prog 149 #[.pointer (some ⟨B.pb,0,none⟩), .pointer (some ⟨x.blk,0,none⟩)] w (DTo w B Fp sl (soilD dl x.f.name x.f.k) t):=by
 have F:=h.fr i x hx;have hb:=h.bk i x hx;have p3:w.cell? ⟨B.pb,3,none⟩=some (.map (some B.dm)):=h.box.cell 3 rfl;have q0:w.cell? ⟨x.blk,0,none⟩=some (.string (str x.f.name)):=F.box.cell 0 rfl;have q1:w.cell? ⟨x.blk,1,none⟩=some (.int .i64 (x.f.k:Int)):=F.box.cell 1 rfl;obtain ⟨v,hl,hr,ho⟩:=h.dval x.f.name;have lk:=hl w.drew rfl;have SR:=zH (h.search x.f.name x.f.k hr w.drew (zD w));by_cases hk:x.f.k∈zaa dl x.f.name
 ·have e:soilD dl x.f.name x.f.k=dl:=by unfold soilD;rw [if_pos hk]
  rw [e];rw [decide_eq_true hk] at SR;have H:=zH h;generalize below (zaa dl x.f.name) x.f.k=bl at *;generalize str x.f.name=sv at *;generalize x.f.k=k at *;generalize x.blk=xb at *;clear h F hb hr hx hk e ho hl;go_enter Tryz.func149,Tryz.ntmps149;go_wp2;go_region
  go_wp2_with fail
  refine SR.out.mono ?_;rintro e w1 ⟨rfl,rfl⟩;go_wp2;go_returns;exact ⟨rfl,X,Fp,H.out.keep (zD w),Turns.of_keeps (zD w)⟩
 ·have e:soilD dl x.f.name x.f.k=putM dl x.f.name (insK (zaa dl x.f.name) x.f.k):=by unfold soilD;rw [if_neg hk]
  rw [e];rw [decide_eq_false hk] at SR;have hlen:=zbV X x.f.name (zaa dl x.f.name);have hbl:=zdr (zaa dl x.f.name) x.f.k;have INS:=zH (zkx w.drew.drew v (dpt x.blk) (zan X x.f.name (zaa dl x.f.name)) (below (zaa dl x.f.name) x.f.k) hr (by rw [hlen];exact hbl) (by rw [hlen];have:=h.dlen x.f.name;have:=h.most;omega) (zes _ _ _) rfl);rw [←hb,zl2] at INS;rw [hb] at INS;have UP:=zH (fun (w4:World) (v':Value) (hp:PRow w4 v' (zan X x.f.name (insK (zaa dl x.f.name) x.f.k))) (hon:Onto (w.drew.drew.alloc (.cells #[dpt x.blk] 194)) v.ownBlock w4 v')=>
   h.putRow (nm:=x.f.name) (ob:=v.ownBlock) (ho.imp id (fun ⟨ks,h1,h2,_⟩=>⟨ks,h1,h2⟩)) (W:=w.drew.drew.alloc (.cells #[dpt x.blk] 194)) (zK (zK (zD w) (zD _)) (zA _ _)) (fun e0=>by have:=zfF (zaa dl x.f.name) x.f.k;rw [e0] at this;simp at this) (zhS (h.dlok.rise_of _) hk) (fun k hk'=>by
    rcases mem_insK.1 hk' with rfl|hk'
    ·exact mem_keys.2 ⟨i,x.f,zaH hx,rfl,rfl⟩
    ·exact h.held _ k hk') hp hon (fun g hg=>hr.lt hg))
  have CC:=zH (fun (w4:World) (v':Value) (hon:Onto (w.drew.drew.alloc (.cells #[dpt x.blk] 194)) v.ownBlock w4 v')=>show w4.cell? ⟨B.pb,3,none⟩=some (.map (some B.dm))∧w4.cell? ⟨x.blk,0,none⟩=some (.string (str x.f.name)) from by
   have obx:∀ {i:Nat} {c:Array Value} {T:TypeId},Box w i T c→T≠194→Box w4 i T c:=fun {i c T} hi hT=>by
    refine (hon.1.block i (Nat.lt_of_lt_of_le hi.lt (by simp)) (fun ho2=>?_)).trans (Box.keep (w:=w.drew.drew) hi (zA _ _));obtain ⟨c',hc⟩:=hr.cells ho2.symm;exact zal hi hc hT rfl
   exact ⟨(obx h.box (by decide)).cell 3 rfl,(obx F.box (by decide)).cell 0 rfl⟩)
  have SK:=zH (fun (V:World) (kk:Keeps w V)=>show V.cell? ⟨B.pb,3,none⟩=some (.map (some B.dm))∧V.cell? ⟨x.blk,0,none⟩=some (.string (str x.f.name)) from ⟨kk.cellOf p3,kk.cellOf q0⟩);have S5:=zH (fun (V:World) (X':PX) (Fp':Nat→Prop) (I:PIn V B X' Fp' sl (putM dl x.f.name (insK (zaa dl x.f.name) x.f.k)) t)=>show V.cell? ⟨B.pb,3,none⟩=some (.map (some B.dm))∧V.cell? ⟨x.blk,0,none⟩=some (.string (str x.f.name)) from ⟨I.box.cell 3 rfl,(I.fr i x hx).box.cell 0 rfl⟩);have H:=zH h;generalize zan X x.f.name (insK (zaa dl x.f.name) x.f.k)=ys at *;generalize insK (zaa dl x.f.name) x.f.k=ks at *;generalize below (zaa dl x.f.name) x.f.k=bl at *;generalize hsv:str x.f.name=sv at *;generalize x.f.k=k at *;generalize x.blk=xb at *;unfold dpt at INS UP CC;clear h F hb hr hx hk e ho hl hlen hbl;go_enter Tryz.func149,Tryz.ntmps149;go_wp2;go_region
  go_wp2_with fail
  refine SR.out.mono ?_;rintro e w1 ⟨rfl,rfl⟩;go_wp2_with fail
  go_region_held3 (fun V=>V.cell? ⟨B.pb,3,none⟩=some (.map (some B.dm))∧V.cell? ⟨xb,0,none⟩=some (.string sv)) (first|assumption|exact SK.out _ (by first|exact zD _|exact zK (zD _) (zD _)|exact zK (zK (zD _) (zD _)) (zA _ _))) (first
   | (go_at_call 194;refine INS.out.mono ?_;rintro ee w4 ⟨v',rfl,hp4,ho4⟩;have s4:=CC.out _ _ ho4;obtain ⟨g',c',w5,rfl,r5,X',Fp',I5,T5⟩:=UP.out _ _ hp4 ho4;have s5:=S5.out _ _ _ I5))
  all_goals
   go_wp2;go_returns;exact ⟨rfl,X',Fp',I5,T5⟩
end
theorem zpo {κ ε:Type} [DecidableEq κ] (l:List (κ×ε)) (k:κ) (x:ε):delM (putM l k x) k=delM l k:=by
 unfold putM delM;rw [List.filter_cons_of_neg (by simp),List.filter_filter];congr 1
 funext p
 simp
theorem zky {l:List Nat} (h:l.Pairwise (· < ·)) {k:Nat} (hk:k∈l):l.erase k=l.take (below l k)++l.drop (below l k+1):=by
 have h1:=(zcE h).1 hk;obtain ⟨hi,he⟩:=zI9.1 h1;have h2:l=l.take (below l k)++k::l.drop (below l k+1):=by
  conv=>lhs;rw [←List.take_append_drop (below l k) l,List.drop_eq_getElem_cons hi,he]
 have h3:k∉l.take (below l k):=fun hm=>by have:=zbT h hm;omega
 conv=>lhs;rw [h2]
 rw [List.erase_append_right _ h3,List.erase_cons_head]
section
variable {w w':World} {B:PB} {X:PX} {Fp:Nat→Prop} {sl:List (Option Fx)} {dl:List (List UInt8×List Nat)} {t:PT}
theorem zl3 (X:PX) (nm:List UInt8) {ks:List Nat} (h:ks.Pairwise (· < ·)) {k:Nat} (hk:k∈ks):(zan X nm ks).take (below ks k)++(zan X nm ks).drop (below ks k+1)=zan X nm (ks.erase k):=by
 rw [zky h hk];unfold zan;rw [List.map_append,List.map_take,List.map_drop]
theorem PIn.cutRow (h:PIn w B X Fp sl dl t) {nm:List UInt8} {ob:Option Nat} (hob:ob=none∨∃ ks,(nm,ks)∈dl∧ob=(X.R nm).1) {W w4:World} (hk:Keeps w W) (y:Option Nat×Nat×Nat) (ho:W.grownBy w4 ob) (hobl:∀ g,ob=some g→g<w.heap.size) :
 ∃ w5,(Instr.mapUpdate 152 (.map (some B.dm)) (.string (str nm)) (sliV y)).run Tryz.prog w4 = .ok () w5∧Only w4 w5 (fun c=>c=B.dm)∧∀ W5:World,Keeps w5 W5→W5.heap.size=w5.heap.size→∀ ty,∃ w6,(Builtin.delete_ #[152,9] ty #[.map (some B.dm), .string (str nm)]).run Tryz.prog W5 = .ok (.tuple #[]) w6∧
  ∃ X' Fp',PIn w6 B X' Fp' sl (delM dl nm) t∧Turns w w6 Fp Fp':=by
 have obF:∀ g,ob=some g→Fp g:=fun g hg=>by
  rcases hob with e|⟨ks',he,e⟩
  ·rw [e] at hg;cases hg
  ·exact h.inP.row nm ks' he g (e.symm.trans hg)
 have obc:∀ g,ob=some g→∃ c,w.heap[g]? = some (.cells c 194 (0,0)):=fun g hg=>by
  rcases hob with e|⟨ks',he,e⟩
  ·rw [e] at hg;cases hg
  ·exact h.rowcell he (e.symm.trans hg)
 have hw4:∀ j,j<w.heap.size→ob≠some j→w4.heap[j]? = w.heap[j]?:=fun j hj hne=>(ho.block j (Nat.lt_of_lt_of_le hj hk.size) (fun e=>hne e.symm)).trans (hk.block j hj)
 have hs4:w.heap.size≤w4.heap.size:=Nat.le_trans hk.size ho.size;have hdm:=h.dirt.lt;have M4:MapW strW sliV w4 B.dm _:=h.dirt.same (hw4 _ hdm (fun e=>by obtain ⟨c,hc⟩:=obc _ e;exact h.notdm hc rfl));obtain ⟨w5,r5,M5,O5⟩:=zfZ (P:=Tryz.prog) zcW M4 nm y;refine ⟨w5,r5,O5,fun W5 k5 hs5 ty=>?_⟩;obtain ⟨w6,r6,M6,O6⟩:=zdq (P:=Tryz.prog) zcW (M5.keep k5) nm ty;rw [zpo,←zq7 X dl nm (none,0)] at M6;have hw6:∀ j,j<w.heap.size→j≠B.dm→ob≠some j→w6.heap[j]? = w.heap[j]?:=fun j hj hd hne=>
  have h4:j<w4.heap.size:=Nat.lt_of_lt_of_le hj hs4;have h5:j<w5.heap.size:=Nat.lt_of_lt_of_le h4 O5.size
  (O6.block j (Nat.lt_of_lt_of_le h5 k5.size) hd).trans ((k5.block j h5).trans ((O5.block j h4 hd).trans (hw4 j hj hne)))
 have hs6:w.heap.size≤w6.heap.size:=Nat.le_trans hs4 (Nat.le_trans O5.size (Nat.le_trans k5.size O6.size));refine ⟨w6,r6,_,_,h.dirtyTo hob (fun j hj hd hne=>hw6 j (h.lt j hj) hd hne) (g':=none) (c':=0) (fun g hg=>by cases hg) hs6 (h.dlok.del nm) (fun nm' k hk'=>?_) (fun nm' ks' he hne=>(mem_delM.1 he).1) (fun ks' he=>absurd rfl (mem_delM.1 he).2) M6,⟨⟨?_,?_,?_,hs6,fun j hj hn=>?_⟩,fun j hj=>?_⟩⟩
 ·rw [zbC] at hk';split at hk'
  ·simp at hk'
  ·exact h.held nm' k hk'
 ·exact O6.os.trans (k5.os.trans (O5.os.trans (ho.os.trans hk.os)))
 ·exact O6.tape.trans (k5.tape.trans (O5.tape.trans (ho.tape.trans hk.tape)))
 ·exact O6.output.trans (k5.output.trans (O5.output.trans (ho.output.trans hk.output)))
 ·exact hw6 j hj (fun e=>hn (by rw [e];exact h.inP.dm)) (fun e=>hn (obF j e))
 ·rcases hj with hj|hj
  ·exact .inl hj
  ·cases hj
theorem znq (h:PIn w B X Fp sl dl t) {i:Nat} {x:Fx} (hx:sl[i]? = some (some x)) (hk:x.f.k∈zaa dl x.f.name) :
 Calls Tryz.prog 201 #[.pointer (some ⟨B.pb,0,none⟩), .pointer (some ⟨x.blk,0,none⟩)] w (DTo w B Fp sl (zaQ dl x.f.name x.f.k) t):=by
 have F:=h.fr i x hx;have p3:w.cell? ⟨B.pb,3,none⟩=some (.map (some B.dm)):=h.box.cell 3 rfl;have q0:w.cell? ⟨x.blk,0,none⟩=some (.string (str x.f.name)):=F.box.cell 0 rfl;have q1:w.cell? ⟨x.blk,1,none⟩=some (.int .i64 (x.f.k:Int)):=F.box.cell 1 rfl;obtain ⟨v,hl,hr,ho⟩:=h.dval x.f.name;have lk:=hl w.drew rfl;have SR:=zH (h.search x.f.name x.f.k hr w.drew (zD w));rw [decide_eq_true hk] at SR;have hlen:=zbV X x.f.name (zaa dl x.f.name);have hrise:=h.dlok.rise_of x.f.name;have hbl:below (zaa dl x.f.name) x.f.k<(zaa dl x.f.name).length:=(zI9.1 ((zcE hrise).1 hk)).1;have hdl:=h.dlen x.f.name;have hmost:=h.most;have DEL:=zH (zlP w.drew v (zan X x.f.name (zaa dl x.f.name)) (below (zaa dl x.f.name) x.f.k) (below (zaa dl x.f.name) x.f.k+1) hr rfl (by rw [hlen];exact hbl) (by rw [hlen];omega) (zes _ _ _));rw [zl3 X x.f.name hrise hk] at DEL;have hob:=ho.imp id (fun ⟨ks,h1,h2,_⟩=>(⟨ks,h1,h2⟩:∃ ks,(x.f.name,ks)∈dl∧v.ownBlock=(X.R x.f.name).1));have CC:=zH (fun (w4:World) (hon:w.drew.grownBy w4 v.ownBlock)=>show w4.cell? ⟨B.pb,3,none⟩=some (.map (some B.dm))∧w4.cell? ⟨x.blk,0,none⟩=some (.string (str x.f.name)) from by
  have obx:∀ {i:Nat} {c:Array Value} {T:TypeId},Box w i T c→T≠194→Box w4 i T c:=fun {i c T} hi hT=>by
   refine (hon.block i hi.lt (fun ho2=>?_)).trans hi;obtain ⟨c',hc⟩:=hr.cells ho2.symm;exact zal hi hc hT rfl
  exact ⟨(obx h.box (by decide)).cell 3 rfl,(obx F.box (by decide)).cell 0 rfl⟩)
 obtain ⟨bl,hbl2⟩:∃ bl,below (zaa dl x.f.name) x.f.k=bl:=⟨_,rfl⟩
 rw [hbl2] at SR DEL hbl;have hbi:(bl:Int)≤4096:=by omega
 have hw1:IntKind.i64.wrap ((bl:Int)+1)=((bl+1:Nat):Int):=by rw [IntWalk.i64_in _ (by omega)];omega
 have hw2:(bl:Int)+1=((bl+1:Nat):Int):=by omega
 obtain ⟨b2,hb2⟩:∃ b2,bl+1=b2:=⟨_,rfl⟩
 rw [hb2] at hw1 hw2 DEL;by_cases he:(zaa dl x.f.name).erase x.f.k=[]
 ·have e:zaQ dl x.f.name x.f.k=delM dl x.f.name:=by unfold zaQ;rw [if_pos he]
  rw [e];have hy:∀ w4 v',PRow w4 v' (zan X x.f.name ((zaa dl x.f.name).erase x.f.k))→∃ y:Option Nat×Nat×Nat,v' = .slice (y.1.map fun b=>(⟨b,0,none⟩:Addr)) 0 y.2.2∧y.2.1=0:=fun w4 v' hp=>by
   rw [he] at hp;rcases hp.form with ⟨rfl,-⟩|⟨g,cur,rfl,-⟩
   ·exact ⟨(none,0,0),rfl,rfl⟩
   ·exact ⟨(some g,0,cur.size),rfl,rfl⟩
  have UP:=zH (fun (w4:World) (y:Option Nat×Nat×Nat) (hon:w.drew.grownBy w4 v.ownBlock)=>
   h.cutRow (nm:=x.f.name) (ob:=v.ownBlock) hob (W:=w.drew) (w4:=w4.drew) (zD w) y ⟨hon.os,hon.tape,hon.output,hon.size,hon.block⟩ (fun g hg=>hr.lt hg))
  have C5:=zH (fun (w4 w5:World) (hon:w.drew.grownBy w4 v.ownBlock) (h5:Only w4.drew w5 (fun c=>c=B.dm))=>show w5.cell? ⟨B.pb,3,none⟩=some (.map (some B.dm))∧w5.cell? ⟨x.blk,0,none⟩=some (.string (str x.f.name)) from by
   have obx:∀ {i:Nat} {c:Array Value} {T:TypeId},Box w i T c→T≠194→Box w5 i T c:=fun {i c T} hi hT=>by
    refine (h5.block i (Nat.lt_of_lt_of_le hi.lt hon.size) (h.notdm hi)).trans ((hon.block i hi.lt (fun ho2=>?_)).trans hi);obtain ⟨c',hc⟩:=hr.cells ho2.symm;exact zal hi hc hT rfl
   exact ⟨(obx h.box (by decide)).cell 3 rfl,(obx F.box (by decide)).cell 0 rfl⟩)
  have HY:=zH hy;generalize zan X x.f.name ((zaa dl x.f.name).erase x.f.k)=ys at *;generalize str x.f.name=sv at *;generalize x.f.k=k at *;generalize x.blk=xb at *;clear h F hr hx hk e ho hl hlen hbl hob hrise hdl hmost hbl2 hb2 he hy;go_enter Tryz.func201,Tryz.ntmps201;go_wp2;go_region
  go_wp2_with fail
  refine SR.out.mono ?_;rintro e w1 ⟨rfl,rfl⟩;go_wp2_with fail
  refine DEL.out.mono ?_;rintro e w4 ⟨v',rfl,hp4,ho4,hv4⟩;obtain ⟨c3,c0⟩:=CC.out _ ho4;obtain ⟨y,rfl,hy1⟩:=HY.out _ _ hp4;obtain ⟨w5,r5,O5,D5⟩:=UP.out _ y ho4;unfold sliV at r5;rw [hy1] at r5;obtain ⟨d3,d0⟩:=C5.out _ _ ho4 O5;obtain ⟨w6,r6,X',Fp',I6,T6⟩:=D5 w5.drew (zD w5) rfl 0;have I6:=zH I6;have T6:=zH T6;generalize (y.1.map fun b=>(⟨b,0,none⟩:Addr))=A' at *;clear hp4 ho4 hv4 hy1 O5 D5;go_wp2;go_region
  go_wp2;go_region
  go_wp2;go_returns;exact ⟨rfl,X',Fp',I6.out,T6.out⟩
 ·have e:zaQ dl x.f.name x.f.k=putM dl x.f.name ((zaa dl x.f.name).erase x.f.k):=by unfold zaQ;rw [if_neg he]
  rw [e];have hel:0<((zaa dl x.f.name).erase x.f.k).length:=List.length_pos_iff.2 he;have UP:=zH (fun (w4:World) (v':Value) (hp:PRow w4 v' (zan X x.f.name ((zaa dl x.f.name).erase x.f.k))) (hon:w.drew.grownBy w4 v.ownBlock) (hv:v'.ownBlock=v.ownBlock)=>
   h.putRow (nm:=x.f.name) (ob:=v.ownBlock) hob (W:=w.drew) (w4:=w4.drew) (zD w) he (zgA hrise _) (fun k hk'=>h.held _ k (List.mem_of_mem_erase hk')) (hp.keep (zD w4)) ⟨⟨hon.os,hon.tape,hon.output,hon.size,hon.block⟩, .inl hv⟩ (fun g hg=>hr.lt hg))
  have S5:=zH (fun (V:World) (X':PX) (Fp':Nat→Prop) (I:PIn V B X' Fp' sl (putM dl x.f.name ((zaa dl x.f.name).erase x.f.k)) t)=>show V.cell? ⟨B.pb,3,none⟩=some (.map (some B.dm))∧V.cell? ⟨x.blk,0,none⟩=some (.string (str x.f.name)) from ⟨I.box.cell 3 rfl,(I.fr i x hx).box.cell 0 rfl⟩);have H:=zH h;generalize zan X x.f.name ((zaa dl x.f.name).erase x.f.k)=ys at *;generalize (zaa dl x.f.name).erase x.f.k=ks at *;generalize str x.f.name=sv at *;generalize x.f.k=k at *;generalize x.blk=xb at *;clear h F hr hx hk e ho hl hlen hbl hob hrise hdl hmost hbl2 hb2 he;go_enter Tryz.func201,Tryz.ntmps201;go_wp2;go_region
  go_wp2_with fail
  refine SR.out.mono ?_;rintro e w1 ⟨rfl,rfl⟩;go_wp2_with fail
  refine DEL.out.mono ?_;rintro e w4 ⟨v',rfl,hp4,ho4,hv4⟩;obtain ⟨c3,c0⟩:=CC.out _ ho4;obtain ⟨g',c',w5,rfl,r5,X',Fp',I5,T5⟩:=UP.out _ _ hp4 ho4 hv4;have s5:=S5.out _ _ _ I5;have hne:((ks.length:Int) == 0)=false:=by rw [beq_eq_false_iff_ne];omega
  clear hp4 ho4 hv4;go_wp2;go_region
  go_wp2;go_returns;exact ⟨rfl,X',Fp',I5,T5⟩
end
section
variable {K:DiskOk} {w0 w w':World} {B:PB} {X:PX} {Fd Fp:Nat→Prop} {sl:List (Option Fx)} {p:Pst}
theorem PHave.keep (h:PHave K w0 w B Fd Fp X sl p) (k:Keeps w w'):PHave K w0 w' B Fd Fp X sl p:=⟨h.D.keep k,h.I.keep k,h.fr,h.ok,h.low,h.ap⟩
def zsh (w:World) (db:Nat) (nm:List UInt8) (n E:Nat) (e:Ending) (w':World):Prop:=
 Keeps w w'∧((E=0∧∃ f,e = .returned (.tuple #[.pointer (some ⟨f,0,none⟩), .int .i64 (n:Int), .int .i64 0])∧PfAt w' f db nm∧w.heap.size≤f)∨(E≠0∧e = .returned (.tuple #[.pointer none, .int .i64 0, .int .i64 (E:Int)])))
theorem zc9 (h:PHave K w0 w B Fd Fp X sl p) (hZ:K.Z w0) (nm:List UInt8) (hnm:nm.length≤maxLen) {M:Nat} (hb:Bnd M p.fr) (hM:M≤1000000000000) :
 Calls Tryz.prog 109 #[.pointer (some ⟨B.pb,0,none⟩), .string (str nm)] w (zsh w B.db nm (findP p nm).1 (findP p nm).2):=by
 obtain ⟨n,E0,hz⟩:∃ n E0,sizeS p.d nm=(n,E0):=⟨_,_,rfl⟩
 have hn:n≤16777216:=by have:=zdZ (K.ok h.D.D) nm;rw [hz] at this;exact this
 have OP:=zH (zlZ h.D hZ nm hnm hz hn);have p0:w.cell? ⟨B.pb,0,none⟩=some (.pointer (some ⟨B.db,0,none⟩)):=h.I.box.cell 0 rfl;by_cases hE:openE p.d nm=0
 ·have hE0:E0=0:=by
   have:=hE;unfold openE at this;rw [hz] at this;simp only at this;split at this
   ·assumption
   ·rename_i h1;omega
  subst hE0;obtain ⟨q,hq⟩:∃ q,n/256=q:=(⟨_,rfl⟩);have hqi:(q:Int)≤65536:=by omega
  have hf:findP p nm=(max q (((zaa p.dl nm).getLast?.map (· + 1)).getD 0),0):=by
   unfold findP zas;rw [if_neg (by omega),hz,hq]
  rw [hf];have PG:=zH (fun (V:World) (k:Keeps w V) (f:Nat) (hf:PfAt V f B.db nm)=>by
   have:=zcT (h.D.keep k) hZ hf hnm hz hn;rw [hq] at this;exact this)
  obtain ⟨v,hl,hr,ho⟩:=h.I.dval nm;have LK:=zH (fun (V:World) (k:Keeps w V)=>show (Instr.lookup 152 (.map (some B.dm)) (.string (str nm)) false).run Tryz.prog V = .ok v V from by
   obtain ⟨v',hl',hr',ho'⟩:=(h.I.keep k).dval nm;have e1:=hl w rfl;have e2:=hl' V rfl;have e3:=zbr (P:=Tryz.prog) zcW (z:=.slice none 0 0) zeroD h.I.dirt nm false;have e4:=zbr (P:=Tryz.prog) zcW (z:=.slice none 0 0) zeroD (h.I.dirt.keep k) nm false;have e5:=e1.symm.trans e3;injection e5 with e5 _;rw [e5];exact e4)
  have P3:=zH (fun (V:World) (k:Keeps w V)=>show V.cell? ⟨B.pb,3,none⟩=some (.map (some B.dm)) from (h.I.box.keep k).cell 3 rfl);have hlen:=zbV X nm (zaa p.dl nm);have hO:=Own.of_row hr;rw [hlen] at hO;obtain ⟨A,c,rfl,-⟩:=hO.form;by_cases hk:zaa p.dl nm=[]
  ·rw [hk] at LK ⊢;have LK:=LK;simp only [List.getLast?_nil,Option.map_none,Option.getD_none,Nat.max_zero,List.length_nil] at LK ⊢;clear h hf hl hr ho hO hlen hk hb hz hn hq;generalize str nm=sv at *;go_enter Tryz.func109,Tryz.ntmps109;go_wp2_with fail
   refine OP.out.mono ?_;rintro e w1 ⟨k1,(⟨-,f,rfl,hf1,hlt⟩|⟨hbad,-⟩)⟩
   ·have K1:=zH k1;have F1:=zH hf1;have HL:=zH hlt;clear k1 hf1 hlt;go_wp2_with fail
    refine (PG.out _ K1.out f F1.out).mono ?_;rintro e w2 ⟨rfl,k2⟩;have K2:=zH (zK K1.out k2);have F2:=zH (F1.out.keep k2);have c3:=P3.out _ K2.out;have lk:=LK.out _ K2.out;clear k2;go_wp2;go_returns;exact ⟨K2.out, .inl ⟨rfl,f,rfl,F2.out,HL.out⟩⟩
   ·exact absurd hE hbad
  ·obtain ⟨y,hy⟩:∃ y,(zaa p.dl nm).getLast? = some y:=by
    cases e:(zaa p.dl nm).getLast? with
    | none=>exact absurd (List.getLast?_eq_none_iff.1 e) hk
    | some y=>exact ⟨y,rfl⟩
   have hyk:=List.mem_of_getLast? hy;obtain ⟨i,x,hx,h1,h2,h3⟩:=h.I.dfr hyk;have hyM:y≤M:=by rw [←h2];exact (hb i x.f (by rw [h.fr];exact zaH hx)).1
   obtain ⟨N,hN⟩:∃ N,(zaa p.dl nm).length=N:=(⟨_,rfl⟩);have hNp:0<N:=by rw [←hN];exact List.length_pos_iff.2 hk
   obtain ⟨m,hm⟩:∃ m,N=m+1:=(⟨N-1,by omega⟩);have hNi:(N:Int)≤4096:=by have:=h.I.dlen nm;have:=h.I.most;omega
   have hlast:(zan X nm (zaa p.dl nm))[m]? = some (dpt x.blk):=by
    unfold zan;rw [List.getLast?_eq_getElem?,hN,hm,Nat.add_sub_cancel] at hy;rw [List.getElem?_map,hy];simp only [Option.map_some];rw [h3]
   have CC:=zH (fun (V:World) (k:Keeps w V)=>show ∃ ad,A=some ad∧V.cell? (ad.add m)=some (.pointer (some ⟨x.blk,0,none⟩))∧V.cell? ⟨x.blk,1,none⟩=some (.int .i64 (y:Int)) from by
    obtain ⟨ad,e,-,hc⟩:=At.get (hO.keep k).at_ (k:=m) (by rw [hlen,hN];omega);have h4:V.cell? ⟨x.blk,1,none⟩=some (.int .i64 (x.f.k:Int)):=((h.I.fr i x hx).box.keep k).cell 1 rfl;rw [h2] at h4;exact ⟨ad,e,hc.trans hlast,h4⟩)
   rw [hN] at LK;rw [hy];simp only [Option.map_some,Option.getD_some];obtain ⟨z,hz2⟩:∃ z,y+1=z:=(⟨_,rfl⟩);rw [hz2];have hyz:(y:Int)+1=(z:Int):=(by omega);have hyi:(y:Int)≤1000000000000:=by omega
   have hsub:(N:Int)-1=(m:Int):=(by omega);have hNpi:(0:Int)<(N:Int):=by omega
   have hmN:(m:Int)<(N:Int):=(by omega);have mx:∀ (ts:Array TypeId) (t:TypeId) (V:World),(Builtin.max_ ts t #[.int .i64 (q:Int), .int .i64 (z:Int)]).run Tryz.prog V = .ok (.int .i64 ((max q z:Nat):Int)) V:=fun ts t V=>by
    rw [run_max_int2];congr 2
    split<;>omega
   generalize max q z=mm at *;generalize x.blk=xb at *;generalize str nm=sv at *;clear h hf hl hr ho hO hlen hk hb hz hn hq hy hyk hx h1 h2 h3 hyM hN hm hlast hz2 hNp;go_enter Tryz.func109,Tryz.ntmps109;go_wp2_with fail
   refine OP.out.mono ?_;rintro e w1 ⟨k1,(⟨-,f,rfl,hf1,hlt⟩|⟨hbad,-⟩)⟩
   ·have K1:=zH k1;have F1:=zH hf1;have HL:=zH hlt;clear k1 hf1 hlt;go_wp2_with fail
    refine (PG.out _ K1.out f F1.out).mono ?_;rintro e w2 ⟨rfl,k2⟩;have K2:=zH (zK K1.out k2);have F2:=zH (F1.out.keep k2);have c3:=P3.out _ K2.out;have lk:=LK.out _ K2.out;obtain ⟨ad,rfl,d1,d2⟩:=CC.out _ K2.out;clear k2;go_wp2;go_returns;exact ⟨K2.out, .inl ⟨rfl,f,rfl,F2.out,HL.out⟩⟩
   ·exact absurd hE hbad
 ·have hf:findP p nm=(0,openE p.d nm):=by unfold findP;rw [if_pos hE]
  rw [hf];generalize openE p.d nm=E at *;have hne:((E:Int) != 0)=true:=by rw [bne_iff_ne];omega
  clear h hf hz hn hb;generalize str nm=sv at *;go_enter Tryz.func109,Tryz.ntmps109;go_wp2_with fail
  refine OP.out.mono ?_;rintro e w1 ⟨k1,(⟨hbad,-⟩|⟨-,rfl⟩)⟩
  ·exact absurd hbad hE
  ·go_wp2;go_returns;exact ⟨k1, .inr ⟨hE,rfl⟩⟩
end
def Both (F G:Nat→Prop) (i:Nat):Prop:=F i∨G i
section
variable {K:DiskOk} {w0 w w':World} {B:PB} {X X':PX} {Fd Fp Fd' Fp':Nat→Prop} {sl sl':List (Option Fx)} {p p':Pst}
theorem Turns.left {F F':Nat→Prop} (t:Turns w w' F F') (G:Nat→Prop):Turns w w' (Both F G) (Both F' G):=
 ⟨t.only.more (fun _ h=>.inl h),fun b hb=>by
  rcases hb with hb|hb
  ·exact (t.next b hb).imp .inl id
  ·exact .inl (.inr hb)⟩
theorem Turns.right {F F':Nat→Prop} (t:Turns w w' F F') (G:Nat→Prop):Turns w w' (Both G F) (Both G F'):=
 ⟨t.only.more (fun _ h=>.inr h),fun b hb=>by
  rcases hb with hb|hb
  ·exact .inl (.inl hb)
  ·exact (t.next b hb).imp .inr id⟩
theorem PHave.disk (h:PHave K w0 w B Fd Fp X sl p) {d':Ds} (D':Have K w0 w' B.db Fd' d') (t:Turns w w' Fd Fd'):PHave K w0 w' B Fd' Fp X sl {p with d:=d'}∧Turns w w' (Both Fd Fp) (Both Fd' Fp):=
 ⟨⟨D',h.I.same (fun i hi=>t.only.block i (h.I.lt i hi) (h.ap i hi)) t.only.size,h.fr,h.ok.disk d',h.low,fun i hi=>t.notIn (h.I.lt i hi) (h.ap i hi)⟩,t.left Fp⟩
theorem PHave.pool (h:PHave K w0 w B Fd Fp X sl p) (hd:p'.d=p.d) (I':PIn w' B X' Fp' sl' p'.dl (tally p'.hand p'.fr p'.mostR p'.mostP)) (t:Turns w w' Fp Fp') (hf:p'.fr=frs sl') (ok:PstOk p'):PHave K w0 w' B Fd Fp' X' sl' p'∧Turns w w' (Both Fd Fp) (Both Fd Fp'):=
 ⟨⟨⟨by rw [hd];exact K.same h.D.D (fun i hi=>t.only.block i (K.lt h.D.D i hi) (fun e=>h.ap i e hi)) t.only.size,h.D.low,t.keeps h.D.kp h.low⟩,I',hf,ok,fun i hi=>by
  rcases t.next i hi with h1|h1
  ·exact h.low i h1
  ·exact Nat.le_trans h.D.kp.size h1,fun i hi hd=>by
  rcases t.next i hi with h1|h1
  ·exact h.ap i h1 hd
  ·have:=K.lt h.D.D i hd;omega⟩,t.right Fd⟩
def Got (K:DiskOk) (w0 w:World) (B:PB) (F:Nat→Prop) (sl:List (Option Fx)) (q:Pst) (v:Value) (e:Ending) (w':World):Prop:=
 e = .returned v∧∃ Fd' Fp' X',PHave K w0 w' B Fd' Fp' X' sl q∧Turns w w' F (Both Fd' Fp')
structure WbIn (sl:List (Option Fx)) (p:Pst) (fs:List Fx):Prop where
 inS:∀ x∈fs,∃ i:Nat,sl[i]? = some (some x)
 dirty:∀ x∈fs,x.f.k∈zaa p.dl x.f.name
 once:fs.Pairwise fun x y=>¬ (x.f.name=y.f.name∧x.f.k=y.f.k)
theorem WbIn.step {x:Fx} {fs:List Fx} (h:WbIn sl p (x::fs)) (hd:DlOk p.dl) (d':Ds):WbIn sl {p with d:=d',dl:=zaQ p.dl x.f.name x.f.k} fs:=
 ⟨fun y hy=>h.inS y (List.mem_cons_of_mem _ hy),fun y hy=>by
  have h1:=h.dirty y (List.mem_cons_of_mem _ hy);have h2:=(List.pairwise_cons.1 h.once).1 y hy;show y.f.k∈zaa (zaQ p.dl x.f.name x.f.k) y.f.name;rw [zb4];split
  ·rename_i e;rw [zcF (hd.rise_of _)];exact ⟨fun e2=>h2 ⟨e.symm,e2.symm⟩,by rw [←e];exact h1⟩
  ·exact h1,(List.pairwise_cons.1 h.once).2⟩
theorem zeI (PK:PageOk) (h:PHave K w0 w B Fd Fp X sl p) (hZ:K.Z w0) (hS:Sizes w0) {fs:List Fx} (hin:WbIn sl p fs) (A:Option Addr) (n c:Nat) (hn:n=fs.length) (hA:At w w.heap.size A (fs.map fun x=>.pointer (some ⟨x.blk,0,none⟩))) (hAF:∀ ad,A=some ad→¬ Both Fd Fp ad.block) {M:Nat} (hb:Bnd M p.fr) (hM:M≤1000000000000) (hnn:n≤1000000000)
 {p':Pst} {E:Nat} (hs:wbS p (fs.map Fx.f)=(p',E)) :
 Calls Tryz.prog 163 #[.pointer (some ⟨B.pb,0,none⟩), .slice A n c] w (Got K w0 w B (Both Fd Fp) sl p' (.int .i64 (E:Int))):=by
 have hni:(n:Int)≤1000000000:=by omega
 have H:=zH h;have HI:=zH hin;have HN:=zH hn;have HA:=zH hA;have HAF:=zH hAF;have HB:=zH hb;have HS:=zH hs;clear h hin hn hA hAF hb hs;go_enter Tryz.func163,Tryz.ntmps163;go_wp2;go_loopw [10] (fun i wr=>∃ (j:Nat) (Fd' Fp':Nat→Prop) (X':PX) (q:Pst),j≤n∧i = .int .i64 j∧Hid (PHave K w0 wr B Fd' Fp' X' sl q)∧Hid (Turns w wr (Both Fd Fp) (Both Fd' Fp'))∧Hid (WbIn sl q (fs.drop j))∧Hid (wbS q ((fs.drop j).map Fx.f)=(p',E))∧Hid (q.fr=p.fr)) (fun i _=>n-(intOf i).toNat)
 case atStart=>exact ⟨0,Fd,Fp,X,p,Nat.zero_le _,rfl,H,zH (Turns.refl _ _),HI,HS,zH rfl⟩
 case round=>
  obtain ⟨j,Fd1,Fp1,X1,q,hj,rfl,H1,T1,I1,S1,Q1⟩:=hrel;by_cases hlt:j<n
  ·have hjn:(j:Int)<(n:Int):=(by omega);have hjl:j<fs.length:=by have:=HN.out;omega
   obtain ⟨x,hx⟩:∃ x,fs[j]? = some x:=(⟨_,zG9 hjl⟩);have hdrop:fs.drop j=x::fs.drop (j+1):=by
    rw [List.drop_eq_getElem_cons hjl];congr 1
    rw [zG9 hjl] at hx;exact Option.some.inj hx
   have I2:=I1.out;have S2:=S1.out;rw [hdrop] at I2 S2;rw [List.map_cons,wbS] at S2;obtain ⟨i,hi⟩:=I2.inS x (List.mem_cons_self);have FX:=H1.out.I.fr i x hi;have hdx:=I2.dirty x (List.mem_cons_self);have hxM:x.f.k≤M:=by
    have:=HB.out i x.f (by rw [←Q1.out,H1.out.fr];exact zaH hi);exact this.1
   have hnm:x.f.name.length≤24:=H1.out.ok.names _ (by rw [H1.out.fr];exact mem_keys.2 ⟨i,x.f,zaH hi,rfl,rfl⟩);obtain ⟨ad,rfl,-,ha⟩:=At.get (T1.out.at_ HA.out HAF.out) (k:=j) (by rw [List.length_map];exact hjl);rw [List.getElem?_map,hx] at ha;simp only [Option.map_some] at ha;have c1:wr.cell? ⟨x.blk,1,none⟩=some (.int .i64 (x.f.k:Int)):=FX.box.cell 1 rfl;have c2:wr.cell? ⟨x.blk,2,none⟩=some (.pointer (some ⟨x.fb,0,none⟩)):=FX.box.cell 2 rfl;have c3:wr.cell? ⟨x.blk,3,none⟩=some (.slice x.A x.f.b.length x.c):=FX.box.cell 3 rfl;have ho:=FX.text.keep (zD wr);obtain ⟨A',c',hv,hc',hcm',-⟩:=ho.form;injection hv with v1 v2 v3;subst v1;subst v3;obtain ⟨d2,E2,hw⟩:∃ d2 E2,zaG q.d x.f.name (x.f.k:Int) x.f.b=(d2,E2):=⟨_,_,rfl⟩
   rw [hw] at S2;simp only at S2;have WR:=zH (zkw PK (H1.out.D.keep (zD wr)) hZ hS (FX.file.keep (zD wr)) (by omega) (x.f.k:Int) ⟨by omega,by omega⟩ x.A x.f.b.length x.c x.f.b ho.at_ rfl hc' hcm' hw);by_cases hE:E2=0
   ·subst hE;rw [if_pos rfl] at S2;have CL:=zH (fun (W:World) (Fd2:Nat→Prop) (hh:PHave K w0 W B Fd2 Fp1 X1 sl {q with d:=d2})=>znq hh.I hi hdx);have NXT:=zH (And.intro (I2.step H1.out.I.dlok d2) S2);have OK2:=zH (show PstOk {q with d:=d2,dl:=zaQ q.dl x.f.name x.f.k} from ⟨H1.out.ok.n,H1.out.ok.hand,H1.out.ok.one,H1.out.ok.dl.clean _ _,fun nm' k hk'=>H1.out.ok.held nm' k (by
     rw [zb4] at hk';split at hk'
     ·rename_i e;rw [e];exact List.mem_of_mem_erase hk'
     ·exact hk'),H1.out.ok.names,H1.out.ok.mostR,H1.out.ok.mostP⟩)
    have e1:((0:Int) != 0)=false:=rfl;have SK:=zH (fun (V:World) (kk:Keeps wr V)=>show V.cell? ⟨x.blk,1,none⟩=some (.int .i64 (x.f.k:Int))∧V.cell? ⟨x.blk,2,none⟩=some (.pointer (some ⟨x.fb,0,none⟩))∧V.cell? ⟨x.blk,3,none⟩=some (.slice x.A x.f.b.length x.c) from ⟨kk.cellOf c1,kk.cellOf c2,kk.cellOf c3⟩);have SB:=zH (fun (V:World) (Fd2:Nat→Prop) (hh:PHave K w0 V B Fd2 Fp1 X1 sl {q with d:=d2})=>show V.cell? ⟨x.blk,1,none⟩=some (.int .i64 (x.f.k:Int))∧V.cell? ⟨x.blk,2,none⟩=some (.pointer (some ⟨x.fb,0,none⟩))∧V.cell? ⟨x.blk,3,none⟩=some (.slice x.A x.f.b.length x.c) from ⟨(hh.I.fr i x hi).box.cell 1 rfl,(hh.I.fr i x hi).box.cell 2 rfl,(hh.I.fr i x hi).box.cell 3 rfl⟩);generalize x.f.b.length=bl at *;generalize hkk:x.f.k=k at *;generalize hxx:x.blk=xb at *;generalize x.fb=fb at *;generalize x.A=xA at *;generalize x.c=xc at *;clear I2 S2 hw hdx ho FX hx hdrop hi hc' hcm' hxM hnm hlt hjl;go_wp2_with fail
    go_region_held3 (fun V=>V.cell? ⟨xb,1,none⟩=some (.int .i64 (k:Int))∧V.cell? ⟨xb,2,none⟩=some (.pointer (some ⟨fb,0,none⟩))∧V.cell? ⟨xb,3,none⟩=some (.slice xA bl xc)) (first|assumption|exact SK.out _ (by exact zD _)) (first
     | (go_at_call 200;refine WR.out.mono ?_;rintro ee w2 ⟨rfl,Fd2,D2,t2⟩;obtain ⟨h2,T2⟩:=PHave.disk (H1.out.keep (zD wr)) D2 t2;have s2:=SB.out _ _ h2;have H2:=zH h2;have T2':=zH (T1.out.trans ((Turns.of_keeps (zD wr)).trans T2));clear h2 T2 D2 t2))
    clear c1 c2 c3 ha s2;go_wp2_with fail
    refine (CL.out _ _ H2.out).mono ?_;rintro e w3 ⟨rfl,X3,Fp3,I3,T3⟩;obtain ⟨h3,T3'⟩:=PHave.pool (p':={q with d:=d2,dl:=zaQ q.dl x.f.name k}) H2.out rfl I3 T3 H2.out.fr OK2.out;have H3:=zH h3;have TT:=zH (T2'.out.trans T3');clear h3 T3' I3 T3;go_wp2;go_roundw
    case rel=>exact ⟨j+1,Fd2,Fp3,X3,_,by omega,by go_num,H3,TT,zH NXT.out.1,zH NXT.out.2,Q1⟩
    case measure=>simp [intOf];omega
   ·rw [if_neg hE] at S2;obtain ⟨rfl,rfl⟩:=Prod.mk.inj S2;have e1:((E2:Int) != 0)=true:=by rw [bne_iff_ne];omega
    have SK:=zH (fun (V:World) (kk:Keeps wr V)=>show V.cell? ⟨x.blk,1,none⟩=some (.int .i64 (x.f.k:Int))∧V.cell? ⟨x.blk,2,none⟩=some (.pointer (some ⟨x.fb,0,none⟩))∧V.cell? ⟨x.blk,3,none⟩=some (.slice x.A x.f.b.length x.c) from ⟨kk.cellOf c1,kk.cellOf c2,kk.cellOf c3⟩);have SB:=zH (fun (V:World) (Fd2:Nat→Prop) (hh:PHave K w0 V B Fd2 Fp1 X1 sl {q with d:=d2})=>show V.cell? ⟨x.blk,1,none⟩=some (.int .i64 (x.f.k:Int))∧V.cell? ⟨x.blk,2,none⟩=some (.pointer (some ⟨x.fb,0,none⟩))∧V.cell? ⟨x.blk,3,none⟩=some (.slice x.A x.f.b.length x.c) from ⟨(hh.I.fr i x hi).box.cell 1 rfl,(hh.I.fr i x hi).box.cell 2 rfl,(hh.I.fr i x hi).box.cell 3 rfl⟩);generalize x.f.b.length=bl at *;generalize hkk:x.f.k=k at *;generalize hxx:x.blk=xb at *;generalize x.fb=fb at *;generalize x.A=xA at *;generalize x.c=xc at *;clear I2 S2 hw hdx ho FX hx hdrop hi hc' hcm' hxM hnm hlt hjl S1;go_wp2_with fail
    go_region_held3 (fun V=>V.cell? ⟨xb,1,none⟩=some (.int .i64 (k:Int))∧V.cell? ⟨xb,2,none⟩=some (.pointer (some ⟨fb,0,none⟩))∧V.cell? ⟨xb,3,none⟩=some (.slice xA bl xc)) (first|assumption|exact SK.out _ (by exact zD _)) (first
     | (go_at_call 200;refine WR.out.mono ?_;rintro ee w2 ⟨rfl,Fd2,D2,t2⟩;obtain ⟨h2,T2⟩:=PHave.disk (H1.out.keep (zD wr)) D2 t2;have s2:=SB.out _ _ h2;have H2:=zH h2;have T2':=zH (T1.out.trans ((Turns.of_keeps (zD wr)).trans T2));clear h2 T2 D2 t2))
    clear c1 c2 c3 ha s2;go_wp2;go_ret;exact ⟨rfl,Fd2,Fp1,X1,H2.out,T2'.out⟩
  ·obtain rfl:j=n:=(by omega);have S2:=S1.out;rw [List.drop_eq_nil_of_le (by have:=HN.out;omega)] at S2;obtain ⟨rfl,rfl⟩:=Prod.mk.inj S2;clear hlt hj S2 S1;go_wp2;go_ret;exact ⟨rfl,Fd1,Fp1,X1,H1.out,T1.out⟩
end
end Go.Proofs.YtjpldnjldindkaaGreatDoor
