/- How a pool lies in memory. -/
import Derived.Test.YtjpldnjldindkaaGreatDoorQPoolA
import Derived.Test.YtjpldnjldindkaaGreatDoorQDkA
import Derived.Test.YtjpldnjldindkaaGreatDoorQWent
set_option linter.all false
set_option maxHeartbeats 0
set_option maxRecDepth 100000
namespace Go.Proofs.YtjpldnjldindkaaGreatDoor
open Go.RowKit
structure Fx where
 blk:Nat
 fb:Nat
 A:Option Addr
 c:Nat
 f:Frm
def Fx.cells (x:Fx):Array Value:=#[.string (str x.f.name), .int .i64 (x.f.k:Int), .pointer (some ⟨x.fb,0,none⟩), .slice x.A x.f.b.length x.c, .int .i64 (x.f.pins:Int), .bool x.f.used]
def frs (sl:List (Option Fx)):List (Option Frm):=sl.map (Option.map Fx.f)
theorem zbE (sl:List (Option Fx)) (i:Nat):(frs sl)[i]? = (sl[i]?).map (Option.map Fx.f):=List.getElem?_map
theorem zdg (sl:List (Option Fx)):(frs sl).length=sl.length:=List.length_map _
theorem zbO {sl:List (Option Fx)} {i:Nat} {f:Frm} (h:(frs sl)[i]? = some (some f)):∃ x,sl[i]? = some (some x)∧x.f=f:=by
 rw [zbE] at h;cases e:sl[i]? with
 | none=>rw [e] at h;cases h
 | some o=>
  rw [e] at h;cases o with
  | none=>simp at h
  | some x=>simp only [Option.map_some,Option.some.injEq] at h;exact ⟨x,rfl,h⟩
theorem zaH {sl:List (Option Fx)} {i:Nat} {x:Fx} (h:sl[i]? = some (some x)):(frs sl)[i]? = some (some x.f):=by rw [zbE,h];rfl
theorem zf2 {sl:List (Option Fx)} {i:Nat} (h:(frs sl)[i]? = some none):sl[i]? = some none:=by
 rw [zbE] at h;cases e:sl[i]? with
 | none=>rw [e] at h;cases h
 | some o=>
  rw [e] at h;cases o with
  | none=>rfl
  | some x=>simp at h
theorem zbp (sl:List (Option Fx)) (i:Nat) (o:Option Fx):frs (sl.set i o)=(frs sl).set i (o.map Fx.f):=List.map_set
structure PB where
 pb:Nat
 db:Nat
 gr:Nat
 wb:Nat
 dm:Nat
structure PT where
 hand:Nat
 rn:Nat
 rm:Nat
 pn:Nat
 pm:Nat
structure PX where
 R:List UInt8→Option Nat×Nat
 bk:List UInt8→Nat→Nat
 W:List ((List UInt8×Nat)×Nat)
def sliV (x:Option Nat×Nat×Nat):Value:=.slice (x.1.map fun b=>(⟨b,0,none⟩:Addr)) x.2.1 x.2.2
def plC (B:PB) (n:Nat) (t:PT):Array Value:=#[.pointer (some ⟨B.db,0,none⟩), .slice (some ⟨B.gr,0,none⟩) n n, .map (some B.wb), .map (some B.dm), .int .i64 (t.hand:Int), .int .i64 (t.rn:Int), .int .i64 (t.rm:Int), .int .i64 (t.pn:Int), .int .i64 (t.pm:Int)]
def rowC (sl:List (Option Fx)):List Value:=sl.map fun o=>ptrO (o.map Fx.blk)
def zan (X:PX) (nm:List UInt8) (ks:List Nat):List Value:=ks.map fun k=>dpt (X.bk nm k)
def rowV (X:PX) (nm:List UInt8) (n:Nat):Value:=sliV ((X.R nm).1,n,(X.R nm).2)
theorem zd8:MapV Tryz.prog 151 49 194 plV dpt where
 m:=Tryz.underlying151
 check:=looseT.check
 find:=looseT.find
 bits:=looseT.bits
 inv:=looseT.inv
 einv:=⟨fun v=>match v with
  | .pointer (some a)=>a.block
  | _=>0,fun x=>rfl⟩
theorem zcW:MapV Tryz.prog 152 9 150 strW sliV:=
 zja Tryz.underlying152 Tryz.underlying9 ⟨fun v=>match v with
  | .slice (some a) n c=>(some a.block,n,c)
  | .slice none n c=>(none,n,c)
  | _=>(none,0,0),fun x=>by
   obtain ⟨g,n,c⟩:=x;cases g<;>rfl⟩
def Fx.tb (x:Fx):Option Nat:=(Value.slice x.A x.f.b.length x.c).ownBlock
structure FxAt (w:World) (db:Nat) (x:Fx):Prop where
 box:Box w x.blk 196 x.cells
 file:PfAt w x.fb db x.f.name
 text:Own w 0 5 1 (.slice x.A x.f.b.length x.c) x.f.b.length (cel x.f.b)
structure InP (Fp:Nat→Prop) (B:PB) (X:PX) (sl:List (Option Fx)) (dl:List (List UInt8×List Nat)):Prop where
 pb:Fp B.pb
 gr:Fp B.gr
 wb:Fp B.wb
 dm:Fp B.dm
 fr:∀ (i:Nat) (x:Fx),sl[i]? = some (some x)→Fp x.blk∧Fp x.fb∧(∀ g,x.tb=some g→Fp g)
 row:∀ nm ks,(nm,ks)∈dl→∀ g,(X.R nm).1=some g→Fp g
structure PIn (w:World) (B:PB) (X:PX) (Fp:Nat→Prop) (sl:List (Option Fx)) (dl:List (List UInt8×List Nat)) (t:PT):Prop where
 box:Box w B.pb 156 (plC B sl.length t)
 row:Box w B.gr 194 (rowC sl).toArray
 fr:∀ (i:Nat) (x:Fx),sl[i]? = some (some x)→FxAt w B.db x
 apart:∀ (i j:Nat) (x y:Fx),sl[i]? = some (some x)→sl[j]? = some (some y)→x.blk=y.blk→i=j
 bk:∀ (i:Nat) (x:Fx),sl[i]? = some (some x)→X.bk x.f.name x.f.k=x.blk
 wher:MapW plV dpt w B.wb X.W
 look:∀ nm k,lookM X.W (nm,k)=if some (nm,k)∈zac (frs sl) then some (X.bk nm k) else none
 dirt:MapW strW sliV w B.dm (dl.map fun e=>(e.1,((X.R e.1).1,e.2.length,(X.R e.1).2)))
 rows:∀ nm ks,(nm,ks)∈dl→PRow w (rowV X nm ks.length) (zan X nm ks)
 rowne:∀ nm ks,(nm,ks)∈dl→(X.R nm).1≠some B.gr
 rowap:∀ nm ks nm' ks',(nm,ks)∈dl→(nm',ks')∈dl→nm≠nm'→∀ g,(X.R nm).1=some g→(X.R nm').1≠some g
 held:∀ nm k,k∈zaa dl nm→some (nm,k)∈zac (frs sl)
 dlok:DlOk dl
 one:One (frs sl)
 inP:InP Fp B X sl dl
 lt:∀ i,Fp i→i<w.heap.size
 most:sl.length≤4096
 two:B.wb≠B.dm
def tally (hand:Nat) (fr:List (Option Frm)) (rm pm:Nat):PT:=⟨hand,resN fr,rm,pinN fr,pm⟩
structure PHave (K:DiskOk) (w0 w:World) (B:PB) (Fd Fp:Nat→Prop) (X:PX) (sl:List (Option Fx)) (p:Pst):Prop where
 D:Have K w0 w B.db Fd p.d
 I:PIn w B X Fp sl p.dl (tally p.hand p.fr p.mostR p.mostP)
 fr:p.fr=frs sl
 ok:PstOk p
 low:∀ i,Fp i→w0.heap.size≤i
 ap:∀ i,Fp i→¬ Fd i
section
variable {w w':World} {B:PB} {X:PX} {Fp:Nat→Prop} {sl:List (Option Fx)} {dl:List (List UInt8×List Nat)} {t:PT}
theorem FxAt.same {db:Nat} {x:Fx} (h:FxAt w db x) (h1:w'.heap[x.blk]? = w.heap[x.blk]?) (h2:w'.heap[x.fb]? = w.heap[x.fb]?) (h3:∀ g,x.tb=some g→w'.heap[g]? = w.heap[g]?):FxAt w' db x:=
 ⟨h1.trans h.box,h2.trans h.file,h.text.same h3⟩
theorem PRow.same {v:Value} {xs:List Value} (h:PRow w v xs) (hk:∀ g,v.ownBlock=some g→w'.heap[g]? = w.heap[g]?):PRow w' v xs:=by
 refine ⟨h.1,?_⟩;rcases h.2 with h0|⟨g,cap,cur,rfl,hb,hg,r⟩
 ·exact .inl h0
 ·exact .inr ⟨g,cap,cur,rfl,hb,(hk g rfl).trans hg,r⟩
theorem zbw (X:PX) (nm:List UInt8) (n:Nat):(rowV X nm n).ownBlock=(X.R nm).1:=by
 unfold rowV sliV;cases (X.R nm).1<;>rfl
theorem PIn.same (h:PIn w B X Fp sl dl t) (hk:∀ i,Fp i→w'.heap[i]? = w.heap[i]?) (hs:w.heap.size≤w'.heap.size):PIn w' B X Fp sl dl t where
 box:=(hk _ h.inP.pb).trans h.box
 row:=(hk _ h.inP.gr).trans h.row
 fr:=fun i x hx=>by
  obtain ⟨h1,h2,h3⟩:=h.inP.fr i x hx;exact (h.fr i x hx).same (hk _ h1) (hk _ h2) (fun g e=>hk _ (h3 g e))
 apart:=h.apart
 bk:=h.bk
 wher:=h.wher.same (hk _ h.inP.wb)
 look:=h.look
 dirt:=h.dirt.same (hk _ h.inP.dm)
 rows:=fun nm ks he=>(h.rows nm ks he).same (fun g hg=>by rw [zbw] at hg;exact hk _ (h.inP.row nm ks he g hg))
 rowne:=h.rowne
 rowap:=h.rowap
 held:=h.held
 dlok:=h.dlok
 one:=h.one
 inP:=h.inP
 lt:=fun i hi=>Nat.lt_of_lt_of_le (h.lt i hi) hs
 most:=h.most
 two:=h.two
theorem zh3 {α:Type} [DecidableEq α]:∀ {l m:List α},l.Nodup→(∀ x∈l,x∈m)→l.length≤m.length
 | [],m,_,_=>Nat.zero_le _
 | a::l,m,h,hs=>by
  obtain ⟨h1,h2⟩:=List.nodup_cons.1 h;have ha:=hs a (List.mem_cons_self);have:=zh3 (m:=m.erase a) h2 (fun x hx=>(List.mem_erase_of_ne (fun e=>h1 (by rw [←e];exact hx))).2 (hs x (List.mem_cons_of_mem _ hx)));rw [List.length_erase_of_mem ha] at this;have:=List.length_pos_of_mem ha;simp only [List.length_cons];omega
theorem PIn.dlen (h:PIn w B X Fp sl dl t) (nm:List UInt8):(zaa dl nm).length≤sl.length:=by
 have h1:((zaa dl nm).map fun k=>some (nm,k)).Nodup:=by
  rw [List.nodup_iff_pairwise_ne,List.pairwise_map];refine (h.dlok.rise_of nm).imp fun {a b} hab e=>?_
  simp only [Option.some.injEq,Prod.mk.injEq,true_and] at e;omega
 have h2:=zh3 (m:=zac (frs sl)) h1 (fun x hx=>by
  obtain ⟨k,hk,rfl⟩:=List.mem_map.1 hx;exact h.held nm k hk)
 rwa [List.length_map,zaV,zdg] at h2
theorem PIn.dfr (h:PIn w B X Fp sl dl t) {nm:List UInt8} {k:Nat} (hk:k∈zaa dl nm):∃ (i:Nat) (x:Fx),sl[i]? = some (some x)∧x.f.name=nm∧x.f.k=k∧X.bk nm k=x.blk:=by
 obtain ⟨i,f,hf,h1,h2⟩:=mem_keys.1 (h.held nm k hk);obtain ⟨x,hx,rfl⟩:=zbO hf;exact ⟨i,x,hx,h1,h2,by rw [←h1,←h2];exact h.bk i x hx⟩
theorem zeroD:∀ w,(zeroValue 150).run Tryz.prog w = .ok (.slice none 0 0) w:=Tryz.zeroValue150
theorem zjs:∀ w,(zeroValue 194).run Tryz.prog w = .ok (.pointer none) w:=Tryz.zeroValue194
theorem PRow.nil (w:World):PRow w (.slice none 0 0) []:=⟨rfl, .inl ⟨rfl,rfl⟩⟩
theorem zh4 {α β γ:Type} [DecidableEq α] (f:α→β→γ) (l:List (α×β)) (a:α):lookM (l.map fun e=>(e.1,f e.1 e.2)) a=(lookM l a).map (f a):=by
 unfold lookM;rw [List.find?_map];have e:((fun p:α×γ=>decide (p.1=a)) ∘ fun e:α×β=>(e.1,f e.1 e.2))=fun p=>decide (p.1=a):=rfl
 rw [e];cases hf:l.find? (fun p=>decide (p.1=a)) with
 | none=>rfl
 | some p=>
  have:=List.find?_some hf;simp only [decide_eq_true_eq] at this;subst this;rfl
theorem PIn.dval (h:PIn w B X Fp sl dl t) (nm:List UInt8):∃ v,(∀ W:World,W.heap=w.heap→(Instr.lookup 152 (.map (some B.dm)) (.string (str nm)) false).run Tryz.prog W = .ok v W)∧PRow w v (zan X nm (zaa dl nm))∧
 (v.ownBlock=none∨(∃ ks,(nm,ks)∈dl∧v.ownBlock=(X.R nm).1∧v=rowV X nm (zaa dl nm).length)):=by
 have hl:=fun (W:World) (hW:W.heap=w.heap)=>zbr (P:=Tryz.prog) zcW (z:=.slice none 0 0) zeroD (h.dirt.same (w':=W) (by rw [hW])) nm false
 simp only [Bool.false_eq_true,if_false] at hl;have e:lookM (dl.map fun e=>(e.1,((X.R e.1).1,e.2.length,(X.R e.1).2))) nm=(lookM dl nm).map fun ks=>((X.R nm).1,ks.length,(X.R nm).2):=zh4 (fun a (b:List Nat)=>((X.R a).1,b.length,(X.R a).2)) dl nm
 rw [e] at hl;unfold zaa;cases e2:lookM dl nm with
 | none=>
  rw [e2] at hl;exact ⟨_,hl,PRow.nil w, .inl rfl⟩
 | some ks=>
  rw [e2] at hl;have hm:=zeX e2;exact ⟨rowV X nm ks.length,hl,h.rows nm ks hm, .inr ⟨ks,hm,zbw _ _ _,rfl⟩⟩
theorem PIn.search (h:PIn w B X Fp sl dl t) (nm:List UInt8) (k:Nat) {v:Value} (hv:PRow w v (zan X nm (zaa dl nm))) (V:World) (hV:Keeps w V) :
 Calls Tryz.prog 193 #[v, .int .i64 (k:Int)] V fun e w'=>e = .returned (.tuple #[.int .i64 (below (zaa dl nm) k:Int), .bool (decide (k∈zaa dl nm))])∧V=w':=by
 have hO:=Own.of_row hv;have hll:(zan X nm (zaa dl nm)).length=(zaa dl nm).length:=List.length_map _;rw [hll] at hO;obtain ⟨A,c,rfl,-⟩:=hO.form;have e1:((zaa dl nm).map fun k=>(X.bk nm k,k)).map (·.2)=zaa dl nm:=by rw [List.map_map];exact List.map_id _
 have e2:((zaa dl nm).map fun k=>(X.bk nm k,k)).map (fun x=>Value.pointer (some ⟨x.1,0,none⟩))=zan X nm (zaa dl nm):=by rw [List.map_map];rfl
 have:=zgE A (zaa dl nm).length c ((zaa dl nm).map fun k=>(X.bk nm k,k)) k V (by rw [e2];exact (hO.keep hV).at_) (List.length_map _).symm (by have:=h.dlen nm;have:=h.most;omega) (fun x hx=>by
  obtain ⟨k',hk',rfl⟩:=List.mem_map.1 hx;obtain ⟨i,y,hy,h1,h2,h3⟩:=h.dfr hk';have:V.cell? ⟨y.blk,1,none⟩=some (.int .i64 (y.f.k:Int)):=((h.fr i y hy).box.keep hV).cell 1 rfl;rw [h2] at this;simp only;rw [h3];exact this) (by rw [e1];exact h.dlok.rise_of nm)
 rwa [e1] at this
theorem PIn.keep (h:PIn w B X Fp sl dl t) (k:Keeps w w'):PIn w' B X Fp sl dl t:=h.same (fun i hi=>k.block i (h.lt i hi)) k.size
end
theorem za7 (w:World) (p:Addr) (u:Value):Only w (w.setCell p u) (fun b=>b=p.block):=⟨rfl,rfl,rfl,by simp,fun i _ hn=>Below.heap_setCell _ p _ i hn⟩
theorem Only.more {w w':World} {S S':Nat→Prop} (h:Only w w' S) (hS:∀ i,S i→S' i):Only w w' S':=⟨h.os,h.tape,h.output,h.size,fun k hk hn=>h.block k hk (fun e=>hn (hS k e))⟩
theorem znp (w:World) (b i j:Nat) (u v:Value):Only w ((w.setCell ⟨b,i,none⟩ u).drew.setCell ⟨b,j,none⟩ v) (fun c=>c=b):=
 (za7 w ⟨b,i,none⟩ u).trans (S1:=fun c=>c=b) ⟨rfl,rfl,rfl,by simp [World.setCell],fun k _ hn=>Below.heap_setCell (w.setCell ⟨b,i,none⟩ u).drew ⟨b,j,none⟩ _ k hn⟩ (fun _ h=>.inl h)
theorem zhp (w:World) (pb o now most m:Nat) (n:Int) (cs:Array Value) (ho:0<o) (hb:Box w pb 156 cs) (h0:cs[o]? = some (.int .i64 (now:Int))) (h1:cs[o+1]? = some (.int .i64 (most:Int))) (hm:(now:Int)+n=(m:Int)) (hl:now≤1000000000000∧m≤1000000000000∧most≤1000000000000) :
 Calls Tryz.prog 167 #[.pointer (some ⟨pb,o,none⟩), .int .i64 n] w fun e w'=>e = .returned (.tuple #[])∧Box w' pb 156 ((cs.setIfInBounds o (.int .i64 (m:Int))).setIfInBounds (o+1) (.int .i64 ((max most m:Nat):Int)))∧Only w w' (fun c=>c=pb):=by
 have c0:=hb.cell o h0;have f0:=hb.frozen o;have B1:=hb.set o (.int .i64 (m:Int));have hlt:o<cs.size:=(zJ9.1 h0).1;have hlt2:o+1<cs.size:=(zJ9.1 h1).1;have d0:((w.setCell ⟨pb,o,none⟩ (.int .i64 (m:Int)))).drew.cell? ⟨pb,o,none⟩=some (.int .i64 (m:Int)):=Box.cell (w:=(w.setCell ⟨pb,o,none⟩ (.int .i64 (m:Int))).drew) B1 o (by simp [hlt]);have d1:((w.setCell ⟨pb,o,none⟩ (.int .i64 (m:Int)))).drew.cell? ⟨pb,o+1,none⟩=some (.int .i64 (most:Int)):=Box.cell (w:=(w.setCell ⟨pb,o,none⟩ (.int .i64 (m:Int))).drew) B1 (o+1) (by rw [Array.getElem?_setIfInBounds,if_neg (by omega)];exact h1);have f1:((w.setCell ⟨pb,o,none⟩ (.int .i64 (m:Int)))).drew.frozen? ⟨pb,o+1,none⟩=false:=Box.frozen (w:=(w.setCell ⟨pb,o,none⟩ (.int .i64 (m:Int))).drew) B1 (o+1);have FB:=zH (Box.set (w:=(w.setCell ⟨pb,o,none⟩ (.int .i64 (m:Int))).drew) B1 (o+1) (.int .i64 ((max most m:Nat):Int)));have mx:∀ (ts:Array TypeId) (t:TypeId) (V:World),(Builtin.max_ ts t #[.int .i64 (most:Int), .int .i64 (m:Int)]).run Tryz.prog V = .ok (.int .i64 ((max most m:Nat):Int)) V:=fun ts t V=>by
  rw [run_max_int2];congr 2
  split<;>omega
 have hw:IntKind.i64.wrap ((now:Int)+n)=(m:Int):=by rw [hm];exact IntWalk.i64_in _ (by omega)
 have hpb:¬ (o=0):=by omega
 clear hb B1 h0 h1 hm hlt hlt2;generalize max most m=q at *;go_enter Tryz.func167,Tryz.ntmps167;go_wp2;go_region
 go_wp2;go_returns;exact ⟨rfl,FB.out,znp _ _ _ _ _ _⟩
section
variable {w w':World} {B:PB} {X:PX} {Fp:Nat→Prop} {sl:List (Option Fx)} {dl:List (List UInt8×List Nat)} {t:PT}
theorem zal {g h:Nat} {c d:Array Value} {T U:TypeId} {f f':Nat×Nat} (hg:w.heap[g]? = some (.cells c T f)) (hh:w.heap[h]? = some (.cells d U f')) (hne:T≠U):g≠h:=by
 rintro rfl;rw [hg] at hh;injection hh with hh;injection hh with _ h2 _;exact hne h2
theorem PRow.cells {v:Value} {xs:List Value} (h:PRow w v xs) {g:Nat} (hg:v.ownBlock=some g):∃ c,w.heap[g]? = some (.cells c 194 (0,0)):=by
 rcases h.form with ⟨rfl,-⟩|⟨g',cur,rfl,hb,-⟩
 ·cases hg
 ·obtain rfl:=Option.some.inj hg;exact ⟨cur,hb⟩
theorem Own.cells {base:Nat} {e:TypeId} {size:Nat} {v:Value} {n:Nat} {xs:List Value} (h:Own w base e size v n xs) {g:Nat} (hg:v.ownBlock=some g):∃ c f,w.heap[g]? = some (.cells c e f):=by
 rcases h.2 with ⟨rfl,-⟩|⟨g',cap,cur,fz,rfl,-,hb,-⟩
 ·cases hg
 ·obtain rfl:=Option.some.inj hg;exact ⟨cur,fz,hb⟩
theorem PIn.notdm (h:PIn w B X Fp sl dl t) {i:Nat} {c:Array Value} {T:TypeId} {f:Nat×Nat} (hi:w.heap[i]? = some (.cells c T f)):i≠B.dm:=h.dirt.ne hi
theorem PIn.notwb (h:PIn w B X Fp sl dl t) {i:Nat} {c:Array Value} {T:TypeId} {f:Nat×Nat} (hi:w.heap[i]? = some (.cells c T f)):i≠B.wb:=h.wher.ne hi
theorem PIn.rowcell (h:PIn w B X Fp sl dl t) {nm:List UInt8} {ks:List Nat} (he:(nm,ks)∈dl) {g:Nat} (hg:(X.R nm).1=some g):∃ c,w.heap[g]? = some (.cells c 194 (0,0)):=(h.rows nm ks he).cells (by rw [zbw];exact hg)
theorem PIn.dirtyTo (h:PIn w B X Fp sl dl t) {nm:List UInt8} {ob:Option Nat} (hob:ob=none∨∃ ks,(nm,ks)∈dl∧ob=(X.R nm).1)
 (hO:∀ i,Fp i→i≠B.dm→ob≠some i→w'.heap[i]? = w.heap[i]?) {g':Option Nat} {c':Nat} (hg':∀ g,g'=some g→(ob=some g∨w.heap.size≤g)∧g<w'.heap.size) (hs:w.heap.size≤w'.heap.size)
 {dl':List (List UInt8×List Nat)} (hdl':DlOk dl') (hheld:∀ nm' k,k∈zaa dl' nm'→some (nm',k)∈zac (frs sl)) (hmem:∀ nm' ks,(nm',ks)∈dl'→nm'≠nm→(nm',ks)∈dl)
 (hrow:∀ ks,(nm,ks)∈dl'→PRow w' (sliV (g',ks.length,c')) (zan X nm ks))
 (hM:MapW strW sliV w' B.dm (dl'.map fun e=>(e.1,((if e.1=nm then (g',c') else X.R e.1).1,e.2.length,(if e.1=nm then (g',c') else X.R e.1).2)))) :
 PIn w' B {X with R:=fun a=>if a=nm then (g',c') else X.R a} (fun i=>Fp i∨g'=some i) sl dl' t:=by
 have obx:∀ {i:Nat} {c:Array Value} {T:TypeId} {f:Nat×Nat},w.heap[i]? = some (.cells c T f)→T≠194→ob≠some i:=fun hi hT ho=>by
  rcases hob with e|⟨ks,he,e⟩
  ·rw [e] at ho;cases ho
  ·obtain ⟨c',hc⟩:=h.rowcell he (e.symm.trans ho);exact zal hi hc hT rfl
 have gro:ob≠some B.gr:=fun ho=>by
  rcases hob with e|⟨ks,he,e⟩
  ·rw [e] at ho;cases ho
  ·exact h.rowne nm ks he (e.symm.trans ho)
 have ne':∀ {i:Nat},Fp i→ob≠some i→∀ g,g'=some g→g≠i:=fun hi ho g hg e=>by
  subst e;rcases (hg' g hg).1 with h1|h1
  ·exact ho h1
  ·have:=h.lt _ hi;omega
 refine ⟨(hO _ h.inP.pb (h.notdm h.box) (obx h.box (by decide))).trans h.box,(hO _ h.inP.gr (h.notdm h.row) gro).trans h.row,fun i x hx=>?_,h.apart,h.bk,?_,h.look,hM,fun nm' ks he=>?_,fun nm' ks he=>?_,fun n1 k1 n2 k2 h1 h2 hne g hg=>?_,hheld,hdl',h.one,⟨.inl h.inP.pb, .inl h.inP.gr, .inl h.inP.wb, .inl h.inP.dm,fun i x hx=>?_,fun nm' ks he g hg=>?_⟩,fun i hi=>?_,h.most,h.two⟩
 ·obtain ⟨p1,p2,p3⟩:=h.inP.fr i x hx;have F:=h.fr i x hx;exact F.same (hO _ p1 (h.notdm F.box) (obx F.box (by decide))) (hO _ p2 (h.notdm F.file) (obx F.file (by decide))) (fun g hg=>by
   obtain ⟨c,f,hc⟩:=F.text.cells hg;exact hO _ (p3 g hg) (h.notdm hc) (obx hc (by decide)))
 ·refine h.wher.same (hO _ h.inP.wb h.two (fun ho=>?_));rcases hob with e|⟨ks,he,e⟩
  ·rw [e] at ho;cases ho
  ·obtain ⟨c',hc⟩:=h.rowcell he (e.symm.trans ho);exact h.wher.ne hc rfl
 ·by_cases e:nm'=nm
  ·subst e;have:rowV {X with R:=fun a=>if a=nm' then (g',c') else X.R a} nm' ks.length=sliV (g',ks.length,c'):=by unfold rowV;simp
   rw [this];exact hrow ks he
  ·have h1:=hmem nm' ks he e;have:rowV {X with R:=fun a=>if a=nm then (g',c') else X.R a} nm' ks.length=rowV X nm' ks.length:=by unfold rowV;simp [e]
   rw [this];refine (h.rows nm' ks h1).same (fun g hg=>?_);rw [zbw] at hg;obtain ⟨c,hc⟩:=h.rowcell h1 hg;refine hO g (h.inP.row nm' ks h1 g hg) (h.notdm hc) (fun ho=>?_);rcases hob with e2|⟨ks2,he2,e2⟩
   ·rw [e2] at ho;cases ho
   ·exact h.rowap nm' ks nm ks2 h1 he2 e g hg (e2.symm.trans ho)
 ·show (if nm'=nm then (g',c') else X.R nm').1≠some B.gr;split
  ·intro hg;exact ne' h.inP.gr gro _ hg rfl
  ·rename_i e;exact h.rowne nm' ks (hmem nm' ks he e)
 ·show (if n2=nm then (g',c') else X.R n2).1≠some g;have hg:(if n1=nm then (g',c') else X.R n1).1=some g:=hg;by_cases e1:n1=nm
  ·have e2:n2≠nm:=(fun e=>hne (e1.trans e.symm));rw [if_pos e1] at hg;rw [if_neg e2];intro hc;have hm:=hmem n2 k2 h2 e2;refine ne' (h.inP.row n2 k2 hm g hc) (fun ho=>?_) g hg rfl;rcases hob with e3|⟨ks3,he3,e3⟩
   ·rw [e3] at ho;cases ho
   ·exact h.rowap n2 k2 nm ks3 hm he3 e2 g hc (e3.symm.trans ho)
  ·rw [if_neg e1] at hg;have hm1:=hmem n1 k1 h1 e1;by_cases e2:n2=nm
   ·rw [if_pos e2];intro hc;refine ne' (h.inP.row n1 k1 hm1 g hg) (fun ho=>?_) g hc rfl;rcases hob with e3|⟨ks3,he3,e3⟩
    ·rw [e3] at ho;cases ho
    ·exact h.rowap n1 k1 nm ks3 hm1 he3 e1 g hg (e3.symm.trans ho)
   ·rw [if_neg e2];exact h.rowap n1 k1 n2 k2 hm1 (hmem n2 k2 h2 e2) hne g hg
 ·obtain ⟨p1,p2,p3⟩:=h.inP.fr i x hx;exact ⟨.inl p1, .inl p2,fun g hg=>.inl (p3 g hg)⟩
 ·have hg:(if nm'=nm then (g',c') else X.R nm').1=some g:=hg;split at hg
  ·exact .inr hg
  ·rename_i e;exact .inl (h.inP.row nm' ks (hmem nm' ks he e) g hg)
 ·rcases hi with hi|hi
  ·exact Nat.lt_of_lt_of_le (h.lt i hi) hs
  ·exact (hg' i hi).2
theorem zq6 (X:PX) (dl:List (List UInt8×List Nat)) (nm:List UInt8) (g':Option Nat) (c':Nat) (ks:List Nat) :
 ((putM dl nm ks).map fun e=>(e.1,((if e.1=nm then (g',c') else X.R e.1).1,e.2.length,(if e.1=nm then (g',c') else X.R e.1).2))) =
  putM (dl.map fun e=>(e.1,((X.R e.1).1,e.2.length,(X.R e.1).2))) nm (g',ks.length,c'):=by
 unfold putM;rw [List.map_cons,if_pos rfl];congr 1
 unfold delM;rw [List.filter_map];refine (List.map_congr_left fun e he=>?_);have:e.1≠nm:=by simpa using (List.mem_filter.1 he).2
 simp only [if_neg this]
theorem zq7 (X:PX) (dl:List (List UInt8×List Nat)) (nm:List UInt8) (y:Option Nat×Nat) :
 ((delM dl nm).map fun e=>(e.1,((if e.1=nm then y else X.R e.1).1,e.2.length,(if e.1=nm then y else X.R e.1).2)))=delM (dl.map fun e=>(e.1,((X.R e.1).1,e.2.length,(X.R e.1).2))) nm:=by
 unfold delM;rw [List.filter_map];refine (List.map_congr_left fun e he=>?_);have:e.1≠nm:=by simpa using (List.mem_filter.1 he).2
 simp only [if_neg this]
end
end Go.Proofs.YtjpldnjldindkaaGreatDoor
