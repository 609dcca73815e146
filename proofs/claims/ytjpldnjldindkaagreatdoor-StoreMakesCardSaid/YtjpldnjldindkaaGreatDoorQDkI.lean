/- maps.Keys and slices.Collect at a map whose keys are places: what comes is each key once, in some order. -/
import Derived.Test.YtjpldnjldindkaaGreatDoorQDkA
import Derived.Lib.Bytealg
import Derived.Laws.Externs
import Derived.Sort.Grow
import Derived.Test.YtjpldnjldindkaaGreatDoorQLaySt
import Derived.Shelf.SlSortCmp.NoneTotal
set_option linter.all false
set_option maxHeartbeats 0
set_option maxRecDepth 100000
namespace Go.Proofs.YtjpldnjldindkaaGreatDoor
open Go.RowKit Go.Shelf
def encP (x:List UInt8×Nat):Value:=(.agg #[.string (str x.1), .int .i64 (x.2:Int)])
def celP (x:List UInt8×Nat):List Value:=[.string (str x.1), .int .i64 (x.2:Int)]
theorem infoP:(Tryz.prog.info? 49).map (fun i=>(i.zero,i.size,i.bytes))=some (some (.agg #[.string ⟨#[]⟩, .int .i64 0]),2,24):=by kernel_rfl
theorem zsz (l Bm b:Nat) (es:List ((List UInt8×Nat)×Unit)) (J:List (List UInt8×Nat)→World→Prop) (W:World)
 (hY:∀ pre x W1,J pre W1→pre.length<es.length→YieldAt Fence.wide 0 Tryz.prog l #[(.agg #[.string (str x.1), .int .i64 (x.2:Int)])] W1 fun e W'=>e = .returned (.bool true)∧J (pre++[x]) W'∧KeepsWalks W1 W')
 (hJ:AbidesFrom W.heap.size J) (hm:W.cell? ⟨Bm,0,none⟩=some (.map (some b))) (hown:MapW plV unV W b es) (h0:J [] W) :
 Calls Tryz.prog 69 #[.func (.yield l) #[] #[], .pointer (some ⟨Bm,0,none⟩)] W fun e W'=>(∃ v,e = .returned v)∧∃ ss:List (List UInt8×Nat),ss.Perm (es.map Prod.fst)∧J ss W':=by
 refine (callsIn_wide (n:=1)).1 ?_;have OW:=zH hown;have HY:=zH hY;have HJ:=zH hJ;have H0:=zH h0;clear hown hY hJ h0;refine callsIn_of_wp Tryz.func69 rfl trivial ?_ rfl;simp only [Tryz.ntmps69,List.size_toArray,List.length_cons,List.length_nil,Nat.reduceAdd,Nat.reduceSub,Array.replicate_succ,Array.replicate_zero,List.push_toArray,List.append_toArray,List.nil_append,List.cons_append]
 gi_wp2_with (first
  | (gi_at_range;refine zdC _ rfl _ rfl looseT b es rfl OW.out ?_;intro w0 hi0 hk0 hs0)
  | gi_in)
 go_frame
 have HI0:=zH hi0;have HK0:=zH hk0;clear hi0 hk0 hs0
 gi_loopw [3] (fun _ wr=>∃ (lf:List ((List UInt8×Nat)×Unit)) (ss:List (List UInt8×Nat)),IterV plV unV wr b W.heap.size es lf∧(ss++lf.map Prod.fst).Perm (es.map Prod.fst)∧J ss wr)
  (fun _ wr=>wr.rangeLeft b W.heap.size)
 case atStart=>exact ⟨es,[],HI0.out,by simp,HJ.out [] W w0 none H0.out ⟨HK0.out.os,HK0.out.tape,HK0.out.output,HK0.out.size,fun k hk _=>HK0.out.block k hk⟩ (fun r e=>by cases e)⟩
 case round=>
  obtain ⟨lf,ss,hI,hP,hJs⟩:=hrel;have HP:=zH hP;have HS:=zH hJs;have HI:=zH hI;clear hP hJs
  gi_wp2_with (first
   | (gi_at_next;refine zd0 _ rfl _ rfl looseT b W.heap.size es lf rfl HI.out (fun p:List UInt8×Nat=>Value.agg #[.string (str p.1), .int .i64 (p.2:Int)]) rfl (fun _:Unit=>Value.agg #[]) rfl ?_ ?_)
   | gi_in)
  ·intro hd;have HD:=zH hd;clear hd
   gi_wp2
   go_end0
   exact ⟨⟨_,rfl⟩,ss,by have:=HP.out;rw [HD.out] at this;simpa using this,HS.out⟩
  ·rintro xa xb y lf' w2 hp hI2 ho2 hen;have hJ2:J ss w2:=HJ.out ss wr w2 (some W.heap.size) HS.out (Only.grownBy ho2) (fun r e=>by cases e;exact ⟨Nat.le_refl _,HI.out.walk⟩);have hlen:ss.length<es.length:=by
    have h1:=HP.out.length_eq;have h2:=hp.length_eq;simp only [List.length_append,List.length_map,List.length_cons] at h1 h2;omega
   have HPP:=zH hp;obtain ⟨fn,tmps,assign,body,hy,hR⟩:=HY.out ss (xa,xb) (w2.alloc (.cells #[.string (str xa), .int .i64 (xb:Int)] 49)) (HJ.out ss w2 _ none hJ2 ⟨rfl,rfl,rfl,by simp,fun k hk _=>Below.heap_alloc _ _ k hk⟩ (fun r e=>by cases e)) hlen;have HI2:=zH (hI2.keep (zA w2 (.cells #[.string (str xa), .int .i64 (xb:Int)] 49)));clear hp hI2 ho2 hJ2 hlen
   gi_wp2
   refine hR.mono ?_;rintro e W3 ⟨rfl,hJ3,hk3⟩
   gi_wp2
   have hI3:=HI2.out.walks hk3;go_roundw
   case rel=>
    refine ⟨lf',ss++[(xa,xb)],hI3,?_,hJ3⟩;have h1:=HPP.out.map Prod.fst;have h2:(ss++lf.map Prod.fst).Perm ((ss++[(xa,xb)])++lf'.map Prod.fst):=by
     rw [List.append_assoc];exact List.Perm.append_left ss (by simpa using h1)
    exact h2.symm.trans HP.out
   case measure=>
    rw [hI3.left_eq,HI.out.left_eq];have:=HPP.out.length_eq;simp at this;omega
theorem keysP (mb:Option Nat) (w:World):Calls Tryz.prog 35 #[.map mb] w fun e w'=>e = .returned (.func (.func 69) #[] #[.pointer (some ⟨w.heap.size,0,none⟩)])∧w'=w.alloc (.cells #[.map mb] 86):=by
 go_enter Tryz.func35,Tryz.ntmps35;go_wp2;go_ret;exact ⟨rfl,rfl⟩
def apAP : Code:=Code.region 2 #[{dst:=some 5,op:=Op.alloc 49,type:=0,pos := "iter.go:51",after:=#[],guard:=none},{dst:=none,op:=Op.store 49 (Operand.tmp 5) (Operand.tmp 7),type:=0,pos := "iter.go:51",after:=#[{on:=0,ground:=Ground.data},{on:=0,ground:=Ground.phase}],guard:=none}] false
def apBP : Code:=Code.block 1 (Code.region 3 #[{dst:=some 8,op:=Op.load 46 (Operand.tmp 2),type:=46,pos := "iter.go:52",after:=#[],guard:=none},{dst:=some 9,op:=Op.load 49 (Operand.tmp 5),type:=49,pos := "iter.go:52",after:=#[],guard:=none},{dst:=some 10,op:=Op.buildSlice 46 1 #[(0,Operand.tmp 9)],type:=46,pos := "iter.go:52",after:=#[{on:=1,ground:=Ground.data}],guard:=none},{dst:=some 11,op:=Op.call {callee:=Callee.builtin Builtin.append,args:=#[Operand.tmp 8,Operand.tmp 10],argTypes:=#[46,46]},type:=46,pos := "iter.go:52",after:=#[{on:=0,ground:=Ground.data},{on:=2,ground:=Ground.data}],guard:=none},{dst:=none,op:=Op.store 46 (Operand.tmp 2) (Operand.tmp 11),type:=0,pos := "iter.go:52",after:=#[{on:=3,ground:=Ground.data},{on:=3,ground:=Ground.chain},{on:=0,ground:=Ground.phase},{on:=1,ground:=Ground.phase},{on:=2,ground:=Ground.phase},{on:=3,ground:=Ground.phase}],guard:=none}] false)
def apRP (fn:FuncId) (sv:Value) (Bs D:Nat) (st:LoopState):Loop:=
 {state:=st,pending:=none,fn,tmps:=#[.slice none 0 0,sv, .pointer (some ⟨Bs,0,none⟩),undef, .slice none 0 0,undef,sv,undef,undef,undef,undef,undef,undef],params:=#[7],assign:=apAP,body:=apBP,defers:=D}
structure ApAtP (w0:World) (fn:FuncId) (sv:Value) (Bs l D:Nat) (ss:List (List UInt8×Nat)) (W:World):Prop where
 box:∃ v,W.heap[Bs]? = some (.cells #[v] 46 (0,0))∧W.ownsRow w0.heap.size 49 2 v ss.length (ss.flatMap celP)
 L:W.heap[l]? = some (.loop (apRP fn sv Bs D .ready))
 K:W.heap[D]? = some (.deferred (some []))
 below:Keeps w0 W
theorem zg6 (w0:World) (fn:FuncId) (sv:Value) (Bs l D B:Nat) (hB:w0.heap.size≤B):AbidesFrom B (ApAtP w0 fn sv Bs l D):=fun s W W' row h hg hrow=>by
 have hrow':∀ r,row=some r→∃ o:Obj,W.heap[r]? = some o∧o.isWalk=true:=fun r e=>(hrow r e).2
 obtain ⟨v,hv,hr⟩:=h.box;exact ⟨⟨v,(grownBy_keeps hg hrow' hv rfl).trans hv,zd1 hr hg hrow'⟩,(grownBy_keeps hg hrow' h.L rfl).trans h.L,(grownBy_keeps hg hrow' h.K rfl).trans h.K,h.below.grown hg h.below.size (fun k e=>Nat.le_trans hB (hrow k e).1)⟩
theorem zqs (w0:World) (fn:FuncId) (sv:Value) (Bs l D:Nat) (hBl:Bs≠l) (hDl:D≠l) (hDB:D≠Bs) (h0B:w0.heap.size≤Bs) (h0l:w0.heap.size≤l)
 (N:Nat) (hN:N≤1000000000) (ss:List (List UInt8×Nat)) (x:List UInt8×Nat) (W:World) (h:ApAtP w0 fn sv Bs l D ss W) (hlen:ss.length<N) :
 YieldAt Fence.wide 0 Tryz.prog l #[(.agg #[.string (str x.1), .int .i64 (x.2:Int)])] W fun e W'=>e = .returned (.bool true)∧ApAtP w0 fn sv Bs l D (ss++[x]) W'∧KeepsWalks W W':=by
 obtain ⟨i0,hi,hz0,hz1,hz2⟩:=info_parts infoP;have hlW:l<W.heap.size:=(zJ9.1 h.L).1;obtain ⟨Wa,hWa⟩:∃ Wa,W.alloc (.cells #[.string (str x.1), .int .i64 (x.2:Int)] 49)=Wa:=⟨_,rfl⟩
 have hA:ApAtP w0 fn sv Bs l D ss Wa:=by rw [←hWa];exact zg6 w0 fn sv Bs l D w0.heap.size (Nat.le_refl _) ss W _ none h ⟨rfl,rfl,rfl,by simp,fun k hk _=>Below.heap_alloc _ _ k hk⟩ (fun r e=>by cases e)
 have hkw:KeepsWalks W Wa:=by rw [←hWa];exact KeepsWalks.alloc _ _
 have qb:Box Wa W.heap.size 49 #[.string (str x.1), .int .i64 (x.2:Int)]:=by rw [←hWa];exact Box.new _ _ _
 obtain ⟨v,hv,hrow⟩:=hA.box;have hne:46≠49:=by decide
 refine ⟨fn,#[.slice none 0 0,sv, .pointer (some ⟨Bs,0,none⟩),undef, .slice none 0 0,undef,sv,(.agg #[.string (str x.1), .int .i64 (x.2:Int)]),undef,undef,undef,undef,undef],apAP,apBP,by simpa [apRP] using run_yield (P:=Tryz.prog) (args:=#[(.agg #[.string (str x.1), .int .i64 (x.2:Int)])]) h.L rfl,roundIn_of_wpIn trivial ?_⟩;have hl:l<Wa.heap.size:=(zJ9.1 hA.L).1;have hbr:=run_beginRound (P:=Tryz.prog) hA.L rfl;obtain ⟨W2,hW2⟩:∃ W2,Wa.putObj l (.loop {apRP fn sv Bs D .ready with state:=.busy})=W2:=⟨_,rfl⟩
 rw [hW2] at hbr;have hg2:Wa.grownBy W2 (some l):=by rw [←hW2];exact zaK _ _ _
 have hk2:KeepsWalks W W2:=hkw.trans (by rw [←hW2];exact KeepsWalks.putObj _ hA.L rfl);have hv2:W2.heap[Bs]? = some (.cells #[v] 46 (0,0)):=by rw [←hW2];exact (World.putObj_heap_other hBl).trans hv
 have hK2:W2.heap[D]? = some (.deferred (some [])):=by rw [←hW2];exact (World.putObj_heap_other hDl).trans hA.K
 have hL2:W2.heap[l]? = some (.loop (apRP fn sv Bs D .busy)):=by rw [←hW2];exact World.putObj_heap_same hl
 have hrow2:W2.ownsRow w0.heap.size 49 2 v ss.length (ss.flatMap celP):=hrow.kept hg2 (zaD hrow hA.L (fun cur e=>by cases e));have hb2:Keeps w0 W2:=hA.below.grown hg2 hA.below.size (fun k e=>by cases e;exact h0l);obtain ⟨hc2,hf2⟩:=zcD hv2;have hBlt:Bs<W2.heap.size:=(zJ9.1 hv2).1;have hl2:l<W2.heap.size:=(zJ9.1 hL2).1;have hDlt:D<W2.heap.size:=(zJ9.1 hK2).1;have no1:∀ cur:Array Value,Obj.cells #[v] 46 (0,0)≠.cells cur 49 (0,0):=fun cur e=>hne (Obj.cells.inj e).2.1
 have ne_of:∀ {j:Nat} {o:Obj},W2.heap[j]? = some o→(∀ cur,o≠.cells cur 49 (0,0))→some j≠v.ownBlock:=fun hj hno=>by
  rcases zaD hrow2 hj hno with e|e
  ·rw [e];simp
  ·exact fun e'=>e e'.symm
 have HB2:=zH hb2;have HR2:=zH hrow2;have HK2:=zH hk2;have qb2:Box W2 W.heap.size 49 #[.string (str x.1), .int .i64 (x.2:Int)]:=(hg2.block _ qb.lt (fun e=>by cases e;omega)).trans qb;have q0:W2.cell? ⟨W.heap.size,0,none⟩=some (.string (str x.1)):=qb2.cell 0 rfl;have q1:W2.cell? ⟨W.heap.size,1,none⟩=some (.int .i64 (x.2:Int)):=qb2.cell 1 rfl;clear qb qb2;clear hW2 hb2 hrow2 hk2 hg2 hrow hv hA hkw h;unfold apAP
 gi_wp2_with (rw [Oper.semAt_eq _ _ _ (fun c h=>by cases h)];go_simp;try go_bits)
 refine ⟨W2,hbr,?_⟩;unfold apBP
 gi_wp2_with (first
  | (gi_at_builtin; refine wpListIn_append_own _ rfl _ _ 46 rfl w0.heap.size 49 i0 (.agg #[.string ⟨#[]⟩, .int .i64 0]) 2 24 Tryz.underlying46 hi hz0 hz1 hz2 rfl (by decide) _ _ _ rfl (HR2.out.alloc _) ⟨W2.heap.size,0,none⟩ 1 1 (celP x) rfl rfl (by intro j u hu; have:=(Box.new W2 49 #[.string (str x.1), .int .i64 (x.2:Int)]).cell j (v:=u) (by simpa [celP] using hu); simpa [Addr.add_lit] using this) (by intro u hu; simp only [celP,List.mem_cons,List.not_mem_nil,or_false] at hu; rcases hu with rfl|rfl<;>rfl) (by unfold maxLen; omega) (by omega) (by have:=HB2.out.size; simp; omega) ?_; intro v' w3 hown' hg3 hnil3
     have hv3:w3.heap[Bs]? = some (.cells #[v] 46 (0,0)):=(hg3.block Bs (by simp;omega) (ne_of hv2 no1)).trans ((Below.heap_alloc _ _ Bs hBlt).trans hv2);obtain ⟨hc3,hf3⟩:=zcD hv3;obtain ⟨g',cap',cur',rfl,hbase',hgb',hr1,hr2,hr3,hr4⟩:∃ g' cap' cur',v' = .slice (some ⟨g',0,none⟩) (ss.length+1) cap'∧w0.heap.size≤g'∧w3.heap[g']? = some (.cells cur' 49 (0,0))∧ss.length+1≤cap'∧cap'≤maxLen∧cur'.size=cap'*2∧cur'.toList.take ((ss.length+1)*2)=ss.flatMap celP++celP x:=by
      rcases hown'.2 with ⟨_,h0⟩|h'
      ·exact absurd h0 (by omega)
      ·exact h'
     go_frame)
  | (rw [Oper.semAt_eq _ _ _ (fun c h=>by cases h)];go_simp;try go_bits))
 have hL3:w3.heap[l]? = some (.loop (apRP fn sv Bs D .busy)):=(hg3.block l (by simp;omega) (ne_of hL2 (fun cur e=>by cases e))).trans ((Below.heap_alloc _ _ l hl2).trans hL2);have hK3:w3.heap[D]? = some (.deferred (some [])):=(hg3.block D (by simp;omega) (ne_of hK2 (fun cur e=>by cases e))).trans ((Below.heap_alloc _ _ D hDlt).trans hK2);obtain ⟨w4,hw4⟩:∃ w4,w3.setCell ⟨Bs,0,none⟩ (.slice (some ⟨g',0,none⟩) (ss.length+1) cap')=w4:=⟨_,rfl⟩
 rw [hw4];have hg4:w3.grownBy w4 (some Bs):=by rw [←hw4];exact zeG _ _ _
 have hv4:w4.heap[Bs]? = some (.cells #[.slice (some ⟨g',0,none⟩) (ss.length+1) cap'] 46 (0,0)):=by rw [←hw4];exact zfE _ hv3
 have hL4:w4.heap[l]? = some (.loop (apRP fn sv Bs D .busy)):=(hg4.block l (zJ9.1 hL3).1 (fun e=>hBl (by cases e;rfl))).trans hL3;have hK4:w4.heap[D]? = some (.deferred (some [])):=(hg4.block D (zJ9.1 hK3).1 (fun e=>hDB (by cases e;rfl))).trans hK3;have hrow4:=hown'.kept hg4 (zaD hown' hv3 no1);have hl4:l<w4.heap.size:=(zJ9.1 hL4).1;have hb3:Keeps w0 w3:=Below.grown (Below.alloc HB2.out HB2.out.size _) hg3 (by have:=HB2.out.size;simp;omega) (fun k e=>(HR2.out.lt k e).1);have hb4:Keeps w0 w4:=hb3.grown hg4 hb3.size (fun k e=>by cases e;exact h0B);have hk4:KeepsWalks W w4:=((HK2.out.trans (KeepsWalks.alloc _ _)).trans (KeepsWalks.of_grownBy hg3 (zdD (HR2.out.alloc _)))).trans (by rw [←hw4];exact KeepsWalks.setCell _ _ _);clear hw4;refine ⟨_,_,run_endRound none hL4,rfl,⟨⟨_,(World.putObj_heap_other hBl).trans hv4,?_⟩,World.putObj_heap_same hl4,(World.putObj_heap_other hDl).trans hK4,hb4.grown (zaK _ _ _) hb4.size (fun k e=>by cases e;exact h0l)⟩,hk4.trans (KeepsWalks.putObj _ hL4 rfl)⟩;have:=hrow4.kept (zaK w4 l (.loop {apRP fn sv Bs D .busy with state:=if (none:Option Code).isNone then .ready else .done,pending:=none})) (zaD hrow4 hL4 (fun cur e=>by cases e));simpa using this
theorem zmv (Bm b:Nat) (es:List ((List UInt8×Nat)×Unit)) (w:World) (hm:w.cell? ⟨Bm,0,none⟩=some (.map (some b))) (hown:MapW plV unV w b es) (hN:es.length≤1000000000) :
 Calls Tryz.prog 101 #[.slice none 0 0, .func (.func 69) #[] #[.pointer (some ⟨Bm,0,none⟩)]] w fun e w'=>∃ (v:Value) (ss:List (List UInt8×Nat)),e = .returned v∧ss.Perm (es.map Prod.fst)∧w'.ownsRow w.heap.size 49 2 v ss.length (ss.flatMap celP)∧Keeps w w':=by
 have hBm:Bm<w.heap.size:=block_lt_of_cell hm;have eg:∀ args w,(callFunc 69 args).run Tryz.prog w = .ok (.enter 69 args) w:=enters_of Tryz.func69 (by kernel_rfl) rfl;refine (callsIn_wide (n:=2)).1 ?_;refine callsIn_of_wp_marks Tryz.func101 rfl trivial ?_ rfl;simp only [Tryz.ntmps101,List.size_toArray,List.length_cons,List.length_nil,Nat.reduceAdd,Nat.reduceSub,Array.replicate_succ,Array.replicate_zero,List.push_toArray,List.append_toArray,List.nil_append,List.cons_append]
 gi_wp2
 refine wpIn_rangeFunc ?_;intro fn hfn;rw [zgy];obtain ⟨W0,hW0⟩:∃ W0,w.alloc (.cells #[.slice none 0 0] 46)=W0:=⟨_,rfl⟩
 have hs0:W0.heap.size=w.heap.size+1:=by rw [←hW0];simp
 have hv0:W0.heap[w.heap.size]? = some (.cells #[.slice none 0 0] 46 (0,0)):=by rw [←hW0];exact World.alloc_heap_new w _
 have hb0:Keeps w W0:=by rw [←hW0];exact zA _ _
 rw [hW0];obtain ⟨sv,hsv⟩:∃ sv,Value.func (.func 69) #[] #[.pointer (some ⟨Bm,0,none⟩)]=sv:=⟨_,rfl⟩
 obtain ⟨W1,hW1⟩:∃ W1,(W0.alloc (.deferred (some []))).alloc (.loop (apRP fn (.func (.func 69) #[] #[.pointer (some ⟨Bm,0,none⟩)]) w.heap.size W0.heap.size .ready))=W1:=⟨_,rfl⟩
 have hold:∀ k,k<W0.heap.size→W1.heap[k]? = W0.heap[k]?:=fun k hk=>by
  rw [←hW1];exact (Below.heap_alloc _ _ k (by simp;omega)).trans (Below.heap_alloc _ _ k hk)
 have hb1:Keeps w W1:=by rw [←hW1];exact zK (zK hb0 (zA _ _)) (zA _ _)
 have hs1:W1.heap.size=W0.heap.size+2:=by rw [←hW1];simp
 have hM:ApAtP w fn (.func (.func 69) #[] #[.pointer (some ⟨Bm,0,none⟩)]) w.heap.size (W0.heap.size+1) W0.heap.size [] W1:=
  ⟨⟨_,(hold w.heap.size (by omega)).trans hv0,⟨rfl, .inl ⟨rfl,rfl⟩⟩⟩,
   by rw [←hW1];have:=World.alloc_heap_new (W0.alloc (.deferred (some []))) (.loop (apRP fn (.func (.func 69) #[] #[.pointer (some ⟨Bm,0,none⟩)]) w.heap.size W0.heap.size .ready));rwa [World.size_alloc] at this,
   by rw [←hW1];exact (Below.heap_alloc _ _ _ (by simp)).trans (World.alloc_heap_new W0 _),hb1⟩
 refine ⟨W0.heap.size+1,[{target:=.collected W0.heap.size,args:=#[]}],W1,{target:=.fn (.func 69) #[.pointer (some ⟨Bm,0,none⟩)],args:=#[.func (.yield (W0.heap.size+1)) #[] #[]]},W1,69,
  #[.func (.yield (W0.heap.size+1)) #[] #[]] ++ #[.pointer (some ⟨Bm,0,none⟩)],W1,?_,?_,fun _ _=>trivial,?_,fun e=>(by cases e),?_⟩
 ·rw [←hW1];exact run_enterLoop_outer _ _ _ _ _
 ·simp [resolve,go_sem]
 ·simp [invoke,go_sem,eg]
 ·refine callsIn_wide.2 ((zsz (W0.heap.size+1) Bm b es (ApAtP w fn (.func (.func 69) #[] #[.pointer (some ⟨Bm,0,none⟩)]) w.heap.size (W0.heap.size+1) W0.heap.size) W1
   (fun pre x W hJ hl=>zqs w fn _ w.heap.size (W0.heap.size+1) W0.heap.size (by omega) (by omega) (by omega) (Nat.le_refl _) (by omega) es.length hN pre x W hJ hl) (zg6 _ _ _ _ _ _ _ hb1.size) (hb1.cellOf hm) (hown.keep hb1) hM).mono ?_)
  rintro e W2 ⟨⟨v0,rfl⟩,ss,hS,h2⟩;obtain ⟨v,hv,hrow⟩:=h2.box;have hend:=run_endLoop (P:=Tryz.prog) h2.L (by simp [apRP]);obtain ⟨W3,hW3⟩:∃ W3,W2.putObj (W0.heap.size+1) (.loop {apRP fn (.func (.func 69) #[] #[.pointer (some ⟨Bm,0,none⟩)]) w.heap.size W0.heap.size .ready with state:=.exhausted})=W3:=⟨_,rfl⟩
  rw [hW3] at hend;have hg3:W2.grownBy W3 (some (W0.heap.size+1)):=by rw [←hW3];exact zaK _ _ _
  have hv3:W3.heap[w.heap.size]? = some (.cells #[v] 46 (0,0)):=by rw [←hW3];exact (World.putObj_heap_other (by omega)).trans hv
  have hK3:W3.heap[W0.heap.size]? = some (.deferred (some [])):=by rw [←hW3];exact (World.putObj_heap_other (by omega)).trans h2.K
  have hrow3:=hrow.kept hg3 (zaD hrow h2.L (fun cur e=>by cases e));have hb3:Keeps w W3:=h2.below.grown hg3 h2.below.size (fun k e=>by cases e;omega);obtain ⟨hc3,hf3⟩:=zcD hv3;clear hW3;refine ⟨none,W3,hend,?_⟩
  gi_wp2
  rw [←hs0];refine ⟨by simp, .inl ⟨_,_,rfl,run_takeDeferred hK3,?_⟩⟩;exact ⟨_,results_tmp rfl _ _ _,v,ss,rfl,hS,hrow3.kept (zaK _ _ _) (zaD hrow3 hK3 (fun cur e=>by cases e)),hb3.grown (zaK _ _ _) hb3.size (fun k e=>by cases e;omega)⟩
theorem zqt (Bm b:Nat) (es:List ((List UInt8×Nat)×Unit)) (w:World) (hm:w.cell? ⟨Bm,0,none⟩=some (.map (some b))) (hown:MapW plV unV w b es) (hN:es.length≤1000000000) :
 Calls Tryz.prog 67 #[.func (.func 69) #[] #[.pointer (some ⟨Bm,0,none⟩)]] w fun e w'=>∃ (v:Value) (ss:List (List UInt8×Nat)),e = .returned v∧ss.Perm (es.map Prod.fst)∧w'.ownsRow w.heap.size 49 2 v ss.length (ss.flatMap celP)∧Keeps w w':=by
 have AP:=zH (zmv Bm b es w hm hown hN);clear hm hown;go_enter Tryz.func67,Tryz.ntmps67;go_wp2_with (go_at_call 101;refine AP.out.mono ?_;rintro e w' ⟨v,ss,rfl,hS,hrow,hb⟩)
 go_ret;exact ⟨v,ss,rfl,hS,hrow,hb⟩
end Go.Proofs.YtjpldnjldindkaaGreatDoor
namespace Go.Proofs.YtjpldnjldindkaaGreatDoor
open Go.RowKit Go.Sort
theorem zfz (a b:List UInt8) (w:World):Calls Tryz.prog 104 #[.string (str a), .string (str b)] w fun e w'=>e = .returned (.int .i64 (Lib.compareBytes a b))∧w=w':=by
 have h:=Lib.run_compareString (P:=Tryz.prog) (str a) (str b) w;rw [zdh,zdh] at h;go_enter Tryz.func104,Tryz.ntmps104;go_wp2
 rw [run_callFunc_extern Tryz.func142 (by kernel_rfl) (by kernel_rfl) (by kernel_rfl) (e:=Extern.BytealgCompare.compare) (by kernel_rfl),h];simp only [Result.andThen];rw [Oper.upon_value];go_wp2
 go_ret;exact ⟨rfl,rfl⟩
theorem zhB (a b:List UInt8) (w:World):Calls Tryz.prog 71 #[.string (str a), .string (str b)] w fun e w'=>e = .returned (.int .i64 (Lib.compareBytes a b))∧w=w':=by
 have C:=zH (zfz a b w);go_enter Tryz.func71,Tryz.ntmps71;go_wp2_with (go_at_call 104;refine C.out.mono ?_;rintro e w' ⟨rfl,rfl⟩)
 go_ret;exact ⟨rfl,rfl⟩
def numC (a b:Nat):Int:=if a<b then -1 else if b<a then 1 else 0
theorem zmw (x:Nat) (w:World):Calls Tryz.prog 105 #[.int .i64 x] w fun e w'=>e = .returned (.bool false)∧w=w':=by
 go_enter Tryz.func105,Tryz.ntmps105;go_wp2;go_ret;exact ⟨by simp,rfl⟩
theorem zj0 (a b:Nat) (w:World):Calls Tryz.prog 72 #[.int .i64 a, .int .i64 b] w fun e w'=>e = .returned (.int .i64 (numC a b))∧w=w':=by
 have N:=zH zmw;by_cases h1:a<b
 ·have e:numC a b = -1:=by unfold numC;rw [if_pos h1]
  rw [e];have h1':(a:Int)<(b:Int):=(by omega);clear e h1;go_enter Tryz.func72,Tryz.ntmps72;go_wp2_with (go_at_call 105;refine (N.out _ _).mono ?_;rintro e w' ⟨rfl,rfl⟩)
  go_ret;exact ⟨rfl,rfl⟩
 ·by_cases h2:b<a
  ·have e:numC a b=1:=by unfold numC;rw [if_neg h1,if_pos h2]
   rw [e];have h1':¬ (a:Int)<(b:Int):=(by omega);have h2':(b:Int)<(a:Int):=by omega
   clear e h1 h2;go_enter Tryz.func72,Tryz.ntmps72;go_wp2_with (go_at_call 105;refine (N.out _ _).mono ?_;rintro e w' ⟨rfl,rfl⟩)
   go_ret;exact ⟨rfl,rfl⟩
  ·have e:numC a b=0:=by unfold numC;rw [if_neg h1,if_neg h2]
   rw [e];have h1':¬ (a:Int)<(b:Int):=(by omega);have h2':¬ (b:Int)<(a:Int):=by omega
   clear e h1 h2;go_enter Tryz.func72,Tryz.ntmps72;go_wp2_with (go_at_call 105;refine (N.out _ _).mono ?_;rintro e w' ⟨rfl,rfl⟩)
   go_ret;exact ⟨rfl,rfl⟩
def zcv (x y:Int):Int:=if x=0 then y else x
theorem zor (x y:Int) (b:Nat) (w:World) (h0:w.cell? ⟨b,0,none⟩=some (.int .i64 x)) (h1:w.cell? ⟨b,1,none⟩=some (.int .i64 y)):Calls Tryz.prog 70 #[.slice (some ⟨b,0,none⟩) 2 2] w fun e w'=>e = .returned (.int .i64 (zcv x y))∧w=w':=by
 by_cases hx:x=0
 ·by_cases hy:y=0
  ·have e:zcv x y=0:=by unfold zcv;rw [if_pos hx,hy]
   rw [e];subst hx;subst hy;clear e;go_enter Tryz.func70,Tryz.ntmps70;go_wp2_with fail
   refine wp_loop_rounds 3 ?_;rw [rounds_succ];go_wp2
   rw [rounds_succ];go_wp2
   rw [rounds_succ];go_wp2
   go_ret;exact ⟨rfl,rfl⟩
  ·have e:zcv x y=y:=by unfold zcv;rw [if_pos hx]
   rw [e];subst hx;have hy':(y == 0)=false:=by rw [beq_eq_false_iff_ne];exact hy
   clear e;go_enter Tryz.func70,Tryz.ntmps70;go_wp2_with fail
   refine wp_loop_rounds 2 ?_;rw [rounds_succ];go_wp2
   rw [rounds_succ];go_wp2
   go_ret;exact ⟨rfl,rfl⟩
 ·have e:zcv x y=x:=by unfold zcv;rw [if_neg hx]
  rw [e];have hx':(x == 0)=false:=by rw [beq_eq_false_iff_ne];exact hx
  clear e;go_enter Tryz.func70,Tryz.ntmps70;go_wp2_with fail
  refine wp_loop_rounds 1 ?_;rw [rounds_succ];go_wp2
  go_ret;exact ⟨rfl,rfl⟩
def plE (a b:List UInt8×Nat):Int:=zcv (Lib.compareBytes a.1 b.1) (numC a.2 b.2)
theorem zkI (a b:List UInt8×Nat) (w:World):Calls Tryz.prog 36 #[.agg #[.string (str a.1), .int .i64 (a.2:Int)], .agg #[.string (str b.1), .int .i64 (b.2:Int)]] w fun e w'=>e = .returned (.int .i64 (plE a b))∧∃ q os',w'=grow (w.drewN q) os':=by
 have E1:=Box.new w 49 #[.string (str a.1), .int .i64 (a.2:Int)];have E2:=Box.new (w.alloc (.cells #[.string (str a.1), .int .i64 (a.2:Int)] 49)) 49 #[.string (str b.1), .int .i64 (b.2:Int)];have E3:=E1.keep (zA _ (.cells #[.string (str b.1), .int .i64 (b.2:Int)] 49));simp only [World.size_alloc] at E2;go_enter Tryz.func36,Tryz.ntmps36;go_wp2_with fail
 have hW:(w.alloc (.cells #[.string (str a.1), .int .i64 (a.2:Int)] 49)).alloc (.cells #[.string (str b.1), .int .i64 (b.2:Int)] 49)=grow w #[(.cells #[.string (str a.1), .int .i64 (a.2:Int)] 49),(.cells #[.string (str b.1), .int .i64 (b.2:Int)] 49)]:=by rw [alloc_eq_grow,alloc_eq_grow,grow_grow];rfl
 generalize (w.alloc (.cells #[.string (str a.1), .int .i64 (a.2:Int)] 49)).alloc (.cells #[.string (str b.1), .int .i64 (b.2:Int)] 49)=W at *;have a0:=E3.cell 0 rfl;have a1:=E3.cell 1 rfl;have b0:=E2.cell 0 rfl;have b1:=E2.cell 1 rfl;have SS:=zH (fun (V:World) (k:Keeps W V)=>show (V.cell? ⟨w.heap.size,0,none⟩=some (.string (str a.1))∧V.cell? ⟨w.heap.size,1,none⟩=some (.int .i64 (a.2:Int)))∧(V.cell? ⟨w.heap.size+1,0,none⟩=some (.string (str b.1))∧V.cell? ⟨w.heap.size+1,1,none⟩=some (.int .i64 (b.2:Int))) from ⟨⟨k.cellOf a0,k.cellOf a1⟩,k.cellOf b0,k.cellOf b1⟩);have CC:=zH zj0;have CS:=zH zhB;have OO:=zH zor;have HW:=zH hW;clear E1 E2 E3 hW a0 a1 b0 b1;go_region_held3 (fun V=>(V.cell? ⟨w.heap.size,0,none⟩=some (.string (str a.1))∧V.cell? ⟨w.heap.size,1,none⟩=some (.int .i64 (a.2:Int)))∧(V.cell? ⟨w.heap.size+1,0,none⟩=some (.string (str b.1))∧V.cell? ⟨w.heap.size+1,1,none⟩=some (.int .i64 (b.2:Int)))) (exact SS.out _ (by first|assumption|exact zD _|exact zK (zD _) (zA _ _))) (first
  | (go_at_call 71;refine (CS.out _ _ _).mono ?_;rintro ee w1 ⟨rfl,rfl⟩)
  | (go_at_call 72;refine (CC.out _ _ _).mono ?_;rintro ee w1 ⟨rfl,rfl⟩)
  | (go_at_call 70;refine (OO.out _ _ _ _ ((Box.new W.drew 3 _).cell 0 rfl) ((Box.new W.drew 3 _).cell 1 rfl)).mono ?_;rintro ee w1 ⟨rfl,rfl⟩))
 go_wp2;go_ret;exact ⟨rfl,1,_,by rw [HW.out,alloc_eq_grow,grow_grow];rfl⟩
theorem ziy:∀ a b:List UInt8,(Lib.compareBytes a b<0↔a<b)∧(Lib.compareBytes a b=0↔a=b)
 | [],[]=>by simp [Lib.compareBytes]
 | [],b::ys=>by simp [Lib.compareBytes]
 | a::xs,[]=>by simp [Lib.compareBytes]
 | a::xs,b::ys=>by
  have ih:=ziy xs ys;unfold Lib.compareBytes;rw [List.cons_lt_cons_iff];by_cases h1:a<b
  ·have hne:a≠b:=fun e=>by rw [e] at h1;exact UInt8.lt_irrefl b h1
   simp [h1,hne]
  ·by_cases h2:b<a
   ·have hne:a≠b:=fun e=>by rw [e] at h2;exact UInt8.lt_irrefl b h2
    simp [h1,h2,hne]
   ·have he:a=b:=UInt8.le_antisymm (UInt8.not_lt.1 h2) (UInt8.not_lt.1 h1);subst he;simp only [h1,if_false,false_or,true_and,List.cons.injEq];exact ih
def plLt (a b:List UInt8×Nat):Bool:=decide (a.1<b.1∨(a.1=b.1∧a.2<b.2))
theorem zsA (a b:List UInt8×Nat):decide (plE a b<0)=plLt a b:=by
 obtain ⟨h1,h2⟩:=ziy a.1 b.1;unfold plLt plE zcv numC;by_cases e:a.1=b.1
 ·have e0:=h2.2 e;have hn:¬ a.1<b.1:=by rw [e];exact zjl b.1
  rw [if_pos e0];simp only [e,true_and];rw [Bool.eq_iff_iff,decide_eq_true_iff,decide_eq_true_iff];have:=zjl b.1;split
  ·simp [*]
  ·split<;>simp [*]
 ·have e0:¬ Lib.compareBytes a.1 b.1=0:=(fun q=>e (h2.1 q));rw [if_neg e0];simp only [e,false_and,or_false];rw [Bool.eq_iff_iff,decide_eq_true_iff,decide_eq_true_iff];exact h1
theorem zga (a:List UInt8×Nat):plLt a a=false:=by
 unfold plLt;have:=zjl a.1;simp [this]
theorem zrI (a b:List UInt8):a<b∨a=b∨b<a:=by
 by_cases h1:a<b
 ·exact .inl h1
 ·by_cases h2:b<a
  ·exact .inr (.inr h2)
  ·exact .inr (.inl (List.le_antisymm (List.not_lt.1 h2) (List.not_lt.1 h1)))
theorem zeC {a b c:List UInt8×Nat} (h1:plLt a b=true) (h2:plLt b c=true):plLt a c=true:=by
 unfold plLt at *;rw [decide_eq_true_iff] at *;rcases h1 with h1|⟨e1,h1⟩<;>rcases h2 with h2|⟨e2,h2⟩
 ·exact .inl (List.lt_trans h1 h2)
 ·rw [e2] at h1;exact .inl h1
 ·rw [←e1] at h2;exact .inl h2
 ·exact .inr ⟨e1.trans e2,by omega⟩
theorem zj1 (a b:List UInt8×Nat):plLt a b=true∨a=b∨plLt b a=true:=by
 unfold plLt;rw [decide_eq_true_iff,decide_eq_true_iff];rcases zrI a.1 b.1 with h|h|h
 ·exact .inl (.inl h)
 ·rcases Nat.lt_trichotomy a.2 b.2 with h3|h3|h3
  ·exact .inl (.inr ⟨h,h3⟩)
  ·exact .inr (.inl (Prod.ext h h3))
  ·exact .inr (.inr (.inr ⟨h.symm,h3⟩))
 ·exact .inr (.inr (.inl h))
end Go.Proofs.YtjpldnjldindkaaGreatDoor
namespace Go.Proofs.YtjpldnjldindkaaGreatDoor
open Go.RowKit Go.Sort Go.Shelf
theorem zg7 (a b:List UInt8×Nat):ltOf plE a b=plLt a b:=by
 unfold ltOf;exact zsA a b
theorem swoP:SWO (ltOf plE) where
 irrefl x:=by rw [zg7];exact zga x
 trans x y z h1 h2:=by rw [zg7] at *;exact zeC h1 h2
 ntrans x y z h1 h2:=by
  rw [zg7] at *;cases h3:plLt x z with
  | false=>rfl
  | true=>
   rcases zj1 x y with h|h|h
   ·rw [h] at h1;cases h1
   ·subst h;rw [h3] at h2;cases h2
   ·rw [zeC h h3] at h2;cases h2
theorem zbH (p:List UInt8×Nat):(celP p).length=2:=rfl
theorem zcP (l:List (List UInt8×Nat)):(l.flatMap celP).length=l.length*2:=by
 induction l with
 | nil=>rfl
 | cons a l ih=>rw [List.flatMap_cons,List.length_append,ih,zbH,List.length_cons];omega
instance:Inhabited (List UInt8×Nat):=⟨([],0)⟩
theorem zeK (l:List (List UInt8×Nat)):(flatK celP 2 l.toArray).toList=l.flatMap celP:=by
 apply List.ext_getElem
 ·rw [Array.length_toList,size_flatK,zcP];simp
 ·intro t h1 h2;have h3:t<l.length*2:=by rw [zcP] at h2;exact h2
  have hq:t/2<l.length:=(by omega);have hm:t%2<2:=Nat.mod_lt _ (by decide);have e1:=get_flatK celP 2 l.toArray t (by simpa using h3);have e2:(flatK celP 2 l.toArray)[t]! = (flatK celP 2 l.toArray)[t]'(by simpa using h1):=getElem!_pos _ t (by simpa using h1);have e3:l.toArray[t/2]! = l[t/2]:=by rw [getElem!_pos l.toArray (t/2) (by simpa using hq)];simp
  have e4:(l.flatMap celP)[t/2*2+t%2]? = (celP l[t/2])[t%2]?:=by
   rw [zaZ celP 2 zbH l hm,zG9 hq];rfl
  have e5:t/2*2+t%2=t:=(by omega);rw [e5,zG9 h2,zG9 (by rw [zbH];exact hm)] at e4;have e6:(celP l[t/2])[t%2]! = (celP l[t/2])[t%2]'(by rw [zbH];exact hm):=getElem!_pos _ _ (by rw [zbH];exact hm);rw [Array.getElem_toList,←e2,e1,e3,e6];exact (Option.some.inj e4).symm
theorem zqu (blk off size:Nat) (w:World):CmpLays Tryz.prog 36 #[] celP 2 plE blk off size w:=
 fun _ _ _ _ x y=>zkI x y _
theorem zrJ:∀ w,(isAgg 49).run Tryz.prog w = .ok true w:=Tryz.isAgg49
theorem zsB:∀ w,(Go.sizeOf 49).run Tryz.prog w = .ok 2 w:=Tryz.sizeOf49
theorem zqv (p:List UInt8×Nat):∀ v∈celP p,v.oneCell'=true:=by
 intro v hv;simp only [celP,List.mem_cons,List.not_mem_nil,or_false] at hv;rcases hv with rfl|rfl<;>rfl
theorem Own.holdsP {w:World} {base g cap:Nat} {e:TypeId} {l:List (List UInt8×Nat)} (h:Own w base e 2 (.slice (some ⟨g,0,none⟩) l.length cap) l.length (l.flatMap celP)):HoldsK celP 2 w g 0 l.toArray:=by
 rcases h.2 with ⟨h0,_⟩|⟨g',cap',cur,fz,hv,hb,hg,hz,h1,h2,h3,h4⟩
 ·cases h0
 ·injection hv with hv1 hv2 hv3;injection hv1 with hv1;injection hv1 with hv1;subst hv1;subst hv3;intro j hj;rw [size_flatK] at hj;have hj':j<l.length*2:=(by simpa using hj);refine ⟨?_,?_⟩
  ·rw [Nat.zero_add,cell_of_row w g j cur e fz hg];have e1:(cur.toList.take (l.length*2))[j]? = (l.flatMap celP)[j]?:=(by rw [h4]);rw [List.getElem?_take_of_lt hj',←zeK] at e1;rw [←Array.getElem?_toList,e1,Array.getElem?_toList];have:(flatK celP 2 l.toArray)[j]? = some ((flatK celP 2 l.toArray)[j]'(by rw [size_flatK];exact hj)):=Array.getElem?_eq_getElem _;rw [this,getElem!_pos (flatK celP 2 l.toArray) j (by rw [size_flatK];exact hj)];rfl
  ·obtain ⟨lo,hi'⟩:=fz;simp only [World.frozen?,hg,Bool.and_eq_false_iff,decide_eq_false_iff_not];rcases hz with hz|hz
   ·right;simp only at hz;omega
   ·left;simp only at hz;omega
theorem zhC (cur xs:Array Value) (h:xs.size≤cur.size):(putCells id 0 xs cur).toList.take xs.size=xs.toList:=by
 apply List.ext_getElem?;intro j;by_cases hj:j<xs.size
 ·rw [List.getElem?_take_of_lt hj,Array.getElem?_toList];simp [putCells,hj,show j<cur.size by omega]
 ·rw [List.getElem?_take_eq_none (by omega),List.getElem?_eq_none (by simp;omega)]
theorem zos {w:World} {g n:Nat} {os:Array Obj} {cur:Array Value} {e:TypeId} {fr:Nat×Nat} (d:Array (List UInt8×Nat)) (hb:w.heap[g]? = some (.cells cur e fr)) :
 (sortWorldK celP 2 w g 0 n d os).heap[g]? = some (.cells (putCells id 0 (flatK celP 2 d) cur) e fr):=by
 have hg:g<w.heap.size:=(zJ9.1 hb).1;unfold sortWorldK putRowK;rw [heap_grow_old _ _ (by simpa using hg)];simp [putRow,mapBlock,Sort.ahead,Array.getElem?_modify,hb,onCells]
theorem zot {w:World} {g n:Nat} {os:Array Obj} (d:Array (List UInt8×Nat)):Only w (sortWorldK celP 2 w g 0 n d os) (fun c=>c=g):=by
 refine ⟨rfl,rfl,rfl,by simp [sortWorldK,putRowK],fun k hk hne=>?_⟩;unfold sortWorldK putRowK;rw [heap_grow_old _ _ (by simpa using hk)];simp [putRow,mapBlock,Sort.ahead,Array.getElem?_modify,Ne.symm hne]
theorem Own.sortedP {w:World} {base g cap n:Nat} {e:TypeId} {os:Array Obj} {l l':List (List UInt8×Nat)} (h:Own w base e 2 (.slice (some ⟨g,0,none⟩) l.length cap) l.length (l.flatMap celP)) (hl:l'.length=l.length) :
 Own (sortWorldK celP 2 w g 0 n l'.toArray os) base e 2 (.slice (some ⟨g,0,none⟩) l.length cap) l.length (l'.flatMap celP):=by
 refine ⟨by rw [zcP,hl],?_⟩;rcases h.2 with ⟨h0,_⟩|⟨g',cap',cur,fz,hv,hb,hg,hz,h1,h2,h3,h4⟩
 ·cases h0
 ·injection hv with hv1 hv2 hv3;injection hv1 with hv1;injection hv1 with hv1;subst hv1;subst hv3;have hs:(flatK celP 2 l'.toArray).size=l.length*2:=by rw [size_flatK];simp [hl]
  have hle:l.length*2≤cap*2:=Nat.mul_le_mul_right 2 h1;refine .inr ⟨g,cap,_,fz,rfl,hb,zos _ hg,?_,h1,h2,by simp [putCells,h3],?_⟩
  ·rcases hz with hz|hz
   ·exact .inl hz
   ·right;simpa [putCells] using hz
  ·rw [←hs,zhC cur _ (by rw [hs,h3];exact hle),zeK]
def RiseP (l:List (List UInt8×Nat)):Prop:=l.Pairwise fun a b=>plLt a b=true
theorem zrK {l m:List (List UInt8×Nat)} (hl:RiseP l) (hm:RiseP m) (hp:l.Perm m):l=m:=
 List.Perm.eq_of_pairwise (le:=fun a b=>plLt a b=true) (fun a b _ _ h1 h2=>by have h3:=zeC h1 h2;rw [zga] at h3;cases h3) hl hm hp
theorem zfO {l:List Fl} (h:l.Pairwise fun f g=>f.name<g.name):RiseP (zaO l):=by
 unfold RiseP zaO;induction l with
 | nil=>simp
 | cons f l ih=>
  rw [List.pairwise_cons] at h;rw [List.flatMap_cons,List.pairwise_append];refine ⟨?_,ih h.2,?_⟩
  ·rw [List.pairwise_map];unfold zbY;refine List.Pairwise.filter _ ?_;exact List.pairwise_lt_range.imp fun {a b} hab=>by
    unfold plLt;exact decide_eq_true (.inr ⟨rfl,hab⟩)
  ·intro p hp q hq;obtain ⟨i,-,rfl⟩:=List.mem_map.1 hp;obtain ⟨g,hg,hq⟩:=List.mem_flatMap.1 hq;obtain ⟨j,-,rfl⟩:=List.mem_map.1 hq;unfold plLt;exact decide_eq_true (.inl (h.1 g hg))
theorem zmx {l:List Fl} (h:∀ f∈l,FlOk f) (p:List UInt8×Nat):p∈zaO l↔zbo l p:=by
 unfold zaO zbo zbY;simp only [List.mem_flatMap,List.mem_map,List.mem_filter,List.mem_range];constructor
 ·rintro ⟨f,hf,k,⟨h1,h2⟩,rfl⟩;exact ⟨f,hf,rfl,h2⟩
 ·rintro ⟨f,hf,h1,h2⟩;exact ⟨f,hf,p.2,⟨(h f hf).loose _ h2,h2⟩,Prod.ext h1 rfl⟩
theorem zmy {l:List (List UInt8×Nat)} (h:RiseP l):l.Nodup:=by
 rw [List.nodup_iff_pairwise_ne];exact h.imp fun {a b} hab e=>by rw [e,zga] at hab;cases hab
theorem zou (g cap base:Nat) (l:List (List UInt8×Nat)) (w:World) (ho:l.Nodup) (hown:Own w base 49 2 (.slice (some ⟨g,0,none⟩) l.length cap) l.length (l.flatMap celP)) (hl:l.length<4611686018427387904) :
 Calls Tryz.prog 68 #[.slice (some ⟨g,0,none⟩) l.length cap, .func (.func 36) #[] #[]] w fun e w'=>e = .returned (.tuple #[])∧∃ l':List (List UInt8×Nat),l.Perm l'∧RiseP l'∧Own w' base 49 2 (.slice (some ⟨g,0,none⟩) l.length cap) l.length (l'.flatMap celP)∧Only w w' (fun c=>c=g):=by
 have eg:∀ args w,(callFunc 36 args).run Tryz.prog w = .ok (.enter 36 args) w:=enters_of Tryz.func36 (by kernel_rfl) rfl;have hg:=(hown.lt g rfl).2;have hcon:=AnyQ.slices_SortFunc zmN 2 zrJ zsB celP zbH zqv plE swoP 36 #[] g 0 cap l.toArray w eg (zqu g 0 l.toArray.size w) hown.holdsP hg (by simpa using hl);have e1:l.toArray.size=l.length:=by simp
 rw [e1] at hcon;refine Calls.mono hcon ?_;rintro e w' ⟨rfl,d',n,os,hp,hs,rfl⟩;obtain ⟨p1,-,p3⟩:=hp;have hsz:d'.size=l.length:=by rw [p1,e1]
 have p4:d'.toList.Perm l:=by
  have x1:(d'.extract 0 l.length).toList=d'.toList:=by rw [←hsz];simp
  have x2:(l.toArray.extract 0 l.length).toList=l:=by simp
  rw [x1,x2] at p3;exact p3
 have hd:d'=d'.toList.toArray:=by simp
 have hno:d'.toList.Nodup:=p4.nodup_iff.2 ho;refine ⟨rfl,d'.toList,p4.symm,?_,?_,zot _⟩
 ·unfold RiseP;rw [List.nodup_iff_pairwise_ne,List.pairwise_iff_getElem] at hno;rw [List.pairwise_iff_getElem];intro i j hi hj hij;have h1:=hs i j (Nat.zero_le _) hij (by rw [←hsz];simpa using hj);rw [zg7] at h1;have e3:d'[i]! = d'.toList[i]:=by rw [getElem!_pos d' i (by simpa using hi)];simp
  have e4:d'[j]! = d'.toList[j]:=by rw [getElem!_pos d' j (by simpa using hj)];simp
  rw [e3,e4] at h1;rcases zj1 d'.toList[i] d'.toList[j] with h|h|h
  ·exact h
  ·exact absurd h (hno i j hi hj hij)
  ·rw [h] at h1;cases h1
 ·have:=hown.sortedP (n:=n) (os:=os) (l':=d'.toList) (by simpa using hsz);rw [←hd] at this;exact this
end Go.Proofs.YtjpldnjldindkaaGreatDoor
namespace Go.Proofs.YtjpldnjldindkaaGreatDoor
open Go.RowKit Go.Sort
theorem zj2 (Bm b:Nat) (es:List ((List UInt8×Nat)×Unit)) (w:World) (hm:w.cell? ⟨Bm,0,none⟩=some (.map (some b))) (hown:zaW w b es) (hN:es.length≤1000000000) :
 Calls Tryz.prog 34 #[.func (.func 69) #[] #[.pointer (some ⟨Bm,0,none⟩)], .func (.func 36) #[] #[]] w fun e w'=>∃ (v:Value) (l:List (List UInt8×Nat)),e = .returned v∧l.Perm (es.map Prod.fst)∧RiseP l∧Own w' w.heap.size 49 2 v l.length (l.flatMap celP)∧Keeps w w':=by
 have CO:=zH (zqt Bm b es w hm hown hN);have S0:=zH (fun (p:Option Addr) (cap:Nat) (W:World)=>AnyF.slices_SortFunc_none zmN p cap (.func (.func 36) #[] #[]) W);have S1:=zH zou;have HN:=zH hN;have ON:=zH hown.once;clear hm hown hN;go_enter Tryz.func34,Tryz.ntmps34;go_wp2_with (go_at_call 67;refine CO.out.mono ?_;rintro e W ⟨v,ss,rfl,hS,hrow,hb⟩)
 have HS:=zH hS;have HB:=zH hb;have HR:=zH (Own.of_row hrow);have HD:=zH (hS.nodup_iff.2 ON.out);have HL:=zH (show ss.length<4611686018427387904 by have h1:=hS.length_eq;rw [List.length_map] at h1;have:=HN.out;omega);clear hS hb;rcases hrow.2 with ⟨rfl,hz⟩|⟨gb,cap,cur,rfl,hbase,hgb,r1,r2,r3,r4⟩
 ·obtain rfl:ss=[]:=List.eq_nil_of_length_eq_zero hz;clear hrow hz;go_wp2_with (go_at_call 68;refine (S0.out none 0 W).mono ?_;rintro e w' ⟨rfl,rfl⟩)
  go_ret;exact ⟨_,[],rfl,HS.out,by simp [RiseP],HR.out,HB.out⟩
 ·have C1:=zH (S1.out gb cap _ ss W HD.out HR.out HL.out);clear hrow r1 r2 r3 r4 hgb;go_wp2_with (go_at_call 68;refine C1.out.mono ?_;rintro e w' ⟨rfl,l',hp,hr,ho,hon⟩)
  go_ret;have hll:ss.length=l'.length:=hp.length_eq;rw [hll] at ho;rw [hll];refine ⟨_,l',rfl,hp.symm.trans HS.out,hr,ho,?_⟩;exact ⟨hon.os.trans HB.out.os,hon.tape.trans HB.out.tape,hon.output.trans HB.out.output,Nat.le_trans HB.out.size hon.size,fun k hk=>(hon.block k (Nat.lt_of_lt_of_le hk HB.out.size) (fun e=>by omega)).trans (HB.out.block k hk)⟩
theorem zgb (l:List Fl):(zaO l).length≤usedL l:=by
 unfold zaO usedL;induction l with
 | nil=>simp
 | cons f l ih=>
  rw [List.flatMap_cons,List.length_append,List.length_map,List.map_cons,List.sum_cons];have:(zbY f).length≤sect f.now.length:=by
   unfold zbY;exact Nat.le_trans (List.length_filter_le _ _) (by rw [List.length_range];exact Nat.le_refl _)
  omega
theorem zkJ {s:Ds} (h:DsOk s) {K:List (List UInt8×Nat)} (hn:K.Nodup) (hm:∀ p,p∈K↔zbo s.l p):K.Perm (zaO s.l):=
 (List.perm_ext_iff_of_nodup hn (zmy (zfO h.rise))).2 fun p=>(hm p).trans (zmx h.files p).symm
theorem zov {w:World} {b:Nat} {F:Nat→Prop} {s:Ds} (h:Dk w b F s):Calls Tryz.prog 13 #[dpt b] w fun e w'=>∃ v,e = .returned v∧Own w' w.heap.size 49 2 v (zaO s.l).length ((zaO s.l).flatMap ze3)∧Keeps w w':=by
 obtain ⟨mf,ml,fb,col,hb,hx⟩:=h.at_;obtain ⟨l2,hm2,hmem⟩:=hx.loose;have c1:w.cell? ⟨b,1,none⟩=some (.map (some ml)):=hb.cell 1 rfl;have hk0:=zA w (.cells #[.map (some ml)] 86);have hbx:=Box.new w 86 #[.map (some ml)];have hp2:=zkJ h.ok hm2.once hmem;have hlen:l2.length≤1000000000:=by
  have h1:=hp2.length_eq;rw [List.length_map] at h1;have h2:=zgb s.l;have h3:=h.used;omega
 have SK:=zH (zj2 w.heap.size ml _ _ (hbx.cell 0 rfl) (hm2.keep hk0) hlen);have SN:=zH (fun (l:List (List UInt8×Nat)) (hp:l.Perm (l2.map Prod.fst)) (hr:RiseP l)=>zrK hr (zfO h.ok.rise) (hp.trans hp2));have KS:=zH (keysP (some ml) w);have HK:=zH hk0;clear h hb hx hbx hlen hk0 hp2 hm2 hmem;show Calls _ _ #[.pointer (some ⟨b,0,none⟩)] w _;go_enter Tryz.func13,Tryz.ntmps13;go_wp2_with (first
  | (go_at_call 35;refine KS.out.mono ?_;rintro e w' ⟨rfl,rfl⟩)
  | (go_at_call 34;refine SK.out.mono ?_;rintro e w' ⟨v,l,rfl,hp,hr,hown,hkp⟩))
 have hs:=SN.out l hp hr;rw [hs] at hown;go_ret;exact ⟨_,rfl,hown.base_le (by simp),zK HK.out hkp⟩
end Go.Proofs.YtjpldnjldindkaaGreatDoor
