/-
  PROVED HERE: the Go function milepost/milepostlaw13.StoreApart of the landed commit answers true for every input that the row reads, and leaves what was there as it was.
  CONDITIONS: those of the given row alone (sizes of what is read; the listed package-level variables hold what the program's text lays: the card ties that).
-/
import Derived.Test.YtjmkagakdhhigaaGreatDoorQFrame
import Derived.Test.YtjmkagakdhhigaaGreatDoorQOpenNet
import Derived.Test.YtjmkagakdhhigaaGreatDoorQDkJ
import Derived.Test.YtjmkagakdhhigaaGreatDoorQPageEq
import Derived.Test.YtjmkagakdhhigaaGreatDoorQLawSt3
import Derived.Test.YtjmkagakdhhigaaGreatDoorCards
import Derived.Test.YtjmkagakdhhigaaGreatDoorTie
import Derived.SevenTiedAt
namespace Go.Proofs.YtjmkagakdhhigaaGreatDoor.storeApart
open Go.RowKit
open Go.ChangeShapes Go.WideShapes Go.ChangeAt
open Go.ChangeMaps (open_string shut_string)
set_option linter.unusedVariables false
set_option maxRecDepth 100000
theorem gTab : Tryz.prog.globalNamed "milepost/octet.sizes" = some 2:=by kernel_rfl
theorem gTabType:(Tryz.prog.globals[2]?).map (·.type)=some 311:=by kernel_rfl
theorem cellsA:Tryz.prog.cellsOf 311=4:=by kernel_rfl
theorem cellsE:Tryz.prog.cellsOf 3=1:=by kernel_rfl
theorem table {W : World} (h : laidMetH Tryz.prog Rows.storeApartRow.laid W) : Lib.TabIs Tryz.prog W "milepost/octet.sizes" .i64 [1,2,4,8] := by
 obtain ⟨ps,hv,_⟩:=(show laidMet Tryz.prog Rows.storeApartRow.laid W from h)
 obtain ⟨_,_,_,_,_,_,_,_,_,_,hv,_⟩:=hv
 obtain ⟨_,_,_,_,_,_,_,_,_,_,hv,_⟩:=hv
 obtain ⟨_,_,_,_,_,_,_,_,_,_,hv,_⟩:=hv
 obtain ⟨g',t',cs,fuel,p,q,hg',ht',hvar,hd,_,_⟩:=hv
 obtain rfl:=Option.some.inj (gTab.symm.trans hg')
 obtain rfl:=Option.some.inj (gTabType.symm.trans ht')
 unfold Lib.TabIs
 rw [hvar,←Lib.cells_of_tab Tryz.underlying311 Tryz.underlying3 cellsE cellsA (show _=some (Lib.tabData .i64 [1,2,4,8],p) from hd)]
theorem sizes_ {W:World} (h:laidMetH Tryz.prog Rows.storeApartRow.laid W):Sizes W:=
 ⟨(table h).cell gTab 0 (by decide),(table h).cell gTab 1 (by decide),(table h).cell gTab 2 (by decide),(table h).cell gTab 3 (by decide)⟩
theorem gPow : Tryz.prog.globalNamed "internal/strconv.uint64pow10" = some 1:=by kernel_rfl
theorem gPowType:(Tryz.prog.globals[1]?).map (·.type)=some 288:=by kernel_rfl
theorem cellsPA:Tryz.prog.cellsOf 288=20:=by kernel_rfl
theorem cellsPE:Tryz.prog.cellsOf 40=1:=by kernel_rfl
theorem powT_ {W : World} (h : laidMetH Tryz.prog Rows.storeApartRow.laid W) : Lib.TabIs Tryz.prog W "internal/strconv.uint64pow10" .u64 [1,10,100,1000,10000,100000,1000000,10000000,100000000,1000000000,10000000000,100000000000,1000000000000,10000000000000,100000000000000,1000000000000000,10000000000000000,100000000000000000,1000000000000000000,10000000000000000000] := by
 obtain ⟨ps,hv,_⟩:=(show laidMet Tryz.prog Rows.storeApartRow.laid W from h)
 obtain ⟨_,_,_,_,_,_,_,_,_,_,hv,_⟩:=hv
 obtain ⟨_,_,_,_,_,_,_,_,_,_,hv,_⟩:=hv
 obtain ⟨g',t',cs,fuel,p,q,hg',ht',hvar,hd,_,_⟩:=hv
 obtain rfl:=Option.some.inj (gPow.symm.trans hg')
 obtain rfl:=Option.some.inj (gPowType.symm.trans ht')
 unfold Lib.TabIs
 rw [hvar,←Lib.cells_of_tab Tryz.underlying288 Tryz.underlying40 cellsPE cellsPA (show _=some (Lib.tabData .u64 [1,10,100,1000,10000,100000,1000000,10000000,100000000,1000000000,10000000000,100000000000,1000000000000,10000000000000,100000000000000,1000000000000000,10000000000000000,100000000000000000,1000000000000000000,10000000000000000000],p) from hd)]
theorem pow_ {W:World} (h:laidMetH Tryz.prog Rows.storeApartRow.laid W):PowT W:=by
 unfold PowT
 rw [show Lib.pow10Tab=[1,10,100,1000,10000,100000,1000000,10000000,100000000,1000000000,10000000000,100000000000,1000000000000,10000000000000,100000000000000,1000000000000000,10000000000000000,100000000000000000,1000000000000000000,10000000000000000000] from by decide +kernel]
 exact powT_ h
theorem contract (H:Type) (enc:TypeId×Value→H) (W:World) (base:Nat) (args:Array Value) (ds gs:List (DataW H)) (before:List MemPlace)
 (hval:∀ (j:Nat) t v,Tryz.f7.params[j]? = some t→args[j]? = some v→Value.okWide Tryz.prog W .any base t v)
 (hW:DataW.Whole enc Tryz.prog Tryz.f7.params.toList Rows.storeApartSpec.vars false W args.toList ds gs before) (hL:laidMetH Tryz.prog Rows.storeApartRow.laid W) :
 Calls Tryz.prog 7 args W fun e W'=>∃ v,e = .returned v∧Rows.storeApartSpec.post enc Tryz.prog Tryz.f7 false true false false W args v W':=by
 have hW':=hW
 obtain ⟨p,q,hA0,hV,rfl,hfz,hnd⟩:=hW
 have hA:DataW.TrodAll enc Tryz.prog W 0 (fun _=>true) true Tryz.f7.params.toList args.toList ds p:=hA0
 rw [Tryz.params7] at hA hval
 obtain ⟨v0,vs0,d0,ds0,p0,q0,hargs,rfl,rfl,h0,r0_⟩:=trodAll_cons hA
 obtain ⟨v1,vs1,d1,ds1,p1,q1,rfl,rfl,rfl,h1,r1_⟩:=trodAll_cons r0_
 obtain ⟨rfl,rfl,rfl⟩:=trodAll_nil r1_
 obtain rfl:args = #[v0,v1]:=by cases args;simp_all
 have k0:=h0
 have lt0:∀ x∈p0,x.block<W.heap.size:=by obtain ⟨m,hm⟩:=k0;exact DataW.trod_lt m _ _ _ hm
 have k1:=h1
 have lt1:∀ x∈p1,x.block<W.heap.size:=by obtain ⟨m,hm⟩:=k1;exact DataW.trod_lt m _ _ _ hm
 obtain ⟨rfl,rfl⟩:=trodVars_none hV
 obtain ⟨e0,rfl,ok0⟩:=net_of (hval 0 49 _ rfl rfl) h0
 obtain ⟨e1,rfl,ok1⟩:=net_of (hval 1 49 _ rfl rfl) h1
 clear hA0
 refine (apart13_walk diskOk pageOk W trivial (sizes_ hL) (pow_ hL) e0 e1 ok0 ok1).mono fun e W' ⟨he,bel⟩=>?_
 subst he
 exact ⟨_,rfl,_,_,_,[],_,[],hW',trodAll_mk1 (shut_bool Tryz.underlying4 _),(trodAll_cons_mk (Below.trod laidOut (by kernel_rfl) (of_decide_eq_true (by kernel_rfl)) k0 bel lt0) (trodAll_cons_mk (Below.trod laidOut (by kernel_rfl) (of_decide_eq_true (by kernel_rfl)) k1 bel lt1) trodAll_mk0)),rfl,bel.frame _,fun h=>by cases h⟩
def lay (cs:Array Value):Obj→Obj
 | .cells _ t frozen=>.cells cs t frozen
 | o=>o
noncomputable def laidWorld (os:Os):World:=
 {World.holding Tryz.prog os ⟨#[],#[],[]⟩ with heap:=((((World.holding Tryz.prog os ⟨#[],#[],[]⟩).heap.modify 2 (lay #[.int .i64 1, .int .i64 2, .int .i64 4, .int .i64 8])).modify 3 (lay #[.int .u8 0, .int .u8 1, .int .u8 28, .int .u8 2, .int .u8 29, .int .u8 14, .int .u8 24, .int .u8 3, .int .u8 30, .int .u8 22, .int .u8 20, .int .u8 15, .int .u8 25, .int .u8 17, .int .u8 4, .int .u8 8, .int .u8 31, .int .u8 27, .int .u8 13, .int .u8 23, .int .u8 21, .int .u8 19, .int .u8 16, .int .u8 7, .int .u8 26, .int .u8 12, .int .u8 18, .int .u8 6, .int .u8 11, .int .u8 5, .int .u8 10, .int .u8 9])).modify 4 (lay #[.int .u8 0, .int .u8 1, .int .u8 56, .int .u8 2, .int .u8 57, .int .u8 49, .int .u8 28, .int .u8 3, .int .u8 61, .int .u8 58, .int .u8 42, .int .u8 50, .int .u8 38, .int .u8 29, .int .u8 17, .int .u8 4, .int .u8 62, .int .u8 47, .int .u8 59, .int .u8 36, .int .u8 45, .int .u8 43, .int .u8 51, .int .u8 22, .int .u8 53, .int .u8 39, .int .u8 33, .int .u8 30, .int .u8 24, .int .u8 18, .int .u8 12, .int .u8 5, .int .u8 63, .int .u8 55, .int .u8 48, .int .u8 27, .int .u8 60, .int .u8 41, .int .u8 37, .int .u8 16, .int .u8 46, .int .u8 35, .int .u8 44, .int .u8 21, .int .u8 52, .int .u8 32, .int .u8 23, .int .u8 11, .int .u8 54, .int .u8 26, .int .u8 40, .int .u8 15, .int .u8 34, .int .u8 20, .int .u8 31, .int .u8 10, .int .u8 25, .int .u8 14, .int .u8 19, .int .u8 9, .int .u8 13, .int .u8 8, .int .u8 7, .int .u8 6])).modify 1 (lay #[.int .u64 1, .int .u64 10, .int .u64 100, .int .u64 1000, .int .u64 10000, .int .u64 100000, .int .u64 1000000, .int .u64 10000000, .int .u64 100000000, .int .u64 1000000000, .int .u64 10000000000, .int .u64 100000000000, .int .u64 1000000000000, .int .u64 10000000000000, .int .u64 100000000000000, .int .u64 1000000000000000, .int .u64 10000000000000000, .int .u64 100000000000000000, .int .u64 1000000000000000000, .int .u64 10000000000000000000])}
theorem laid_met (os:Os):laidMet Tryz.prog Rows.storeApartRow.laid ((laidWorld os).forCall (fun _ _=>0) ⟨#[],#[.agg #[.slice none 0 0, .slice none 0 0, .int .i64 0, .int .u8 0], .agg #[.slice none 0 0, .slice none 0 0, .int .i64 0, .int .u8 0]],[]⟩).memory:=
 laidMet_of_run' 8 (by kernel_rfl) (by kernel_rfl)
theorem reads (os:Os) {H:Type} (enc:TypeId×Value→H):∃ places,DataW.whole enc Tryz.prog ((laidWorld os).forCall (fun _ _=>0) ⟨#[],#[.agg #[.slice none 0 0, .slice none 0 0, .int .i64 0, .int .u8 0], .agg #[.slice none 0 0, .slice none 0 0, .int .i64 0, .int .u8 0]],[]⟩).memory Tryz.f7.params.toList Rows.storeApartSpec.vars false (#[(.agg #[.slice none 0 0, .slice none 0 0, .int .i64 0, .int .u8 0]:Value), .agg #[.slice none 0 0, .slice none 0 0, .int .i64 0, .int .u8 0]]:Array Value).toList 8=some ([.agg [.nil, .nil, .lit (.int .i64 0), .lit (.int .u8 0)], .agg [.nil, .nil, .lit (.int .i64 0), .lit (.int .u8 0)]],[],places):=
 ⟨[],by kernel_rfl⟩
set_option maxRecDepth 100000 in
theorem lifted (os:Os) (started:os.Started) (H:Type) (enc:TypeId×Value→H) (F:Stop.Interp) :
 ReturnsInHanded {} Tryz.checked os 7 .any ((OpenSpec.ofChange Rows.storeApartSpec).preRow enc Tryz.prog Tryz.f7 Rows.storeApartRow.domain false Rows.storeApartRow.laid) (((OpenSpec.ofChange Rows.storeApartSpec).at F).post enc Tryz.prog Tryz.f7 false true false false):=by
 obtain ⟨places,hx⟩:=reads os enc
 refine returnsInHanded_of_row (C:=Tryz.checked) (s:=OpenSpec.ofChange Rows.storeApartSpec) own started (by kernel_rfl) Tryz.func7
  (witness_row_at (enc:=enc) (C:=Tryz.checked) false (laidWorld os) #[.agg #[.slice none 0 0, .slice none 0 0, .int .i64 0, .int .u8 0], .agg #[.slice none 0 0, .slice none 0 0, .int .i64 0, .int .u8 0]] rfl (by kernel_rfl) (by kernel_rfl) (by kernel_rfl)
   (OpenSpec.preRow_of_cond 8 hx (by kernel_rfl) (fun k hk=>by cases hk) (by kernel_rfl) (laid_met os))) ?_
 intro W base args ds gs before hval hW _ _ _ hL _ _
 exact contract H enc W base args ds gs before hval hW hL
theorem said:Rows.StoreApartSaid:=
 OpenClaim.holds_of_cond 7 Tryz.f7 rfl rfl rfl rfl rfl rfl rfl ⟨rfl,rfl,rfl,rfl,rfl⟩ rfl rfl rfl rfl rfl (by kernel_rfl) Tryz.func7 (by kernel_rfl)
  (of_decide_eq_true (by kernel_rfl)) (by unfold Func.isWrapper;first|(rw [if_pos (by decide +kernel)];kernel_rfl)|(rw [if_neg (by decide +kernel)];exact ⟨rfl,rfl⟩))
  (fun os started H enc _ F=>by rw [OpenClaim.pre_eq_preRow];exact lifted os started H enc F)
theorem plain (f : FuncId) (fn : Func) (hf : Tryz.pinned.checked.prog.funcNamed "milepost/milepostlaw13.StoreApart" = some f) (hfn : Tryz.pinned.checked.prog.funcs[f]? = some fn) :
 false=Tryz.pinned.checked.prog.looks []∧∀ (j:Nat) t,fn.params[j]? = some t→Tryz.pinned.checked.prog.wantsStandIn t=false:=by
 obtain rfl : f = 7:=Option.some.inj ((show Tryz.prog.funcNamed "milepost/milepostlaw13.StoreApart" = some 7 by kernel_rfl).symm.trans hf) |>.symm
 obtain rfl:fn=Tryz.f7:=(Option.some.inj (Tryz.func7.symm.trans hfn)).symm
 refine ⟨by kernel_rfl,fun j t ht=>?_⟩
 rw [Tryz.params7] at ht
 have hm:t∈[49,49]:=by simpa using Array.mem_of_getElem? ht
 have hall:([49,49].all fun u=>!Tryz.prog.wantsStandIn u)=true:=by kernel_rfl
 exact (show Tryz.prog.wantsStandIn t=false by simpa using List.all_eq_true.1 hall t hm)
theorem card:Rows.StoreApartCardSaid:=
 Claim7.holds_tied_plain_at .later [] _ _ _ _ said (fun _ h=>by cases h) (by kernel_rfl) (fun _ h=>by cases h) storeApart_row_tie rfl ⟨rfl,rfl⟩ (by kernel_rfl) rfl plain (by kernel_rfl)
end Go.Proofs.YtjmkagakdhhigaaGreatDoor.storeApart
