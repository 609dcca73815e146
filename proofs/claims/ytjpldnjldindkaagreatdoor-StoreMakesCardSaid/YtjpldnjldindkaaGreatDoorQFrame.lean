/- What every row's proof shares: arguments opened to bytes; the law's post. -/
import Derived.Test.YtjpldnjldindkaaGreatDoorRows
import Derived.ProofKit
import Derived.ShutString
import Derived.ChangeOld
import Derived.Deep.DeepHandedRow
import Derived.Lib.LaidTab
import Derived.Test.YtjpldnjldindkaaGreatDoorQEdges
set_option linter.all false
set_option maxRecDepth 100000
namespace Go.Proofs.YtjpldnjldindkaaGreatDoor
open Go.RowKit
open Go.ChangeShapes Go.WideShapes Go.ChangeAt
theorem own:ownKnob Tryz.prog.godebug=none:=by kernel_rfl
theorem zhh:laidOutB Tryz.prog=true:=by kernel_rfl
theorem zgs {a:Int} (h:(Lit.int .i64 a).wf=true) : -9223372036854775808≤a∧a≤9223372036854775807:=by
 simpa [Lit.wf,IntKind.min,IntKind.max,IntKind.signed,IntKind.bits] using h
theorem zlp {a:Int} (h:(Lit.int .u64 a).wf=true):0≤a∧a≤18446744073709551615:=by
 simpa [Lit.wf,IntKind.min,IntKind.max,IntKind.signed,IntKind.bits] using h
theorem zlq {a:Int} (h:(Lit.int .u32 a).wf=true):0≤a∧a≤4294967295:=by
 simpa [Lit.wf,IntKind.min,IntKind.max,IntKind.signed,IntKind.bits] using h
theorem zqS {a:Int} (h:(Lit.int .u64 a).wf=true):∃ x:Nat,a=(x:Int)∧x<18446744073709551616:=by
 have:=zlp h;exact ⟨a.toNat,by omega,by omega⟩
theorem zcC {a:Int} (h:(Lit.int .u32 a).wf=true):∃ x:Nat,a=(x:Int)∧x<4294967296:=by
 have:=zlq h;exact ⟨a.toNat,by omega,by omega⟩
theorem zsb {a:Int} (h:(Lit.int .u8 a).wf=true):∃ x:Nat,a=(x:Int)∧x<256:=by
 have:0≤a∧a≤255:=by simpa [Lit.wf,IntKind.min,IntKind.max,IntKind.signed,IntKind.bits] using h
 exact ⟨a.toNat,by omega,by omega⟩
theorem zmU:flat Tryz.prog 6 64=some [26,26,62,26]:=by kernel_rfl
theorem zlr:Tryz.prog.cellsOf 64=[26,26,62,26].length:=by kernel_rfl
theorem zoW {H:Type} {enc:TypeId×Value→H} {W:World} {A:Option Addr} {n c:Nat} {d:DataW H} {p:List MemPlace} (hT:DataW.Trod enc Tryz.prog W 0 (fun _=>true) true 22 (.slice A n c) d p) :
 ∃ l:List Ed,n=l.length∧n≤c∧c≤maxLen∧At W W.heap.size A (l.flatMap edC)∧∀ e∈l,EdOk e:=by
 obtain ⟨fuel,hf⟩:=hT;obtain ⟨h1,h2,h3,h4⟩:=zgf Tryz.underlying22 zmU zlr ⟨fuel,_,hf⟩;obtain ⟨l,hl,hq⟩:=zkR (Q:=fun i (e:Ed)=>EdOk e∧∃ ad,A=some ad∧∀ j u,(edC e)[j]? = some u→W.cell? (ad.add (i*4+j))=some u) n fun i hi=>by
  obtain ⟨ad,rfl,hc⟩:=h4 i hi;obtain ⟨c0,hc0,lf0⟩:=hc 0 26 rfl;obtain ⟨z0,rfl,q0⟩:=lf0.int Tryz.underlying26;obtain ⟨x0,rfl,m0⟩:=zcC q0;obtain ⟨c1,hc1,lf1⟩:=hc 1 26 rfl;obtain ⟨z1,rfl,q1⟩:=lf1.int Tryz.underlying26;obtain ⟨x1,rfl,m1⟩:=zcC q1;obtain ⟨c2,hc2,lf2⟩:=hc 2 62 rfl;obtain ⟨z2,rfl,q2⟩:=lf2.int Tryz.underlying62;obtain ⟨x2,rfl,m2⟩:=zqS q2;obtain ⟨c3,hc3,lf3⟩:=hc 3 26 rfl;obtain ⟨z3,rfl,q3⟩:=lf3.int Tryz.underlying26;obtain ⟨x3,rfl,m3⟩:=zcC q3;refine ⟨⟨x0,x1,x2,x3⟩,⟨m0,m1,m2,m3⟩,ad,rfl,fun j u hu=>?_⟩;have hj:j<4:=by have:=(zI9.1 hu).1;simpa [edC] using this
  rcases (show j=0∨j=1∨j=2∨j=3 by omega) with rfl|rfl|rfl|rfl
  ·obtain rfl:=Option.some.inj hu;exact hc0
  ·obtain rfl:=Option.some.inj hu;exact hc1
  ·obtain rfl:=Option.some.inj hu;exact hc2
  ·obtain rfl:=Option.some.inj hu;exact hc3
 refine ⟨l,hl.symm,h1,h2,?_,fun e he=>?_⟩
 ·rcases A with _|ad
  ·obtain ⟨rfl,_⟩:=h3 rfl;left;have:l=[]:=List.eq_nil_of_length_eq_zero hl;subst this;rfl
  ·refine (zkS edC 4 (fun _=>rfl) (by decide) l hl ad (fun _=>rfl) fun i x hx=>?_);obtain ⟨_,ad',e',hc⟩:=hq i x hx;obtain rfl:=Option.some.inj e';exact hc
 ·obtain ⟨i,hi⟩:=List.getElem?_of_mem he;exact (hq i e hi).1
end Go.Proofs.YtjpldnjldindkaaGreatDoor
