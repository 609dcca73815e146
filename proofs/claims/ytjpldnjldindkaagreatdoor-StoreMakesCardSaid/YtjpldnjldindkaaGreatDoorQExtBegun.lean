/- milepostlaw12.begun: a pool over a disk on which a file of edges lies. -/
import Derived.Test.YtjpldnjldindkaaGreatDoorQPoolFull
import Derived.Test.YtjpldnjldindkaaGreatDoorQEdges
set_option linter.all false
set_option maxRecDepth 100000
namespace Go.Proofs.YtjpldnjldindkaaGreatDoor
open Go.RowKit
def inN:List UInt8:=[105,110]
section
variable {K:DiskOk} {w0 w w':World} {B:PB} {S S' S2:Nat→Prop} {p q:Pst} {N Q A C:Nat} {V:Vw} {ns:List (List UInt8)} {nm:List UInt8} {size sb:Nat} {rs:List (List UInt8)}
end
def zsY (K:DiskOk) (w:World) (n Q:Nat) (l:List Ed) (e:Ending) (w':World):Prop:=
 ∃ (B:PB) (S:Nat→Prop) (p:Pst) (V:Vw),e = .returned (.tuple #[.pointer (some ⟨B.db,0,none⟩), .pointer (some ⟨B.pb,0,none⟩)])∧
  ExS K w B n Q 1 50 p V [inN] S w'∧IsS V inN 20 (l.map edB)∧Tidy p inN
def outN:List UInt8:=[111,117,116]
def SortV (K:DiskOk) (w0:World) (B:PB) (N Q A C:Nat) (p:Pst) (V:Vw) (ns:List (List UInt8)) (S:Nat→Prop) (w:World) (nmI nmO:List UInt8) (l:List Ed) (hd:Bool) (e:Ending) (w':World):Prop:=
 ∃ (E:Nat) (q:Pst) (V':Vw) (ns':List (List UInt8)) (S':Nat→Prop),e = .returned (.int .i64 (E:Int))∧ExS K w0 B N Q A C q V' ns' S' w'∧Turns w w' S S'∧
  ((E=0∧(∃ a,RedB hd l a∧V'=upV V nmO (some (zae 12 (a.map edB))))∧ns'=nmO::ns∧Tidy q nmO∧(∀ x∈ns,Tidy p x→Tidy q x∧getF q.d.l x=getF p.d.l x))∨
  (E=5∧Q<4*(A*C)+4∧Tidy q nmI∧getF q.d.l nmI=getF p.d.l nmI))
structure SortOk (K:DiskOk):Prop where
 sort:∀ {w0 w:World} {B:PB} {N Q A C:Nat} {p:Pst} {V:Vw} {ns:List (List UInt8)} {S:Nat→Prop} {nmI nmO:List UInt8} {l:List Ed} {bi:Int},ExS K w0 B N Q A C p V ns S w→K.Z w0→Sizes w0→8≤N→N≤4096→
  IsS V nmI 20 (l.map edB)→(∀ e∈l,EdOk e)→Tidy p nmI→zaf nmO=true→nmO∉ns→(∀ x∈ns,x.take 2≠[116,46])→nmO.take 2≠[116,46]→(bi=0∨bi=1)→ns.length+60≤A→l.length≤12*C→l.length≤1000→
  Calls Tryz.prog 53 #[.pointer (some ⟨B.pb,0,none⟩), .string (str nmI), .string (str nmO), .int .i64 bi] w (SortV K w0 B N Q A C p V ns S w nmI nmO l (decide (bi=1)))
theorem Tid.more {Q A A' C C':Nat} {p:Pst} {V:Vw} {ns:List (List UInt8)} (h:Tid Q A C p V ns) (hA:A≤A') (hC:C≤C') (hC':C'≤1000):Tid Q A' C' p V ns:=
 ⟨h.heal.more hA hC,h.rise,h.nd,h.mem,Nat.le_trans h.most hA,hC'⟩
theorem ExS.more {K:DiskOk} {w0 w:World} {B:PB} {N Q A A' C C':Nat} {p:Pst} {V:Vw} {ns:List (List UInt8)} {S:Nat→Prop} (h:ExS K w0 B N Q A C p V ns S w) (hA:A≤A') (hC:C≤C') (hC':C'≤1000):ExS K w0 B N Q A' C' p V ns S w:=
 ⟨h.pj,h.runs,h.tid.more hA hC hC',h.pk⟩
def two12:List Ed:=[⟨2,1,5,4294967295⟩,⟨1,2,7,4294967295⟩]
def Yes12 (w:World) (e:Ending) (w':World):Prop:=e = .returned (.bool true)∧Keeps w w'
end Go.Proofs.YtjpldnjldindkaaGreatDoor
