/- Package extsort: Sort where it refuses. -/
import Derived.Test.YtjmkagakdhhigaaGreatDoorQExtSr
set_option linter.unusedVariables false
set_option linter.unusedSimpArgs false
set_option maxRecDepth 100000
namespace Go.Proofs.YtjmkagakdhhigaaGreatDoor
open Go.RowKit Go.Sort
section
variable {K:DiskOk} {w0 w w':World} {B:PB} {S S' T:Nat→Prop} {p q:Pst} {N Q A C:Nat} {V V1:Vw} {ns:List (List UInt8)} {nmI nmO:List UInt8} {l:List Ed} {bi:Int}
def SortNo (N:Nat) (nmI nmO:List UInt8) (bi:Int):Prop:=¬ (bi=0∨bi=1)∨nmI=nmO∨nmI.take 2=[116,46]∨nmO.take 2=[116,46]∨N<8
end
end Go.Proofs.YtjmkagakdhhigaaGreatDoor
