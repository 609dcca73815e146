/- What the laws of extsort ask of a pool and its files. -/
import Derived.Test.YtjmkagakdhhigaaGreatDoorQExtBegun
import Derived.Test.YtjmkagakdhhigaaGreatDoorQLawDisk
import Derived.Test.YtjmkagakdhhigaaGreatDoorQPoolHeal
set_option linter.unusedVariables false
set_option linter.unusedSimpArgs false
set_option maxRecDepth 100000
namespace Go.Proofs.YtjmkagakdhhigaaGreatDoor
open Go.RowKit
theorem look_get (l:List Fl) (nm:List UInt8):lookF (l.map fun f=>(f.name,f.now)) nm=(getF l nm).map (·.now):=by
 unfold lookF getF
 induction l with
 | nil=>rfl
 | cons f l ih=>
  rw [List.map_cons,List.find?_cons,List.find?_cons]
  by_cases h:f.name=nm
  · simp [h]
  · simp only [h,decide_false]
    exact ih
section
variable {K:DiskOk} {w0 w:World} {B:PB} {S:Nat→Prop} {p:Pst} {N Q A C:Nat} {V:Vw} {ns:List (List UInt8)} {nm:List UInt8} {rs:List (List UInt8)}
theorem x_num (h:ExS K w0 B N Q A C p V ns S w):p.d.l.length=ns.length:=by simpa using h.tid.names.length_eq
theorem x_files (h:ExS K w0 B N Q A C p V ns S w) (hZ:K.Z w0) (hl:ns.length≤70000) :
 Calls Tryz.prog 22 #[.pointer (some ⟨B.db,0,none⟩)] w fun e w'=>∃ v,e = .returned v∧FilesAt w' w.heap.size v (p.d.l.map fun f=>(f.name,f.now))∧Keeps w w':=files_pj h.pj hZ (by rw [x_num h];exact hl)
end
end Go.Proofs.YtjmkagakdhhigaaGreatDoor
