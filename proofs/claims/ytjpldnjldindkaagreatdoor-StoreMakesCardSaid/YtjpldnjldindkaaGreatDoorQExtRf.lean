/- Package extsort: Sort where it refuses. -/
import Derived.Test.YtjpldnjldindkaaGreatDoorQExtSr
set_option linter.all false
set_option maxRecDepth 100000
namespace Go.Proofs.YtjpldnjldindkaaGreatDoor
open Go.RowKit Go.Sort
section
variable {K:DiskOk} {w0 w w':World} {B:PB} {S S' T:Nat→Prop} {p q:Pst} {N Q A C:Nat} {V V1:Vw} {ns:List (List UInt8)} {nmI nmO:List UInt8} {l:List Ed} {bi:Int}
def zsZ (N:Nat) (nmI nmO:List UInt8) (bi:Int):Prop:=¬ (bi=0∨bi=1)∨nmI=nmO∨nmI.take 2=[116,46]∨nmO.take 2=[116,46]∨N<8
end
end Go.Proofs.YtjpldnjldindkaaGreatDoor
namespace Go.Proofs.YtjpldnjldindkaaGreatDoor
open Go.RowKit
theorem zjX (l:List Fl) (nm:List UInt8):lookF (l.map fun f=>(f.name,f.now)) nm=(getF l nm).map (·.now):=by
 unfold lookF getF;induction l with
 | nil=>rfl
 | cons f l ih=>
  rw [List.map_cons,List.find?_cons,List.find?_cons];by_cases h:f.name=nm
  ·simp [h]
  ·simp only [h,decide_false];exact ih
section
variable {K:DiskOk} {w0 w:World} {B:PB} {S:Nat→Prop} {p:Pst} {N Q A C:Nat} {V:Vw} {ns:List (List UInt8)} {nm:List UInt8} {rs:List (List UInt8)}
theorem x_num (h:ExS K w0 B N Q A C p V ns S w):p.d.l.length=ns.length:=by simpa using h.tid.names.length_eq
theorem zrG (h:ExS K w0 B N Q A C p V ns S w) (hZ:K.Z w0) (hl:ns.length≤70000) :
 Calls Tryz.prog 9 #[.pointer (some ⟨B.db,0,none⟩)] w fun e w'=>∃ v,e = .returned v∧FilesAt w' w.heap.size v (p.d.l.map fun f=>(f.name,f.now))∧Keeps w w':=zpO h.pj hZ (by rw [x_num h];exact hl)
theorem zog (h:ExS K w0 B N Q A C p V ns S w) (s:IsS V nm 20 rs) (t:Tidy p nm):lookF (p.d.l.map fun f=>(f.name,f.now)) nm=some (fileB nm 0 (zae 12 rs)):=by
 obtain ⟨f,h1,h2⟩:=h.tid.bytes s t;rw [zjX,h1,←h2];rfl
end
end Go.Proofs.YtjpldnjldindkaaGreatDoor
