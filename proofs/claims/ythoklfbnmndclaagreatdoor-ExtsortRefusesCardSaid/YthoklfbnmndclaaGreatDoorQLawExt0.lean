/- What the laws of extsort ask of a pool and its files. -/
import Derived.Test.YthoklfbnmndclaaGreatDoorQExtBegun
import Derived.Test.YthoklfbnmndclaaGreatDoorQLawDisk
import Derived.Test.YthoklfbnmndclaaGreatDoorQPoolHeal
set_option linter.unusedVariables false
set_option linter.unusedSimpArgs false
set_option maxRecDepth 100000
namespace Go.Proofs.YthoklfbnmndclaaGreatDoor
open Go.RowKit
theorem look_get (l:List Fl) (nm:List UInt8):lookF (l.map fun f=>(f.name,f.now)) nm=(getF l nm).map (·.now):=by
 unfold lookF getF
 induction l with
 | nil=>rfl
 | cons f l ih=>
  rw [List.map_cons,List.find?_cons,List.find?_cons]
  by_cases h:f.name=nm
  · simp [h]
  · simp only [h,decide_false]
    exact ih
theorem eqBytes12_yes (A:Option Addr) (n c:Nat) (b:List UInt8) (B:Option Addr) (d:Nat) (w:World) (hA:Bs w A b) (hn:n=b.length) (hB:Bs w B b) :
 Calls Tryz.prog 20 #[.slice A n c, .slice B n d] w fun e w'=>e = .returned (.bool true)∧w=w':=
 (eqBytes_any A n c b B n d b w hA hn hB hn).mono fun e w' h=>⟨by rw [h.1,decide_eq_true rfl],h.2⟩
section
variable {K:DiskOk} {w0 w:World} {B:PB} {S:Nat→Prop} {p:Pst} {N Q A C:Nat} {V:Vw} {ns:List (List UInt8)} {nm:List UInt8} {rs:List (List UInt8)}
theorem x_num (h:ExS K w0 B N Q A C p V ns S w):p.d.l.length=ns.length:=by simpa using h.tid.names.length_eq
theorem x_files (h:ExS K w0 B N Q A C p V ns S w) (hZ:K.Z w0) (hl:ns.length≤70000) :
 Calls Tryz.prog 14 #[.pointer (some ⟨B.db,0,none⟩)] w fun e w'=>∃ v,e = .returned v∧FilesAt w' w.heap.size v (p.d.l.map fun f=>(f.name,f.now))∧Keeps w w':=files_pj h.pj hZ (by rw [x_num h];exact hl)
theorem x_look (h:ExS K w0 B N Q A C p V ns S w) (s:IsS V nm 20 rs) (t:Tidy p nm):lookF (p.d.l.map fun f=>(f.name,f.now)) nm=some (fileB nm 0 (pagesS 12 rs)):=by
 obtain ⟨f,h1,h2⟩:=h.tid.bytes s t
 rw [look_get,h1,←h2]
 rfl
theorem x_frames (h:ExS K w0 B N Q A C p V ns S w):Calls Tryz.prog 23 #[.pointer (some ⟨B.pb,0,none⟩)] w fun e w'=>e = .returned (.int .i64 (N:Int))∧Keeps w w':=by
 have hl:=h.runs.len
 obtain ⟨Fd,Fp,X,sl,rfl,hp⟩:=h.pj
 have:=frames_any hp
 rwa [hl] at this
end
end Go.Proofs.YthoklfbnmndclaaGreatDoor
