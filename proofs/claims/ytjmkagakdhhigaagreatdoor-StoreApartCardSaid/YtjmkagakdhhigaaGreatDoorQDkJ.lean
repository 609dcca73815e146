/- Package disk: the closure that gathers what is moved. -/
import Derived.Test.YtjmkagakdhhigaaGreatDoorQDkG
import Derived.Test.YtjmkagakdhhigaaGreatDoorQDkI
import Derived.Test.YtjmkagakdhhigaaGreatDoorQDkC
import Derived.Test.YtjmkagakdhhigaaGreatDoorQDkB
set_option linter.unusedVariables false
set_option linter.unusedSimpArgs false
set_option maxRecDepth 100000
namespace Go.Proofs.YtjmkagakdhhigaaGreatDoor
open Go.RowKit Go.Shelf
def movL (a c:List UInt8) (pre:List Pl):List Pl:=(pre.filter fun p=>decide (p.1=a)).map fun p=>(c,p.2)
def MoveJ (B bf bm bt:Nat) (a c:List UInt8) (pre:List Pl) (T:Nat→Prop) (W:World):Prop:=
 ∃ v,Box W bf 9 #[.string (str a)]∧Box W bt 9 #[.string (str c)]∧Box W bm 66 #[v]∧Own W B 69 2 v (movL a c pre).length ((movL a c pre).flatMap celP)∧T=fun x=>x=bf∨x=bt∨x=bm∨v.ownBlock=some x
section
variable {w w':World} {b:Nat} {F:Nat→Prop} {s:Ds}
end
def keptP (P:List (List UInt8×Nat)) (keep:List Int) (p:List UInt8×Nat):Bool:=keep.any fun i=>decide (0≤i)&&decide (P[i.toNat]? = some p)
def lastsL (K:List UInt8×Nat→Bool) (l:List Fl):List Fl:=l.map fun f=>{f with lasts:=backB f (fun k=>K (f.name,k))}
def nowL (R:List UInt8→Bool) (l:List Fl):List Fl:=l.map fun f=>if R f.name then f else {f with now:=f.lasts}
section
variable {w w':World} {b:Nat} {F:Nat→Prop} {s:Ds}
end
end Go.Proofs.YtjmkagakdhhigaaGreatDoor
namespace Go.Proofs.YtjmkagakdhhigaaGreatDoor
open Go.RowKit
noncomputable def diskOk:DiskOk where
 Z _:=True
 keep _ _:=trivial
 D:=Dk
 lt h:=h.lt
 same h:=h.same
 ok h:=h.ok
 new q w _ h1 h2:=new_any q w h1 h2
 create nm _ h hn:=create_any h nm hn
 remove nm _ h hn:=remove_any h nm hn
 write nm off A n c l _ h hn h1 h2 hB hF hnl hnc hn7:=write_any h nm off A n c l hn h1 h2 hB hF hnl hnc hn7
 sync nm _ h hn:=sync_any h nm hn
 read nm off n _ h hn h1 h2 h3 h4:=read_any h nm off n hn h1 h2 h3 h4
 size nm _ h hn:=size_any h nm hn
 names _ h hl:=names_any h hl
 used _ h:=used_any h
 quota n _ h h1 h2:=quota_any h n h1 h2
 loose _ h:=loose_any h
 files _ h hl:=files_any h hl
end Go.Proofs.YtjmkagakdhhigaaGreatDoor
