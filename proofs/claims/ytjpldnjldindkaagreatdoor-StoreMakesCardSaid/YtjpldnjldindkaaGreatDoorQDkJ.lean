/- Package disk: the closure that gathers what is moved. -/
import Derived.Test.YtjpldnjldindkaaGreatDoorQDkG
import Derived.Test.YtjpldnjldindkaaGreatDoorQDkI
set_option linter.all false
set_option maxRecDepth 100000
namespace Go.Proofs.YtjpldnjldindkaaGreatDoor
open Go.RowKit Go.Shelf
def movL (a c:List UInt8) (pre:List Pl):List Pl:=(pre.filter fun p=>decide (p.1=a)).map fun p=>(c,p.2)
def MoveJ (B bf bm bt:Nat) (a c:List UInt8) (pre:List Pl) (T:Nat→Prop) (W:World):Prop:=
 ∃ v,Box W bf 9 #[.string (str a)]∧Box W bt 9 #[.string (str c)]∧Box W bm 46 #[v]∧Own W B 49 2 v (movL a c pre).length ((movL a c pre).flatMap celP)∧T=fun x=>x=bf∨x=bt∨x=bm∨v.ownBlock=some x
section
variable {w w':World} {b:Nat} {F:Nat→Prop} {s:Ds}
end
def keptP (P:List (List UInt8×Nat)) (keep:List Int) (p:List UInt8×Nat):Bool:=keep.any fun i=>decide (0≤i)&&decide (P[i.toNat]? = some p)
def zs1 (K:List UInt8×Nat→Bool) (l:List Fl):List Fl:=l.map fun f=>{f with lasts:=backB f (fun k=>K (f.name,k))}
def nowL (R:List UInt8→Bool) (l:List Fl):List Fl:=l.map fun f=>if R f.name then f else {f with now:=f.lasts}
section
variable {w w':World} {b:Nat} {F:Nat→Prop} {s:Ds}
end
end Go.Proofs.YtjpldnjldindkaaGreatDoor
namespace Go.Proofs.YtjpldnjldindkaaGreatDoor
open Go.RowKit
noncomputable def zsC:DiskOk where
 Z _:=True
 keep _ _:=trivial
 D:=Dk
 lt h:=h.lt
 same h:=h.same
 ok h:=h.ok
 new q w _ h1 h2:=zq5 q w h1 h2
 create nm _ h hn:=zlX h nm hn
 remove nm _ h hn:=zlY h nm hn
 write nm off A n c l _ h hn h1 h2 hB hF hnl hnc hn7:=zom h nm off A n c l hn h1 h2 hB hF hnl hnc hn7
 sync nm _ h hn:=zpm h nm hn
 read nm off n _ h hn h1 h2 h3 h4:=zpl h nm off n hn h1 h2 h3 h4
 size nm _ h hn:=zpk h nm hn
 names _ h hl:=zix h hl
 used _ h:=zjo h
 loose _ h:=zov h
 files _ h hl:=zoq h hl
end Go.Proofs.YtjpldnjldindkaaGreatDoor
