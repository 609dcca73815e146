/- Package pool: New, Disk, Frames, Held, Peak. -/
import Derived.Test.YtjpldnjldindkaaGreatDoorQPoolW
import Derived.Deep.OwnRows
import Derived.Lib.Builder
set_option linter.all false
set_option maxHeartbeats 0
set_option maxRecDepth 100000
namespace Go.Proofs.YtjpldnjldindkaaGreatDoor
open Go.RowKit
theorem zpy (n:Nat):madeCells #[Value.pointer none] n=(rowC (List.replicate n none)).toArray:=by
 apply Array.ext';apply List.ext_getElem?;intro j;by_cases hj:j<n
 ·simp [madeCells,rowC,ptrO,hj,Nat.mod_one]
 ·simp [madeCells,rowC,hj]
theorem zk5 (n:Nat):frs (List.replicate n none)=List.replicate n none:=by simp [frs]
section
variable {K:DiskOk} {w0 w w':World} {B:PB} {X X':PX} {Fd Fp Fd' Fp':Nat→Prop} {sl sl':List (Option Fx)} {p p':Pst}
theorem zdw {α:Type} {n i:Nat} {x:α} (h:(List.replicate n (none:Option α))[i]? = some (some x)):False:=by
 have:=List.eq_of_mem_replicate (List.mem_of_getElem? h);cases this
theorem zsi (hD:Have K w0 w B.db Fd p.d) {n:Nat} (h1:1≤n) (hn:n≤4096) (hgr:w.heap.size=B.gr) (hwb:w.heap.size+1=B.wb) (hdm:w.heap.size+2=B.dm) (hpb:w.heap.size+3=B.pb) (k:Keeps w w') (hsz:w'.heap.size=w.heap.size+4)
 (row:Box w' B.gr 194 (rowC (List.replicate n none)).toArray) (box:Box w' B.pb 156 (plC B n ⟨0,0,0,0,0⟩)) (wher:MapW plV dpt w' B.wb []) (dirt:MapW strW sliV w' B.dm []) :
 PHave K w0 w' B Fd (fun i=>w.heap.size≤i∧i<w.heap.size+4) ⟨fun _=>(none,0),fun _ _=>0,[]⟩ (List.replicate n none) (newPl p.d n):=by
 have hok:=(zjd p.d ⟨h1,hn⟩).1;refine ⟨hD.keep k,?_,(zk5 n).symm,hok,fun i hi=>Nat.le_trans hD.kp.size hi.1,fun i hi hd=>by have:=K.lt hD.D i hd;omega⟩;refine ⟨?_,row,fun i x hx=>(zdw hx).elim,fun i j x y hx=>(zdw hx).elim,fun i x hx=>(zdw hx).elim,wher,fun nm k=>?_,dirt,fun nm ks h=>by simp [newPl] at h,fun nm ks h=>by simp [newPl] at h,fun nm ks _ _ h=>by simp [newPl] at h,fun nm k h=>?_,hok.dl,?_,⟨?_,?_,?_,?_,fun i x hx=>(zdw hx).elim,fun nm ks h=>by simp [newPl] at h⟩,fun i hi=>by omega,by simpa using hn,by omega⟩
 ·have e:tally (newPl p.d n).hand (newPl p.d n).fr (newPl p.d n).mostR (newPl p.d n).mostP=⟨0,0,0,0,0⟩:=by
   simp [tally,newPl,resN,pinN,List.countP_replicate,isPin]
  rw [e,List.length_replicate];exact box
 ·rw [if_neg (fun hm=>by
   obtain ⟨i,f,hf,-,-⟩:=mem_keys.1 hm;obtain ⟨x,hx,-⟩:=zbO hf;exact zdw hx)]
  rfl
 ·simp [newPl,zaa,lookM] at h
 ·have:=hok.one;unfold One;rw [zk5];exact this
 ·omega
 ·omega
 ·omega
 ·omega
def NewV (K:DiskOk) (w0 w:World) (Fd:Nat→Prop) (db:Nat) (d:Ds) (n:Int) (e:Ending) (w':World):Prop:=Keeps w w'∧
 ((1≤n∧n≤4096∧∃ B Fp X sl,B.db=db∧e = .returned (.tuple #[.pointer (some ⟨B.pb,0,none⟩), .int .i64 0])∧PHave K w0 w' B Fd Fp X sl (newPl d n.toNat)∧∀ i,Fp i→w.heap.size≤i)∨((n<1∨4096<n)∧e = .returned (.tuple #[.pointer none, .int .i64 1])))
theorem znw {db:Nat} {d:Ds} (hD:Have K w0 w db Fd d) (n:Int) (hn:IsI n) :
 Calls Tryz.prog 46 #[.pointer (some ⟨db,0,none⟩), .int .i64 n] w (NewV K w0 w Fd db d n):=by
 have hmm:=@run_makeMap Tryz.prog;by_cases h1:n<1
 ·go_enter Tryz.func46,Tryz.ntmps46;go_wp2;go_returns;exact ⟨zab _, .inr ⟨.inl h1,rfl⟩⟩
 ·by_cases h2:4096<n
  ·have h1b:decide (n<1)=false:=decide_eq_false h1;go_enter Tryz.func46,Tryz.ntmps46;go_wp2;go_returns;exact ⟨zab _, .inr ⟨.inr h2,rfl⟩⟩
  ·obtain ⟨m,rfl⟩:∃ m:Nat,n=(m:Int):=(⟨n.toNat,by omega⟩);have hm1:1≤m:=by omega
   have hm2:m≤4096:=(by omega);have h1b:decide ((m:Int)<1)=false:=decide_eq_false h1;have h2b:decide (4096<(m:Int))=false:=decide_eq_false h2;have hmk:=run_make_row' (P:=Tryz.prog) 150 194 (.pointer none) 8 Tryz.underlying150 ze2 rfl .i64 .i64 m (by omega) (by omega);have HD:=zH hD;clear hD hn;go_enter Tryz.func46,Tryz.ntmps46;go_wp2;go_returns;have q1:=zA w (.cells (madeCells #[.pointer none] m) 194);have q2:=zA (w.alloc (.cells (madeCells #[.pointer none] m) 194)) (.map #[] 0);have q3:=zA ((w.alloc (.cells (madeCells #[.pointer none] m) 194)).alloc (.map #[] 0)) (.map #[] 0);have q4:=zA (((w.alloc (.cells (madeCells #[.pointer none] m) 194)).alloc (.map #[] 0)).alloc (.map #[] 0)) (.cells #[.pointer (some ⟨db,0,none⟩), .slice (some ⟨w.heap.size,0,none⟩) m m, .map (some (w.heap.size+1)), .map (some (w.heap.size+1+1)), .int .i64 0, .int .i64 0, .int .i64 0, .int .i64 0, .int .i64 0] 156);have b1:=Box.new w 194 (madeCells #[.pointer none] m);have m2:=MapW.new plV dpt (w.alloc (.cells (madeCells #[.pointer none] m) 194));have m3:=MapW.new strW sliV ((w.alloc (.cells (madeCells #[.pointer none] m) 194)).alloc (.map #[] 0));have b4:=Box.new (((w.alloc (.cells (madeCells #[.pointer none] m) 194)).alloc (.map #[] 0)).alloc (.map #[] 0)) 156 #[.pointer (some ⟨db,0,none⟩), .slice (some ⟨w.heap.size,0,none⟩) m m, .map (some (w.heap.size+1)), .map (some (w.heap.size+1+1)), .int .i64 0, .int .i64 0, .int .i64 0, .int .i64 0, .int .i64 0];have KK:=zK (zK (zK q1 q2) q3) q4;rw [zpy] at b1 m2 m3 b4 q1 q2 q3 q4 KK ⊢;have s2:(w.alloc (.cells (rowC (List.replicate m none)).toArray 194)).heap.size=w.heap.size+1:=by simp
   have s3:((w.alloc (.cells (rowC (List.replicate m none)).toArray 194)).alloc (.map #[] 0)).heap.size=w.heap.size+2:=(by simp);have s4:(((w.alloc (.cells (rowC (List.replicate m none)).toArray 194)).alloc (.map #[] 0)).alloc (.map #[] 0)).heap.size=w.heap.size+3:=by simp
   rw [s2] at m2;rw [s3] at m3;rw [s4] at b4;refine ⟨KK, .inl ⟨by omega,by omega,⟨w.heap.size+3,db,w.heap.size,w.heap.size+1,w.heap.size+2⟩,(fun i=>w.heap.size≤i∧i<w.heap.size+4),⟨fun _=>(none,0),fun _ _=>0,[]⟩,List.replicate m none,rfl,rfl,?_,?_⟩⟩
   ·rw [Int.toNat_natCast];exact zsi (p:=⟨d,[],[],0,0,0⟩) (B:=⟨w.heap.size+3,db,w.heap.size,w.heap.size+1,w.heap.size+2⟩) HD.out hm1 hm2 rfl rfl rfl rfl KK (by simp) (((b1.keep q2).keep q3).keep q4) b4 ((m2.keep q3).keep q4) (m3.keep q4)
   ·exact fun i hi=>hi.1
theorem zl5 (h:PHave K w0 w B Fd Fp X sl p):Calls Tryz.prog 88 #[.pointer (some ⟨B.pb,0,none⟩)] w fun e w'=>e = .returned (.int .i64 (p.fr.length:Int))∧Keeps w w':=by
 have p1:w.cell? ⟨B.pb,1,none⟩=some (.slice (some ⟨B.gr,0,none⟩) sl.length sl.length):=h.I.box.cell 1 rfl;have hl:p.fr.length=sl.length:=by rw [h.fr,zdg]
 rw [hl];clear h hl;go_enter Tryz.func88,Tryz.ntmps88;go_wp2;go_returns;exact ⟨rfl,zab _⟩
end
def Yes10 (w:World) (e:Ending) (w':World):Prop:=e = .returned (.bool true)∧Keeps w w'
def wkD:Ds:=⟨[],100,0,false⟩
def wkP1:Pst:=(zaA (newPl wkD 2) [97]).1
def wkP2:Pst:=(zah wkP1 [97] 0 [7]).1
def wkP3:Pst:=(zai wkP2 [97] 0).1
structure Stay (w0:World) (J:(Nat→Prop)→World→Prop):Prop where
 turn:∀ {S:Nat→Prop} {w w':World} {T:Nat→Prop},J S w→Only w w' T→(∀ i,T i→w0.heap.size≤i∧¬ S i)→J S w'
 lt:∀ {S:Nat→Prop} {w:World},J S w→∀ i,S i→i<w.heap.size
def zsX (w:World) (S:Nat→Prop) (J':(Nat→Prop)→World→Prop) (l:List UInt8) (n E:Int) (e:Ending) (w':World):Prop:=
 ∃ v S',e = .returned (.agg #[v, .int .i64 n, .int .i64 E])∧Own w' w.heap.size 5 1 v l.length (cel l)∧J' S' w'∧Turns w w' S S'∧(∀ g,v.ownBlock=some g→¬ S' g)
theorem Turns.put10 {w w':World} {F F':Nat→Prop} (t:Turns w w' F F') (p:Addr) (u:Value) (hp:w.heap.size≤p.block):Turns w (w'.setCell p u) F F':=
 ⟨t.only.trans (za7 w' p u) (fun i hi=>.inr (by rw [show i=p.block from hi];exact hp)),t.next⟩
section
variable {w0 w:World} {S:Nat→Prop} {J':(Nat→Prop)→World→Prop}
end
section
variable {w0 w:World} {S:Nat→Prop} {J':(Nat→Prop)→World→Prop}
end
section
variable {w0 w:World} {S:Nat→Prop} {J':(Nat→Prop)→World→Prop}
end
def NoJ (w0:World) (S:Nat→Prop) (w:World):Prop:=(∀ i,¬ S i)∧Keeps w0 w
structure Op10 where
 kind:Int
 name:List UInt8
 k:Int
 A:Option Addr
 len:Nat
 c:Nat
 b:List UInt8
def op10C (o:Op10):List Value:=[.int .i64 o.kind, .string (str o.name), .int .i64 o.k, .slice o.A o.len o.c]
structure Op10Ok (W:World) (o:Op10):Prop where
 kind:IsI o.kind
 name:o.name.length≤maxLen
 k:IsI o.k
 len:o.len=o.b.length
 c:o.len≤o.c
 m:o.c≤maxLen
 b:At W W.heap.size o.A (cel o.b)
structure Ops10At (W:World) (A:Option Addr) (l:List Op10):Prop where
 cells:At W W.heap.size A (l.flatMap op10C)
 ok:∀ o∈l,Op10Ok W o
structure Few10 (l:List Op10):Prop where
 most:l.length≤150
 each:∀ o∈l,o.len≤65536∧o.name.length≤65536
def zsP (w:World) (fr:Int) (l:List Op10) (e:Ending) (w':World):Prop:=∃ v,e = .returned (.bool v)∧Keeps w w'∧(v=false→Few10 l∧fr≤64)
end Go.Proofs.YtjpldnjldindkaaGreatDoor
