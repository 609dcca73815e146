/- What the calls of package disk answer; the anchor of layer 6's statements. -/
import Derived.Test.YtjpldnjldindkaaGreatDoorProg
import Derived.Test.YtjpldnjldindkaaGreatDoorQDiskMath
import Derived.Deep.RegionHeld3
set_option linter.all false
set_option maxRecDepth 100000
namespace Go.Proofs.YtjpldnjldindkaaGreatDoor
open Go.RowKit
def Yes (w:World) (e:Ending) (w':World):Prop:=e = .returned (.bool true)∧Keeps w w'
def dpt (b:Nat):Value:=.pointer (some ⟨b,0,none⟩)
def strV (l:List UInt8):Value:=.string (str l)
def intC (l:List Int):List Value:=l.map fun x=>.int .i64 x
def ze3 (p:List UInt8×Nat):List Value:=[strV p.1, .int .i64 (p.2:Int)]
def FilesAt (w:World) (base:Nat) (v:Value) (l:List (List UInt8×List UInt8)):Prop:=
 ∃ vs:List Value,vs.length=l.length∧Own w base 43 2 v l.length ((l.zip vs).flatMap fun p=>[strV p.1.1,p.2])∧
  ∀ (i:Nat) (b:List UInt8) (x:Value),(l[i]?).map Prod.snd=some b→vs[i]? = some x→Own w base 5 1 x b.length (cel b)
structure DiskOk where
 Z:World→Prop
 keep:∀ {w w':World},Z w→Keeps w w'→Z w'
 D:World→Nat→(Nat→Prop)→Ds→Prop
 lt:∀ {w:World} {b:Nat} {F:Nat→Prop} {s:Ds},D w b F s→∀ i,F i→i<w.heap.size
 same:∀ {w w':World} {b:Nat} {F:Nat→Prop} {s:Ds},D w b F s→(∀ i,F i→w'.heap[i]? = w.heap[i]?)→w.heap.size≤w'.heap.size→D w' b F s
 ok:∀ {w:World} {b:Nat} {F:Nat→Prop} {s:Ds},D w b F s→DsOk s
 new:∀ (q:Int) (w:World),Z w→-9223372036854775808≤q→q≤9223372036854775807→
  Calls Tryz.prog 45 #[.int .i64 q] w fun e w'=>
   (0≤q∧q≤1048576∧∃ b F,e = .returned (.tuple #[dpt b, .int .i64 0])∧D w' b F ⟨[],q.toNat,0,false⟩∧(∀ i,F i→w.heap.size≤i)∧Keeps w w')∨
   ((q<0∨1048576<q)∧e = .returned (.tuple #[.pointer none, .int .i64 1])∧Keeps w w')
 create:∀ {w:World} {b:Nat} {F:Nat→Prop} {s:Ds} (nm:List UInt8),Z w→D w b F s→nm.length≤maxLen→
  Calls Tryz.prog 108 #[dpt b,strV nm] w fun e w'=>e = .returned (.int .i64 ((zaw s nm).2:Int))∧∃ F',D w' b F' (zaw s nm).1∧Turns w w' F F'
 remove:∀ {w:World} {b:Nat} {F:Nat→Prop} {s:Ds} (nm:List UInt8),Z w→D w b F s→nm.length≤maxLen→
  Calls Tryz.prog 124 #[dpt b,strV nm] w fun e w'=>e = .returned (.int .i64 ((zaE s nm).2:Int))∧∃ F',D w' b F' (zaE s nm).1∧Turns w w' F F'
 write:∀ {w:World} {b:Nat} {F:Nat→Prop} {s:Ds} (nm:List UInt8) (off:Int) (A:Option Addr) (n c:Nat) (l:List UInt8),Z w→D w b F s→nm.length≤maxLen→-9223372036854775808≤off→off≤9223372036854775807→
  Bs w A l→(∀ ad,A=some ad→¬ F ad.block)→n=l.length→n≤c→n≤70000→
  Calls Tryz.prog 223 #[dpt b,strV nm, .int .i64 off, .slice A n c] w fun e w'=>e = .returned (.int .i64 ((zaN s nm off l).2:Int))∧∃ F',D w' b F' (zaN s nm off l).1∧Turns w w' F F'
 sync:∀ {w:World} {b:Nat} {F:Nat→Prop} {s:Ds} (nm:List UInt8),Z w→D w b F s→nm.length≤maxLen→
  Calls Tryz.prog 202 #[dpt b,strV nm] w fun e w'=>e = .returned (.int .i64 ((syncS s nm).2:Int))∧∃ F',D w' b F' (syncS s nm).1∧Turns w w' F F'
 read:∀ {w:World} {b:Nat} {F:Nat→Prop} {s:Ds} (nm:List UInt8) (off n:Int),Z w→D w b F s→nm.length≤maxLen→-9223372036854775808≤off→off≤9223372036854775807→-9223372036854775808≤n→n≤9223372036854775807→
  Calls Tryz.prog 243 #[dpt b,strV nm, .int .i64 off, .int .i64 n] w fun e w'=>∃ v,e = .returned (.tuple #[v, .int .i64 ((readS s nm off n).2:Int)])∧Own w' w.heap.size 5 1 v (readS s nm off n).1.length (cel (readS s nm off n).1)∧Keeps w w'
 size:∀ {w:World} {b:Nat} {F:Nat→Prop} {s:Ds} (nm:List UInt8),Z w→D w b F s→nm.length≤maxLen→
  Calls Tryz.prog 191 #[dpt b,strV nm] w fun e w'=>e = .returned (.tuple #[.int .i64 ((sizeS s nm).1:Int), .int .i64 ((sizeS s nm).2:Int)])∧Keeps w w'
 names:∀ {w:World} {b:Nat} {F:Nat→Prop} {s:Ds},Z w→D w b F s→s.l.length≤70000→
  Calls Tryz.prog 26 #[dpt b] w fun e w'=>∃ v,e = .returned v∧Own w' w.heap.size 9 1 v s.l.length (s.l.map fun f=>strV f.name)∧Keeps w w'
 used:∀ {w:World} {b:Nat} {F:Nat→Prop} {s:Ds},Z w→D w b F s→
  Calls Tryz.prog 252 #[dpt b] w fun e w'=>e = .returned (.int .i64 (usedL s.l:Int))∧Keeps w w'
 loose:∀ {w:World} {b:Nat} {F:Nat→Prop} {s:Ds},Z w→D w b F s→
  Calls Tryz.prog 13 #[dpt b] w fun e w'=>∃ v,e = .returned v∧Own w' w.heap.size 49 2 v (zaO s.l).length ((zaO s.l).flatMap ze3)∧Keeps w w'
 files:∀ {w:World} {b:Nat} {F:Nat→Prop} {s:Ds},Z w→D w b F s→s.l.length≤70000→
  Calls Tryz.prog 9 #[dpt b] w fun e w'=>∃ v,e = .returned v∧FilesAt w' w.heap.size v (s.l.map fun f=>(f.name,f.now))∧Keeps w w'
structure Have (K:DiskOk) (w0 w:World) (b:Nat) (F:Nat→Prop) (s:Ds):Prop where
 D:K.D w b F s
 low:∀ i,F i→w0.heap.size≤i
 kp:Keeps w0 w
theorem Have.step {K:DiskOk} {w0 w w':World} {b:Nat} {F F':Nat→Prop} {s s':Ds} (h:Have K w0 w b F s) (hD:K.D w' b F' s') (ht:Turns w w' F F'):Have K w0 w' b F' s':=
 ⟨hD,fun i hi=>by
  rcases ht.next i hi with h1|h1
  ·exact h.low i h1
  ·exact Nat.le_trans h.kp.size h1,ht.keeps h.kp h.low⟩
theorem Have.keep {K:DiskOk} {w0 w w':World} {b:Nat} {F:Nat→Prop} {s:Ds} (h:Have K w0 w b F s) (k:Keeps w w'):Have K w0 w' b F s:=
 ⟨K.same h.D (fun i hi=>k.block i (K.lt h.D i hi)) k.size,h.low,zK h.kp k⟩
theorem Have.z {K:DiskOk} {w0 w:World} {b:Nat} {F:Nat→Prop} {s:Ds} (h:Have K w0 w b F s) (hZ:K.Z w0):K.Z w:=K.keep hZ h.kp
theorem Turns.at_ {w w':World} {F F':Nat→Prop} {A:Option Addr} {xs:List Value} (h:Turns w w' F F') (hB:At w w.heap.size A xs) (hF:∀ ad,A=some ad→¬ F ad.block):At w' w'.heap.size A xs:=by
 rcases hB with h0|⟨ad,e,hb,hc⟩
 ·exact .inl h0
 ·refine .inr ⟨ad,e,Nat.lt_of_lt_of_le hb h.only.size,fun j u hu=>?_⟩;have hc':=hc j u hu;have e1:w'.heap[(ad.add j).block]? = w.heap[(ad.add j).block]?:=by rw [zbi];exact h.only.block _ hb (hF ad e)
  unfold World.cell? at hc' ⊢;rw [e1];exact hc'
theorem Own.turns {w w':World} {F F':Nat→Prop} {base:Nat} {e:TypeId} {size:Nat} {v:Value} {n:Nat} {xs:List Value} (h:Own w base e size v n xs) (ht:Turns w w' F F') (hF:∀ k,v.ownBlock=some k→¬ F k):Own w' base e size v n xs:=
 h.same fun k hk=>ht.only.block k (h.lt k hk).2 (hF k hk)
theorem zhY:(Tryz.prog.info? 5).map (fun i=>(i.zero,i.size,i.bytes))=some (some (.int .u8 0),1,1):=by kernel_rfl
theorem Turns.notIn {w w':World} {S S':Nat→Prop} (t:Turns w w' S S') {b:Nat} (hb:b<w.heap.size) (h:¬ S b):¬ S' b:=fun e=>by
 rcases t.next b e with h1|h1
 ·exact h h1
 ·omega
theorem Box.turned {w w':World} {S S':Nat→Prop} {b:Nat} {T:TypeId} {cs:Array Value} (B:Box w b T cs) (t:Turns w w' S S') (h:¬ S b):Box w' b T cs:=(t.only.block b B.lt h).trans B
theorem Only.weak {w w':World} {S T:Nat→Prop} (h:Only w w' S) (hT:∀ i,S i→T i):Only w w' T:=⟨h.os,h.tape,h.output,h.size,fun i hi hn=>h.block i hi (fun e=>hn (hT i e))⟩
structure OpS where
 x:Opx
 A:Option Addr
 len:Nat
 c:Nat
 A2:Option Addr
 len2:Nat
 c2:Nat
def opA (o:OpS):Array Value:=#[.int .i64 o.x.kind,strV o.x.name,strV o.x.to, .int .i64 o.x.off, .int .i64 o.x.n, .slice o.A o.len o.c, .int .u8 (o.x.mask.toNat:Int), .slice o.A2 o.len2 o.c2]
def IsI (x:Int):Prop:=-9223372036854775808≤x∧x≤9223372036854775807
structure OpOk (W:World) (o:OpS):Prop where
 kind:IsI o.x.kind
 nm:o.x.name.length≤maxLen
 to:o.x.to.length≤maxLen
 off:IsI o.x.off
 n:IsI o.x.n
 len:o.len=o.x.b.length
 c:o.len≤o.c
 m:o.c≤maxLen
 b:At W W.heap.size o.A (cel o.x.b)
 len2:o.len2=o.x.keep.length
 c2:o.len2≤o.c2
 m2:o.c2≤maxLen
 keep:At W W.heap.size o.A2 (intC o.x.keep)
def DoneV (K:DiskOk) (w:World) (b:Nat) (F:Nat→Prop) (s:Ds) (o:Opx) (e:Ending) (w':World):Prop:=
 ∃ v F',e = .returned (.tuple #[.agg #[v, .int .i64 ((doS s o).2.n:Int), .int .i64 ((doS s o).2.e:Int)], .bool true])∧Own w' w.heap.size 5 1 v (doS s o).2.b.length (cel (doS s o).2.b)∧
  K.D w' b F' (doS s o).1∧Turns w w' F F'∧(∀ k,v.ownBlock=some k→¬ F' k)
theorem zpf:(Tryz.prog.info? 3).map (fun i=>(i.zero,i.size,i.bytes))=some (some (.int .i64 0),1,8):=by kernel_rfl
theorem Box.only_ {w w':World} {S:Nat→Prop} {b:Nat} {T:TypeId} {cs:Array Value} (h:Box w b T cs) (ho:Only w w' S) (hS:¬ S b):Box w' b T cs:=(ho.block b h.lt hS).trans h
structure Over (w3 wr:World) (base:Nat) (v:Value) (n:Nat):Prop where
 own:∃ xs,Own wr base 5 1 v n xs
 only:Only w3 wr (fun c=>v.ownBlock=some c)
def wk1:Ds:=(zaw ⟨[],4,0,false⟩ [97]).1
def wk2:Ds:=(zaN wk1 [97] 0 [7,8]).1
def wk3:Ds:=(syncS wk2 [97]).1
section
variable {K:DiskOk} {w0 w:World} {b:Nat} {F:Nat→Prop} {s:Ds}
def Went (K:DiskOk) (w0:World) (b:Nat) (s':Ds) (E:Nat) (e:Ending) (w':World):Prop:=e = .returned (.int .i64 (E:Int))∧∃ F',Have K w0 w' b F' s'
def WentR (K:DiskOk) (w0 w:World) (b:Nat) (F:Nat→Prop) (s:Ds) (l:List UInt8) (E:Nat) (e:Ending) (w':World):Prop:=∃ A c,e = .returned (.tuple #[.slice A l.length c, .int .i64 (E:Int)])∧l.length≤c∧Own w' w.heap.size 5 1 (.slice A l.length c) l.length (cel l)∧Have K w0 w' b F s∧Keeps w w'
theorem Have.read_ (h:Have K w0 w b F s) (hZ:K.Z w0) (nm:List UInt8) (off n:Int) (hoff:IsI off) (hn:IsI n) (sv:ByteArray) (hv:sv=str nm) {l:List UInt8} {E:Nat} (hs:readS s nm off n=(l,E)) (hnm:nm.length≤maxLen:=by decide) :
 Calls Tryz.prog 243 #[.pointer (some ⟨b,0,none⟩), .string sv, .int .i64 off, .int .i64 n] w (WentR K w0 w b F s l E):=by
 subst hv;have:=K.read nm off n (h.z hZ) h.D hnm hoff.1 hoff.2 hn.1 hn.2;rw [hs] at this;exact this.mono fun e w' q=>by
  obtain ⟨v,he,ho,hk⟩:=q;obtain ⟨A,c,rfl,hc,-⟩:=ho.form;exact ⟨A,c,he,hc,ho,h.keep hk,hk⟩
theorem Have.size_ (h:Have K w0 w b F s) (hZ:K.Z w0) (nm:List UInt8) (sv:ByteArray) (hv:sv=str nm) {n E:Nat} (hs:sizeS s nm=(n,E)) (hnm:nm.length≤maxLen:=by decide) :
 Calls Tryz.prog 191 #[.pointer (some ⟨b,0,none⟩), .string sv] w fun e w'=>e = .returned (.tuple #[.int .i64 (n:Int), .int .i64 (E:Int)])∧Have K w0 w' b F s∧Keeps w w':=by
 subst hv;have:=K.size nm (h.z hZ) h.D hnm;rw [hs] at this;exact this.mono fun e w' q=>⟨q.1,h.keep q.2,q.2⟩
end
def fA (l:List UInt8):Fl:=⟨[97],l,l,fun _=>false⟩
def fC (l:List UInt8) (k:Nat):Fl:=cutF (fA l) k
structure Tn (first:List UInt8) (i:Nat) (f:Fl):Prop where
 name:f.name=[97]
 lasts:f.lasts=first
 ge:first.length≤f.now.length
 le:f.now.length≤4096+1024*i
section
variable {K:DiskOk} {w0 w:World} {b:Nat} {F:Nat→Prop} {s:Ds}
def WentT (K:DiskOk) (w0 w:World) (b:Nat) (F:Nat→Prop) (s':Ds) (E:Nat) (e:Ending) (w':World):Prop:=e = .returned (.int .i64 (E:Int))∧∃ F',Have K w0 w' b F' s'∧Turns w w' F F'
end
def anyK (lf:List Nat) (keep:List Int) (s:Nat):Nat→Bool
 | 0=>false
 | k+1=>anyK lf keep s k||(decide (lf[k]? = some s)&&keep.contains (k:Int))
def u16C (l:List Nat):List Value:=l.map fun (x:Nat)=>.int .u16 (x:Int)
def opC (o:OpS):List Value:=[.int .i64 o.x.kind,strV o.x.name,strV o.x.to, .int .i64 o.x.off, .int .i64 o.x.n, .slice o.A o.len o.c, .int .u8 (o.x.mask.toNat:Int), .slice o.A2 o.len2 o.c2]
structure OpsAt (W:World) (A:Option Addr) (l:List OpS):Prop where
 cells:At W W.heap.size A (l.flatMap opC)
 ok:∀ o∈l,OpOk W o
structure Few (l:List OpS):Prop where
 most:l.length≤150
 each:∀ o∈l,o.len≤65536∧o.len2≤65536∧o.x.name.length≤65536∧o.x.to.length≤65536
def VastV (w:World) (l:List OpS) (e:Ending) (w':World):Prop:=∃ v:Bool,e = .returned (.bool v)∧Keeps w w'∧(v=false→Few l)
def runS (s:Ds) (l:List OpS):Ds:=l.foldl (fun s o=>(doS s o.x).1) s
def zsO (K:DiskOk) (w:World) (q:Int) (l:List OpS) (e:Ending) (w':World):Prop:=
 (∃ b F,0≤q∧q≤1048576∧e = .returned (.pointer (some ⟨b,0,none⟩))∧Have K w w' b F (runS ⟨[],q.toNat,0,false⟩ l))∨((q<0∨1048576<q)∧e = .returned (.pointer none)∧Keeps w w')
def lookF (l:List (List UInt8×List UInt8)) (nm:List UInt8):Option (List UInt8):=(l.find? fun p=>decide (p.1=nm)).map Prod.snd
theorem FilesAt.keep {w w':World} {base:Nat} {v:Value} {l:List (List UInt8×List UInt8)} (h:FilesAt w base v l) (k:Keeps w w'):FilesAt w' base v l:=by
 obtain ⟨vs,h1,h2,h3⟩:=h;exact ⟨vs,h1,h2.keep k,fun i b x hi hx=>(h3 i b x hi hx).keep k⟩
theorem zfI (l:List (List UInt8×List UInt8)) (vs:List Value) (h:vs.length=l.length) (i:Nat) (p:List UInt8×List UInt8) (hp:l[i]? = some p) :
 ∃ x,vs[i]? = some x∧((l.zip vs).flatMap fun p=>[strV p.1.1,p.2])[i*2]? = some (strV p.1)∧((l.zip vs).flatMap fun p=>[strV p.1.1,p.2])[i*2+1]? = some x:=by
 have hi:i<l.length:=(zI9.1 hp).1;have hx:i<vs.length:=by omega
 refine ⟨vs[i],zG9 hx,?_,?_⟩
 ·have:=zaZ (fun p:(List UInt8×List UInt8)×Value=>[strV p.1.1,p.2]) 2 (fun _=>rfl) (l.zip vs) (i:=i) (j:=0) (by decide);rw [Nat.add_zero] at this;rw [this,show (l.zip vs)[i]? = some (p,vs[i]) from List.getElem?_zip_eq_some.2 ⟨hp,zG9 hx⟩];rfl
 ·have:=zaZ (fun p:(List UInt8×List UInt8)×Value=>[strV p.1.1,p.2]) 2 (fun _=>rfl) (l.zip vs) (i:=i) (j:=1) (by decide);rw [this,show (l.zip vs)[i]? = some (p,vs[i]) from List.getElem?_zip_eq_some.2 ⟨hp,zG9 hx⟩];rfl
theorem zpg {l:List (List UInt8×List UInt8)} {nm:List UInt8} {i:Nat} {p:List UInt8×List UInt8} (hp:l[i]? = some p) (hn:p.1=nm) (hb:∀ (j:Nat) (q:List UInt8×List UInt8),j<i→l[j]? = some q→q.1≠nm):lookF l nm=some p.2:=by
 induction l generalizing i with
 | nil=>simp at hp
 | cons a l ih=>
  unfold lookF;rw [List.find?_cons];rcases i with _|i
  ·simp only [List.getElem?_cons_zero,Option.some.injEq] at hp;subst hp;simp [hn]
  ·have h0:=hb 0 a (by omega) rfl;simp only [h0,decide_false];exact ih (by simpa using hp) (fun j q hj hq=>hb (j+1) q (by omega) (by simpa using hq))
theorem zlQ {l:List (List UInt8×List UInt8)} {nm:List UInt8} (hb:∀ (j:Nat) (q:List UInt8×List UInt8),l[j]? = some q→q.1≠nm):lookF l nm=none:=by
 unfold lookF;rw [List.find?_eq_none.2]
 ·rfl
 ·intro p hp;obtain ⟨j,hj⟩:=List.getElem?_of_mem hp;simpa using hb j p hj
def LookV (w:World) (base:Nat) (r:Option (List UInt8)) (e:Ending) (w':World):Prop:=
 Keeps w w'∧match r with
 | some b=>∃ A c,e = .returned (.tuple #[.slice A b.length c, .bool true])∧Own w' base 5 1 (.slice A b.length c) b.length (cel b)
 | none=>e = .returned (.tuple #[.slice none 0 0, .bool false])
theorem zsf (a b:List UInt8):((str a).toList == (str b).toList)=decide (a=b):=by
 rw [zaL,zaL];by_cases h:a=b<;>simp [h]
end Go.Proofs.YtjpldnjldindkaaGreatDoor
