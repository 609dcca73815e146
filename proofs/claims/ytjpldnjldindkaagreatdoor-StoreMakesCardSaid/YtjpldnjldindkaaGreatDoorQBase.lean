/- Words and laws of no program: bytes that a slice holds in memory, rows that a call made itself (whatever mark they bear), numbers as bytes. -/
import Derived.WalkKit
import Derived.WalkSpells
import Derived.WalkLawsBesides
import Derived.Handy
import Derived.Lib.ConvBytes
import Derived.Lib.Hide
import Derived.Maps.AppendAt
import Derived.RegionTactic
import Derived.OwnWalk
import Derived.Laws.BytesArg
import Derived.Deep.Draws
import Derived.Deep.QuietTactic
import Derived.BigQuiet
import Derived.Deep.RegionWith
import Derived.StillTailTactics
import Derived.Deep.Slices
import Derived.Deep.Fields
import Derived.ChangeSame
import Derived.OpenShut
import Derived.Laws.Rows
set_option linter.all false
set_option maxRecDepth 100000
namespace Go.Proofs.YtjpldnjldindkaaGreatDoor
open Go.RowKit
abbrev Keeps (w w':World):Prop:=Below w.heap.size w w'
theorem zab (w:World):Keeps w w:=Below.refl _ _
theorem zkd {a b c:World} (h:Keeps a b) (k:Keeps b c):Keeps a c:=Below.trans h (k.mono h.size)
theorem zam (w:World) (n:Nat):Keeps w (w.drewN n):=⟨rfl,rfl,rfl,Nat.le_refl _,fun _ _=>rfl⟩
theorem zlj (w:World):Keeps w w.drew:=⟨rfl,rfl,rfl,Nat.le_refl _,fun _ _=>rfl⟩
theorem zke (w:World) (o:Obj):Keeps w (w.alloc o):=(Below.refl _ _).alloc (Nat.le_refl _) o
theorem zcS {w w':World} {row:Option Nat} (h:w.grownBy w' row) (B:Nat) (hB:B≤w.heap.size) (hr:∀ k,row=some k→B≤k):Below B w w':=(Below.refl B w).grown h hB hr
theorem zoJ {B:Nat} {w w':World} (h:Below B w w') (hB:w.heap.size≤B):Keeps w w':=h.mono hB
theorem Keeps.cellOf {w w':World} (h:Keeps w w') {p:Addr} {v:Value} (hc:w.cell? p=some v):w'.cell? p=some v:=by
 rw [h.cell (block_lt_of_cell hc)];exact hc
def cel (l:List UInt8):List Value:=l.map fun b=>.int .u8 (b.toNat:Int)
theorem zaq (l:List UInt8):(cel l).length=l.length:=by simp [cel]
theorem zax (l m:List UInt8):cel (l++m)=cel l++cel m:=by simp [cel]
theorem zfS (l:List UInt8) (k:Nat):cel (l.take k)=(cel l).take k:=by simp [cel,List.map_take]
theorem zfT (l:List UInt8) (k:Nat):cel (l.drop k)=(cel l).drop k:=by simp [cel,List.map_drop]
theorem zqB (l:List UInt8) {j:Nat} (h:j<l.length):(cel l)[j]? = some (.int .u8 ((l.getD j 0).toNat:Int)):=by
 simp [cel,List.getD,h]
theorem za3 (l:List UInt8):∀ u∈cel l,u.oneCell'=true:=by
 intro u hu;obtain ⟨_,_,rfl⟩:=List.mem_map.1 hu;rfl
def At (w:World) (B:Nat) (A:Option Addr) (xs:List Value):Prop:=
 xs=[]∨∃ ad,A=some ad∧ad.block<B∧∀ j u,xs[j]? = some u→w.cell? (ad.add j)=some u
theorem zbi (a:Addr) (n:Nat):(a.add n).block=a.block:=by unfold Addr.add; split<;>rfl
theorem zcw (a:Addr) (i j:Nat):(a.add i).add j=a.add (i+j):=by
 unfold Addr.add;rcases Nat.eq_zero_or_pos i with hi|hi<;>rcases Nat.eq_zero_or_pos j with hj|hj
 ·simp [hi,hj]
 ·simp [hi]
 ·simp [hj]
 ·rw [if_neg (by omega),if_neg (by omega),if_neg (by omega)];simp [Nat.add_assoc]
theorem At.nil (w:World) (B:Nat) (A:Option Addr):At w B A []:=.inl rfl
theorem At.get {w:World} {B:Nat} {A:Option Addr} {xs:List Value} (h:At w B A xs) {k:Nat} (hk:k<xs.length) :
 ∃ ad,A=some ad∧ad.block<B∧w.cell? (ad.add k)=xs[k]?:=by
 rcases h with rfl|⟨ad,e,hb,hc⟩
 ·simp at hk
 ·exact ⟨ad,e,hb,by rw [List.getElem?_eq_getElem hk];exact hc k _ (List.getElem?_eq_getElem hk)⟩
theorem At.keep {w w':World} {B:Nat} {A:Option Addr} {xs:List Value} (h:At w B A xs) (k:Below B w w'):At w' B A xs:=by
 rcases h with rfl|⟨ad,e,hb,hc⟩
 ·exact .inl rfl
 ·exact .inr ⟨ad,e,hb,fun j u hu=>(k.cell (by rw [zbi];exact hb)).trans (hc j u hu)⟩
theorem At.more {w:World} {B B':Nat} {A:Option Addr} {xs:List Value} (h:At w B A xs) (hB:B≤B'):At w B' A xs:=by
 rcases h with rfl|⟨ad,e,hb,hc⟩
 ·exact .inl rfl
 ·exact .inr ⟨ad,e,by omega,hc⟩
theorem At.take {w:World} {B:Nat} {A:Option Addr} {xs:List Value} (h:At w B A xs) (k:Nat):At w B A (xs.take k):=by
 rcases h with rfl|⟨ad,e,hb,hc⟩
 ·simp [At]
 ·refine .inr ⟨ad,e,hb,fun j u hu=>hc j u ?_⟩;rw [List.getElem?_take] at hu;split at hu
  ·exact hu
  ·cases hu
theorem At.drop {w:World} {B:Nat} {ad:Addr} {xs:List Value} (h:At w B (some ad) xs) (k:Nat):At w B (some (ad.add k)) (xs.drop k):=by
 rcases h with rfl|⟨ad',e,hb,hc⟩
 ·simp [At]
 ·obtain rfl:=Option.some.inj e;refine .inr ⟨_,rfl,by rw [zbi];exact hb,fun j u hu=>?_⟩;rw [zcw];exact hc _ _ (by rw [←hu,List.getElem?_drop])
def Bs (w:World) (A:Option Addr) (l:List UInt8):Prop:=At w w.heap.size A (cel l)
theorem Bs.keep {w w':World} {A:Option Addr} {l:List UInt8} (h:Bs w A l) (k:Keeps w w'):Bs w' A l:=(At.keep h k).more k.size
theorem Bs.nil (w:World) (A:Option Addr):Bs w A []:=At.nil _ _ _
theorem Bs.take {w:World} {A:Option Addr} {l:List UInt8} (h:Bs w A l) (k:Nat):Bs w A (l.take k):=by
 unfold Bs;rw [zfS];exact At.take h k
theorem Bs.drop {w:World} {ad:Addr} {l:List UInt8} (h:Bs w (some ad) l) (k:Nat):Bs w (some (ad.add k)) (l.drop k):=by
 unfold Bs;rw [zfT];exact At.drop h k
theorem Bs.at_ {w:World} {A:Option Addr} {l:List UInt8} (h:Bs w A l) {k:Nat} (hk:k<l.length) :
 ∃ ad,A=some ad∧w.cell? (ad.add k)=some (.int .u8 ((l.getD k 0).toNat:Int)):=by
 obtain ⟨ad,e,_,hc⟩:=At.get h (k:=k) (by rw [zaq];exact hk);exact ⟨ad,e,by rw [hc,zqB l hk]⟩
theorem Bs.some_ {w:World} {A:Option Addr} {l:List UInt8} (h:Bs w A l) (hl:0<l.length):∃ ad,A=some ad:=by
 obtain ⟨ad,e,_⟩:=h.at_ hl;exact ⟨ad,e⟩
def str (l:List UInt8):ByteArray:=⟨l.toArray⟩
theorem zqC {l m:List UInt8} (h:str l=str m):l=m:=by
 have:=congrArg (fun b:ByteArray=>b.data.toList) h;simpa [str] using this
theorem zaJ (l:List UInt8):(str l).size=l.length:=by simp [str,ByteArray.size]
theorem zdh (l:List UInt8):(str l).data.toList=l:=by simp [str]
theorem zaL (l:List UInt8):(str l).toList=l:=by
 have:=ByteArray.toList_mk l;exact this
section
variable {P:Program}
theorem zhd (w:World) (src e dst:TypeId) (hs:P.underlying src=some (.slice e)) (he:P.underlying e=some (.int .u8)) (hd:P.underlying dst=some .string)
 (A:Option Addr) (l:List UInt8) (n cap:Nat) (hn:n=l.length) (h:Bs w A l):(convert src dst (.slice A n cap)).run P w = .ok (.string (str l)) w:=by
 subst hn;rcases A with _|ad
 ·rw [run_convert_bytes_nil w src e hs he l.length cap dst hd];rcases l with _|⟨b,l⟩
  ·rfl
  ·obtain ⟨ad,e,_⟩:=h.at_ (k:=0) (by simp);cases e
 ·have hl:(loadCells ad l.length).run P w = .ok (((l.map fun b=>(b.toNat:Int)).map (Value.int .u8)).toArray) w:=by
   have hc:∀ j v,(cel l)[j]? = some v→w.cell? (ad.add j)=some v:=by
    intro j v hj;rcases h with h|⟨ad',e,_,hc⟩
    ·rw [h] at hj;simp at hj
    ·obtain rfl:=Option.some.inj e;exact hc j v hj
   have:=run_loadCells_list (P:=P) w ad (cel l) hc;rw [zaq] at this;rw [this];simp [cel,Function.comp_def]
  rw [run_convert_bytes_string w src dst e _ l.length cap hs he hd,run_bytesToString w ad l.length cap _ hl,foldl_push_bytes];have e1:(l.map fun b=>(b.toNat:Int)).map (fun n:Int=>UInt8.ofNat n.toNat)=l:=by
   simp [List.map_map,Function.comp_def]
  rw [e1];simp [str,ByteArray.empty,ByteArray.emptyWithCapacity];rfl
end
def Own (w:World) (base:Nat) (e:TypeId) (size:Nat) (v:Value) (n:Nat) (xs:List Value):Prop:=
 xs.length=n*size∧((v = .slice none 0 0∧n=0)∨
  ∃ g cap cur fz,v = .slice (some ⟨g,0,none⟩) n cap∧base≤g∧w.heap[g]? = some (.cells cur e fz)∧(fz.2=0∨cur.size≤fz.1)∧n≤cap∧cap≤maxLen∧cur.size=cap*size∧cur.toList.take (n*size)=xs)
theorem Own.nil (w:World) (base:Nat) (e:TypeId) (size:Nat):Own w base e size (.slice none 0 0) 0 []:=⟨by simp, .inl ⟨rfl,rfl⟩⟩
theorem Own.of_row {w:World} {base:Nat} {e:TypeId} {size:Nat} {v:Value} {n:Nat} {xs:List Value} (h:w.ownsRow base e size v n xs):Own w base e size v n xs:=by
 refine ⟨h.1,?_⟩;rcases h.2 with h0|⟨g,cap,cur,hv,hb,hg,h1,h2,h3,h4⟩
 ·exact .inl h0
 ·exact .inr ⟨g,cap,cur,(0,0),hv,hb,hg, .inl rfl,h1,h2,h3,h4⟩
section
variable {w w':World} {base:Nat} {e:TypeId} {size:Nat} {v:Value} {n:Nat} {xs:List Value}
theorem Own.lt (h:Own w base e size v n xs):∀ k,v.ownBlock=some k→base≤k∧k<w.heap.size:=by
 intro k hk;rcases h.2 with ⟨rfl,_⟩|⟨g,cap,cur,fz,rfl,hb,hg,_⟩
 ·simp [Value.ownBlock] at hk
 ·simp only [Value.ownBlock,Option.some.injEq] at hk;subst hk;exact ⟨hb,(Array.getElem?_eq_some_iff.1 hg).1⟩
theorem Own.base_le {base':Nat} (h:Own w base e size v n xs) (hb:base'≤base):Own w base' e size v n xs:=by
 refine ⟨h.1,?_⟩;rcases h.2 with h0|⟨g,cap,cur,fz,hv,hbg,r⟩
 ·exact .inl h0
 ·exact .inr ⟨g,cap,cur,fz,hv,by omega,r⟩
theorem Own.same (h:Own w base e size v n xs) (hk:∀ k,v.ownBlock=some k→w'.heap[k]? = w.heap[k]?):Own w' base e size v n xs:=by
 refine ⟨h.1,?_⟩;rcases h.2 with h0|⟨g,cap,cur,fz,rfl,hbg,hg,r⟩
 ·exact .inl h0
 ·exact .inr ⟨g,cap,cur,fz,rfl,hbg,(hk g rfl).trans hg,r⟩
theorem Own.keep (h:Own w base e size v n xs) (k:Keeps w w'):Own w' base e size v n xs:=h.same fun g hg=>k.block g (h.lt g hg).2
theorem Own.grown {row:Option Nat} (h:Own w base e size v n xs) (hg:w.grownBy w' row) (hne:v.ownBlock=none∨v.ownBlock≠row):Own w' base e size v n xs:=
 h.same fun g hh=>hg.block g (h.lt g hh).2 (by rcases hne with h1|h1<;>simp_all)
theorem Own.form (h:Own w base e size v n xs):∃ A cap,v = .slice A n cap∧n≤cap∧cap≤maxLen∧(A=none→n=0∧cap=0)∧(∀ ad,A=some ad→v.ownBlock=some ad.block∧base≤ad.block∧ad.block<w.heap.size):=by
 rcases h.2 with ⟨rfl,rfl⟩|⟨g,cap,cur,fz,rfl,hb,hg,hz,h1,h2,h3,h4⟩
 ·exact ⟨none,0,rfl,Nat.le_refl _,by simp [maxLen],fun _=>⟨rfl,rfl⟩,fun _ h=>by cases h⟩
 ·exact ⟨_,cap,rfl,h1,h2,fun h=>(by cases h),fun ad h=>by cases h;exact ⟨rfl,hb,(Array.getElem?_eq_some_iff.1 hg).1⟩⟩
theorem Own.at_ {A:Option Addr} {cap:Nat} (h:Own w base e size (.slice A n cap) n xs):At w w.heap.size A xs:=by
 rcases h.2 with ⟨hv,h0⟩|⟨g,cap',cur,fz,hv,hb,hg,hz,h1,h2,h3,h4⟩
 ·left;have:=h.1;rw [h0] at this;exact List.eq_nil_of_length_eq_zero (by simpa using this)
 ·right;have hA:A=some ⟨g,0,none⟩:=(by injection hv);refine ⟨_,hA,(Array.getElem?_eq_some_iff.1 hg).1,fun j u hu=>?_⟩;rw [Addr.add_lit,Nat.zero_add,cell_of_row w g j cur e fz hg];rw [←h4,List.getElem?_take] at hu;split at hu
  ·simpa using hu
  ·cases hu
end
theorem zcx (P:Program) (g o:Nat) (t:TypeId) (fz:Nat×Nat):∀ (vs:List Value) (i:Nat) (cur:Array Value) (w:World),w.heap[g]? = some (.cells cur t fz)→(fz.2=0∨cur.size≤fz.1)→
 o+i+vs.length≤cur.size→(∀ v∈vs,v.oneCell'=true)→
 (storeCells ⟨g,o,none⟩ vs i).run P w = .ok () (w.setRow g (cur.toList.take (o+i)++vs++cur.toList.drop (o+i+vs.length)).toArray):=by
 intro vs;induction vs with
 | nil=>
  intro i cur w hg _ _ _;simp only [storeCells,List.append_nil,List.length_nil,Nat.add_zero,List.take_append_drop,Array.toArray_toList];rw [setRow_self w g cur t fz hg];rfl
 | cons v rest ih=>
  intro i cur w hg hfz hl h1;have hlen:(v::rest).length=rest.length+1:=rfl;have hi:o+i<cur.size:=by omega
  have hadd:(⟨g,o,none⟩:Addr).add i=⟨g,o+i,none⟩:=Addr.add_lit ..;have hcell:w.cell? ⟨g,o+i,none⟩=some cur[o+i]:=by rw [cell_of_row w g _ cur t fz hg];exact Array.getElem?_eq_getElem hi
  have hfro:w.frozen? ⟨g,o+i,none⟩=false:=by
   obtain ⟨lo,hi'⟩:=fz;simp only [World.frozen?,hg,Bool.and_eq_false_iff,decide_eq_false_iff_not];rcases hfz with hfz|hfz
   ·right;simp only at hfz;omega
   ·left;simp only at hfz;omega
  have hst:(store ((⟨g,o,none⟩:Addr).add i) v).run P w = .ok () (w.setRow g (cur.setIfInBounds (o+i) v)):=by
   rw [hadd,run_store P w _ v _ (h1 v (by simp)),hcell];simp [hfro,setCell_eq_setRow w g (o+i) cur t fz v hg]
  have hsz:(cur.setIfInBounds (o+i) v).size=cur.size:=by simp
  have ih':=ih (i+1) (cur.setIfInBounds (o+i) v) (w.setRow g (cur.setIfInBounds (o+i) v)) (setRow_heap w g cur _ t _ hg) (by rw [hsz]; rcases hfz with h|h<;>omega) (by rw [hsz]; omega) (fun x hx=>h1 x (by simp [hx]));simp only [storeCells,Sem.run_bind,hst,Result.andThen_ok,ih',setRow_setRow];congr 3
  have e:=list_seg_step cur.toList (o+i) v rest (by simp at hl ⊢;omega);simpa [Array.toList_setIfInBounds,Nat.add_assoc] using e
def Pre (w w':World) (row:Option Nat) (m:Nat):Prop:=∀ g,row=some g→∃ cur cur' e fz,w.heap[g]? = some (.cells cur e fz)∧w'.heap[g]? = some (.cells cur' e fz)∧cur'.size=cur.size∧cur'.toList.take m=cur.toList.take m
theorem Pre.refl {w:World} {row:Option Nat} (h:∀ g,row=some g→∃ cur e fz,w.heap[g]? = some (.cells cur e fz)) (m:Nat):Pre w w row m:=fun g hg=>by
 obtain ⟨cur,e,fz,hh⟩:=h g hg;exact ⟨cur,cur,e,fz,hh,hh,rfl,rfl⟩
section
variable {P:Program} (w:World)
theorem zkQ (base:Nat) (t ty e:TypeId) (i:TypeInfo) (z:Value) (size bytes:Nat) (ht:P.underlying t=some (.slice e)) (hi:P.info? e=some i) (hz:i.zero=some z)
 (hsize:i.size=size) (hby:i.bytes=bytes) (hzs:z.cells.size=size) (hsz:0<size)
 (v:Value) (n:Nat) (xs:List Value) (hown:Own w base e size v n xs)
 (B:Nat) (A:Option Addr) (m c:Nat) (news:List Value) (hm:news.length=m*size) (hr:At w B A news) (h1:∀ u∈news,u.oneCell'=true)
 (h63:n+m≤maxLen) (hbytes:(n+m)*bytes≤140737488355328) (hbase:base≤w.heap.size) :
 ∃ v' w',(Builtin.append_ #[t,t] ty #[v, .slice A m c]).run P w = .ok v' w'∧Own w' base e size v' (n+m) (xs++news)∧w.grownBy w' v.ownBlock∧
  (v'.ownBlock=v.ownBlock∨v'.ownBlock=some w.heap.size)∧Pre w w' v.ownBlock (n*size):=by
 subst hsize;subst hby
 rcases Nat.eq_zero_or_pos m with h0|hpos
 ·subst h0;have hn:news=[]:=List.eq_nil_of_length_eq_zero (by simpa using hm);subst hn;refine ⟨v,w,?_,by simpa using hown,World.grownBy.refl w _, .inl rfl,Pre.refl (fun g hg=>by rcases hown.2 with ⟨rfl,_⟩|⟨g',cap,cur,fz,rfl,_,hgg,_⟩<;>simp [Value.ownBlock] at hg; subst hg; exact ⟨_,_,_,hgg⟩) _⟩;have hf:∀ W:World,(Builtin.firstCells i.size 0 (.slice A 0 c)).run P W = .ok #[] W:=by
   intro W;cases A with
   | none=>simp [Builtin.firstCells]
   | some ad=>exact run_firstCells_some (P:=P) W i.size 0 ad 0 c [] (by simp) (by simp)
  rcases hown.2 with ⟨rfl,rfl⟩|⟨g,cap,cur,fz,rfl,_,_,_,hnc,_⟩
  ·simp [Builtin.append_,run_underlying ht,sizeOf,typeInfo,hi,Builtin.lenOf,hf]
  ·simp [Builtin.append_,run_underlying ht,sizeOf,typeInfo,hi,Builtin.lenOf,hf,hnc,storeCells]
 ·obtain ⟨ad,rfl,hnews⟩:∃ ad,A=some ad∧∀ j u,news[j]? = some u→w.cell? (ad.add j)=some u:=by
   rcases hr with hr|⟨ad,e,_,hc⟩
   ·subst hr;have hp:0<m*i.size:=Nat.mul_pos hpos hsz;simp at hm;omega
   ·exact ⟨ad,e,hc⟩
  have hsmall:n+m≤9223372036854775807:=by simp only [maxLen] at h63;omega
  have hlen:(xs++news).length=(n+m)*i.size:=(by rw [List.length_append,hown.1,hm,Nat.add_mul]);have made:∀ (old:Nat),∀ (row:Option Nat),
   Own (w.drew.alloc (.cells (xs.toArray++news.toArray++Builtin.zeroCells z.cells (grownCap w (n+m) old e-(n+m))) e)) base e i.size
    (.slice (some ⟨w.heap.size,0,none⟩) (n+m) (grownCap w (n+m) old e)) (n+m) (xs++news)∧
   w.grownBy (w.drew.alloc (.cells (xs.toArray++news.toArray++Builtin.zeroCells z.cells (grownCap w (n+m) old e-(n+m))) e)) row:=by
   intro old row;have hge:=grownCap_ge w (n+m) old e;have hcm:grownCap w (n+m) old e≤maxLen:=grownCap_le_maxLen w (n+m) old e h63;refine ⟨⟨hlen, .inr ⟨w.heap.size,_,_,_,rfl,hbase,heap_alloc_new w.drew _, .inl rfl,hge,hcm,?_,?_⟩⟩,⟨rfl,rfl,rfl,by simp,fun k hk _=>_root_.Go.heap_alloc_old w.drew _ hk⟩⟩
   ·simp only [Array.size_append,List.size_toArray,size_zeroCells,hzs,hown.1,hm,←Nat.add_mul];congr 1
    omega
   ·simp only [Array.toList_append,List.append_assoc];rw [←List.append_assoc,←hlen];exact List.take_left
  rcases hown.2 with ⟨rfl,rfl⟩|⟨g,cap,cur,fz,rfl,hbg,hg,hfz,hnc,hcm,hcs,htake⟩
  ·have hx:xs=[]:=List.eq_nil_of_length_eq_zero (by simpa using hown.1);subst hx;have hrun:=run_append_nil (P:=P) w t ty e i z ht hi hz ad m c news hm hnews hpos (by omega) (by have hb:=hbytes;simp only [Nat.zero_add] at hb;omega);have hgr:=made 0 (Value.ownBlock (.slice none 0 0));simp only [Nat.zero_add,List.nil_append,Array.empty_append] at hgr ⊢;exact ⟨_,_,hrun,hgr.1,hgr.2, .inr rfl,fun _ h=>by cases h⟩
  ·by_cases hroom:n+m≤cap
   ·have hfit:n*i.size+news.length≤cur.size:=by rw [hm,hcs,←Nat.add_mul];exact Nat.mul_le_mul_right _ hroom
    have hf:=run_firstCells_some (P:=P) w i.size m ad m c news hm hnews;have hst:=zcx P g (n*i.size) e fz news 0 cur w hg hfz (by simpa using hfit) h1;simp only [Nat.add_zero] at hst;have hrun:(Builtin.append_ #[t,t] ty #[.slice (some ⟨g,0,none⟩) n cap, .slice (some ad) m c]).run P w =
     .ok (.slice (some ⟨g,0,none⟩) (n+m) cap) (w.setRow g (cur.toList.take (n*i.size)++news++cur.toList.drop (n*i.size+news.length)).toArray):=by
     simp [Builtin.append_,run_underlying ht,sizeOf,typeInfo,hi,Builtin.lenOf,hroom,hf,Addr.add_lit,hst]
    have hlt:(cur.toList.take (n*i.size)).length=n*i.size:=by rw [htake];exact hown.1
    refine ⟨_,_,hrun,?_,?_, .inl rfl,?_⟩;rotate_left 2
    ·intro g' hg';obtain rfl:g=g':=(by simpa [Value.ownBlock] using hg');refine ⟨cur,_,e,fz,hg,setRow_heap w g cur _ e _ hg,?_,?_⟩
     ·simp only [List.size_toArray,List.length_append,List.length_take,List.length_drop,Array.length_toList];omega
     ·simp only [List.append_assoc];rw [List.take_append_of_le_length (Nat.le_of_eq hlt.symm),List.take_of_length_le (Nat.le_of_eq hlt)]
    ·refine ⟨hlen, .inr ⟨g,cap,_,fz,rfl,hbg,setRow_heap w g cur _ e _ hg,?_,hroom,hcm,?_,?_⟩⟩
     ·rcases hfz with h|h
      ·exact .inl h
      ·right;simp only [List.size_toArray,List.length_append,List.length_take,List.length_drop,Array.length_toList];omega
     ·simp only [List.size_toArray,List.length_append,List.length_take,List.length_drop,Array.length_toList];omega
     ·rw [htake,←hlen];exact List.take_left
    ·exact ⟨rfl,rfl,rfl,by simp,fun k _ hk=>setRow_other w g k _ (fun e=>hk (by simp [Value.ownBlock,e]))⟩
   ·have holds:∀ j u,xs[j]? = some u→w.cell? ((⟨g,0,none⟩:Addr).add j)=some u:=by
     intro j u hu;rcases Own.at_ hown with hx|⟨ad',e,_,hc⟩
     ·subst hx;simp at hu
     ·obtain rfl:=Option.some.inj e;exact hc j u hu
    have hrun:=run_append_grow (P:=P) w t ty e i z ht hi hz ⟨g,0,none⟩ n cap xs hown.1 holds ad m c news hm hnews (by omega) (by omega) (growslice_fits (by omega) hbytes);have hgr:=made cap (Value.ownBlock (.slice (some ⟨g,0,none⟩) n cap));have hgn:=made cap none;refine ⟨_,_,hrun,hgr.1,hgr.2, .inr rfl,?_⟩;intro g' hg';obtain rfl:g=g':=by simpa [Value.ownBlock] using hg'
    exact ⟨cur,cur,e,fz,hg,(hgn.2.block g (Array.getElem?_eq_some_iff.1 hg).1 (by simp)).trans hg,rfl,rfl⟩
theorem ziQ {o:Oper} {a:Act} {K:Act→World→Prop} {Q:Exit→Act→World→Prop} (s x:Operand) (t:TypeId)
 (ho:o.op = .call {callee:=.builtin .append,args:=#[s,x],argTypes:=#[t,t]})
 (base:Nat) (e:TypeId) (i:TypeInfo) (z:Value) (size bytes:Nat) (ht:P.underlying t=some (.slice e)) (hi:P.info? e=some i) (hz:i.zero=some z)
 (hsize:i.size=size) (hby:i.bytes=bytes) (hzs:z.cells.size=size) (hsz:0<size)
 (v:Value) (n:Nat) (xs:List Value) (hs:a.eval s=v) (hown:Own w base e size v n xs)
 (B:Nat) (A:Option Addr) (m c:Nat) (news:List Value) (hx:a.eval x = .slice A m c) (hm:news.length=m*size) (hr:At w B A news) (h1:∀ u∈news,u.oneCell'=true)
 (h63:n+m≤maxLen) (hbytes:(n+m)*bytes≤140737488355328) (hbase:base≤w.heap.size)
 (h:∀ v' w',Own w' base e size v' (n+m) (xs++news)→w.grownBy w' v.ownBlock→(v'.ownBlock=v.ownBlock∨v'.ownBlock=some w.heap.size)→K (a.put o.dst v') w'):o.wp P a w K Q:=by
 obtain ⟨v',w',hrun,h2,h3,h4,_⟩:=zkQ (P:=P) w base t o.type e i z size bytes ht hi hz hsize hby hzs hsz v n xs hown B A m c news hm hr h1 h63 hbytes hbase;unfold Oper.wp execOp;simp only [ho,resolve,invoke,builtin,Sem.run_bind,Sem.run_pure,Result.andThen_ok,List.map_toArray,List.map_cons,List.map_nil,hs,hx,hrun];exact h v' w' h2 h3 h4
theorem zaj {ops:Array Oper} {rest:List Oper} {o:Oper} {a:Act} {Q:Exit→Act→World→Prop} (hgd:o.guard=none) (s x:Operand) (t:TypeId)
 (ho:o.op = .call {callee:=.builtin .append,args:=#[s,x],argTypes:=#[t,t]})
 (base:Nat) (e:TypeId) (i:TypeInfo) (z:Value) (size bytes:Nat) (ht:P.underlying t=some (.slice e)) (hi:P.info? e=some i) (hz:i.zero=some z)
 (hsize:i.size=size) (hby:i.bytes=bytes) (hzs:z.cells.size=size) (hsz:0<size)
 (v:Value) (n:Nat) (xs:List Value) (hs:a.eval s=v) (hown:Own w base e size v n xs)
 (B:Nat) (A:Option Addr) (m c:Nat) (news:List Value) (hx:a.eval x = .slice A m c) (hm:news.length=m*size) (hr:At w B A news) (h1:∀ u∈news,u.oneCell'=true)
 (h63:n+m≤maxLen) (hbytes:(n+m)*bytes≤140737488355328) (hbase:base≤w.heap.size)
 (h:∀ v' w',Own w' base e size v' (n+m) (xs++news)→w.grownBy w' v.ownBlock→(v'.ownBlock=v.ownBlock∨v'.ownBlock=some w.heap.size)→wpList P ops Q rest (a.put o.dst v') w'):wpList P ops Q (o::rest) a w:=
 wpList_plain hgd fun _ hK=>ziQ w s x t ho base e i z size bytes ht hi hz hsize hby hzs hsz v n xs hs hown B A m c news hx hm hr h1 h63 hbytes hbase fun v' w' h2 h3 h4=>hK _ _ (h v' w' h2 h3 h4)
end
section
variable {w:World} {base:Nat} {e:TypeId} {size:Nat} {v:Value} {n:Nat} {xs:List Value}
theorem Own.cell {A:Option Addr} {cap:Nat} (h:Own w base e size (.slice A n cap) n xs) {j:Nat} (hj:j<xs.length):∃ g,A=some ⟨g,0,none⟩∧w.cell? ⟨g,j,none⟩=xs[j]? ∧ w.frozen? ⟨g,j,none⟩=false∧base≤g:=by
 rcases h.2 with ⟨_,h0⟩|⟨g,cap',cur,fz,hv,hb,hg,hz,h1,h2,h3,h4⟩
 ·have:=h.1;rw [h0] at this;omega
 ·have hA:A=some ⟨g,0,none⟩:=(by injection hv);have hlen:=h.1;have hjc:j<cur.size:=by rw [h3];have:=Nat.mul_le_mul_right size h1;omega
  refine ⟨g,hA,?_,?_,hb⟩
  ·rw [cell_of_row w g j cur e fz hg,←h4,List.getElem?_take,if_pos (by omega)];simp
  ·obtain ⟨lo,hi⟩:=fz;simp only [World.frozen?,hg,Bool.and_eq_false_iff,decide_eq_false_iff_not];simp only at hz;rcases hz with hz|hz<;>omega
theorem Own.store {g cap:Nat} (h:Own w base e size (.slice (some ⟨g,0,none⟩) n cap) n xs) {j:Nat} (_hj:j<xs.length) (u:Value):Own (w.setCell ⟨g,j,none⟩ u) base e size (.slice (some ⟨g,0,none⟩) n cap) n (xs.set j u):=by
 refine ⟨by rw [List.length_set];exact h.1,?_⟩;rcases h.2 with ⟨hv,_⟩|⟨g',cap',cur,fz,hv,hb,hg,hz,h1,h2,h3,h4⟩
 ·cases hv
 ·injection hv with hA hn hc;injection hA with hA;injection hA with hA;subst hA;subst hc;refine .inr ⟨g,cap,cur.setIfInBounds j u,fz,rfl,hb,?_,?_,h1,h2,by simpa using h3,?_⟩
  ·simp [World.setCell,Array.getElem?_modify,hg]
  ·simpa using hz
  ·rw [Array.toList_setIfInBounds,List.take_set,h4]
theorem Own.apart {e':TypeId} {size':Nat} {v':Value} {n':Nat} {xs':List Value} {base':Nat} (h:Own w base e size v n xs) (h':Own w base' e' size' v' n' xs') (hne:e≠e'):v.ownBlock=none∨v.ownBlock≠v'.ownBlock:=by
 rcases h.2 with ⟨rfl,_⟩|⟨g,cap,cur,fz,rfl,_,hg,_⟩
 ·exact .inl rfl
 ·right;rcases h'.2 with ⟨rfl,_⟩|⟨g',cap',cur',fz',rfl,_,hg',_⟩
  ·simp [Value.ownBlock]
  ·simp only [Value.ownBlock];intro hh;obtain rfl:=Option.some.inj hh;rw [hg] at hg';injection hg' with hg';injection hg' with _ ht;exact hne ht
end
def Onto (w:World) (row:Option Nat) (w':World) (v':Value):Prop:=w.grownBy w' row∧(v'.ownBlock=row∨∀ g,v'.ownBlock=some g→w.heap.size≤g)
theorem Onto.refl (w:World) (v:Value):Onto w v.ownBlock w v:=⟨World.grownBy.refl _ _, .inl rfl⟩
theorem zbb {w w1 w2:World} {row row1:Option Nat} (h:w.grownBy w1 row) (k:w1.grownBy w2 row1) (hr:row1=row∨∀ g,row1=some g→w.heap.size≤g):w.grownBy w2 row:=
 ⟨k.os.trans h.os,k.tape.trans h.tape,k.output.trans h.output,Nat.le_trans h.size k.size,fun i hi hne=>
  (k.block i (Nat.lt_of_lt_of_le hi h.size) (by
   rcases hr with hr|hr
   ·rw [hr];exact hne
   ·intro e;have:=hr i e.symm;omega)).trans (h.block i hi hne)⟩
theorem Onto.step {w w1 w2:World} {row:Option Nat} {v1 v2:Value} (h:Onto w row w1 v1) (k:w1.grownBy w2 v1.ownBlock) (hv:v2.ownBlock=v1.ownBlock∨v2.ownBlock=some w1.heap.size):Onto w row w2 v2:=by
 refine ⟨zbb h.1 k h.2,?_⟩;rcases hv with hv|hv
 ·rw [hv];exact h.2
 ·right;intro g hg;rw [hv] at hg;obtain rfl:=Option.some.inj hg;exact h.1.size
theorem Onto.keep {w w1 w2:World} {row:Option Nat} {v1:Value} (h:Onto w row w1 v1) (k:Keeps w1 w2):Onto w row w2 v1:=
 ⟨zbb (row1:=none) h.1 ⟨k.os,k.tape,k.output,k.size,fun i hi _=>k.block i hi⟩ (.inr (fun g hg=>by cases hg)),h.2⟩
theorem Onto.keeps {w w1 w2:World} {v1 v2:Value} (k:Keeps w w1) (h:Onto w1 v1.ownBlock w2 v2) (hv:∀ g,v1.ownBlock=some g→w.heap.size≤g):Keeps w w2:=
 Below.grown k h.1 k.size hv
theorem At.new (w:World) (cs:List Value) (e:TypeId) (B:Nat) (hB:w.heap.size<B):At (w.alloc (.cells cs.toArray e)) B (some ⟨w.heap.size,0,none⟩) cs:=by
 refine .inr ⟨_,rfl,hB,fun j u hu=>?_⟩;rw [Addr.add_lit,Nat.zero_add,cell_of_row _ _ j cs.toArray e (0,0) (heap_alloc_new w _)];simpa using hu
def le:List UInt8→Nat
 | []=>0
 | b::t=>b.toNat+256*le t
def nb:Nat→Nat→List UInt8
 | 0,_=>[]
 | k+1,x=>UInt8.ofNat (x%256)::nb k (x/256)
theorem zad (k x:Nat):(nb k x).length=k:=by
 induction k generalizing x with
 | zero=>rfl
 | succ k ih=>simp [nb,ih]
theorem le_lt (l:List UInt8):le l<256^l.length:=by
 induction l with
 | nil=>simp [le]
 | cons b t ih=>
  have:=b.toNat_lt;simp only [le,List.length_cons,Nat.pow_succ];omega
theorem zhH (l m:List UInt8):le (l++m)=le l+256^l.length*le m:=by
 induction l with
 | nil=>simp [le]
 | cons b t ih=>
  simp only [List.cons_append,le,ih,List.length_cons,Nat.pow_succ];rw [Nat.mul_add,Nat.mul_comm (256^t.length) 256,Nat.mul_assoc,Nat.add_assoc]
theorem le_nb (k x:Nat):le (nb k x)=x%256^k:=by
 induction k generalizing x with
 | zero=>simp [nb,le,Nat.mod_one]
 | succ k ih=>
  simp only [nb,le,ih];have e:(UInt8.ofNat (x%256)).toNat=x%256:=by simp
  rw [e,Nat.pow_succ,Nat.mul_comm (256^k) 256,Nat.mod_mul]
theorem nb_le (l:List UInt8):nb l.length (le l)=l:=by
 induction l with
 | nil=>rfl
 | cons b t ih=>
  have hb:=b.toNat_lt;simp only [List.length_cons,nb,le];have e1:(b.toNat+256*le t)%256=b.toNat:=by omega
  have e2:(b.toNat+256*le t)/256=le t:=by omega
  rw [e1,e2,ih];simp
theorem zhe (k x:Nat):nb (k+1) x=nb k x++[UInt8.ofNat (x/256^k%256)]:=by
 induction k generalizing x with
 | zero=>simp [nb]
 | succ k ih=>
  rw [nb,ih];simp only [nb,List.cons_append];rw [Nat.div_div_eq_div_mul,Nat.pow_succ,Nat.mul_comm 256]
theorem zeM (l:List UInt8) (k:Nat) (hk:k<l.length):le (l.take (k+1))=le (l.take k)+256^k*(l.getD k 0).toNat:=by
 rw [List.take_succ_eq_append_getElem hk,zhH];simp [le,List.length_take,Nat.min_eq_left (Nat.le_of_lt hk),List.getD,hk]
end Go.Proofs.YtjpldnjldindkaaGreatDoor
namespace Go.Proofs.YtjpldnjldindkaaGreatDoor
open Go.RowKit Go.ChangeShapes Go.WideShapes Go.Deep
def zck (P:Program) (g:TypeId→Option (List TypeId)):List Field→Nat→Option (List TypeId)
 | [],_=>some []
 | f::fs,off=>if f.offset=off then (g f.type).bind fun l=>if P.cellsOf f.type=l.length then (zck P g fs (off+l.length)).map (l ++ ·) else none else none
def flat (P:Program):Nat→TypeId→Option (List TypeId)
 | 0,_=>none
 | fuel+1,t=>match P.underlying t with
  | some (.struct fs)=>zck P (flat P fuel) fs.toList 0
  | some (.array n e)=>(flat P fuel e).bind fun l=>if P.cellsOf e=l.length then some (List.replicate n l).flatten else none
  | some _=>if P.cellsOf t=1 then some [t] else none
  | none=>none
section
variable {H:Type} {enc:TypeId×Value→H} {P:Program} {w:World} {base:Nat} {spare:Nat→Bool} {held:Bool}
def Leaf (enc:TypeId×Value→H) (P:Program) (w:World) (base:Nat) (spare:Nat→Bool) (held:Bool) (T:TypeId) (c:Value):Prop:=∃ n y,DataW.trod enc P w base spare held n T [c]=some y
theorem Leaf.int {T:TypeId} {c:Value} {k:IntKind} (h:Leaf enc P w base spare held T c) (hT:P.underlying T=some (.int k)):∃ a,c = .int k a∧(Lit.int k a).wf=true:=by
 obtain ⟨n,y,h⟩:=h;obtain ⟨a,e,_,hw⟩:=DataW.trod_int hT h;exact ⟨a,by simpa using e,hw⟩
theorem zge {g:TypeId→Option (List TypeId)} {cs:List Value} {n:Nat} {xs:List (DataW H×List MemPlace)}
 (ih:∀ t ts,g t=some ts→∀ {m:Nat} {cs':List Value} {x:DataW H×List MemPlace},DataW.trod enc P w base spare held m t cs'=some x→cs'.length=ts.length→∀ (j:Nat) (T:TypeId),ts[j]? = some T→∃ c,cs'[j]? = some c∧Leaf enc P w base spare held T c) :
 ∀ (fs:List Field) (i0 off:Nat) (ts:List TypeId),zck P g fs off=some ts→
  (∀ i f,fs[i]? = some f→DataW.trod enc P w base spare held n f.type ((cs.drop f.offset).take (P.cellsOf f.type))=xs[i0+i]?)→i0+fs.length=xs.length→off+ts.length≤cs.length→
  ∀ (j:Nat) (T:TypeId),ts[j]? = some T→∃ c,cs[off+j]? = some c∧Leaf enc P w base spare held T c:=by
 intro fs;induction fs with
 | nil=>
  intro i0 off ts h _ _ _ j T hj;simp only [zck,Option.some.injEq] at h;subst h;simp at hj
 | cons f fs ihf=>
  intro i0 off ts h ht hx hl j T hj;simp only [zck] at h;split at h
  ·rename_i ho;obtain ⟨l,hl1,h2⟩:=Option.bind_eq_some_iff.1 h;split at h2
   ·rename_i hc;obtain ⟨r,hr,rfl⟩:=Option.map_eq_some_iff.1 h2;by_cases hjl:j<l.length
    ·rw [List.getElem?_append_left hjl] at hj;have h0:=ht 0 f rfl;simp only [List.length_append] at hl;have hx0:i0+0<xs.length:=by rw [←hx];simp
     rw [List.getElem?_eq_getElem hx0] at h0;obtain ⟨c,hc1,hc2⟩:=ih f.type l hl1 h0 (by rw [List.length_take,List.length_drop,hc,ho];omega) j T hj;refine ⟨c,?_,hc2⟩;rw [List.getElem?_take] at hc1;split at hc1
     ·rw [List.getElem?_drop,ho] at hc1;exact hc1
     ·cases hc1
    ·rw [List.getElem?_append_right (by omega)] at hj;have h1:=ihf (i0+1) (off+l.length) r hr (fun i f' hf'=>by
      have:=ht (i+1) f' hf';rw [this];congr 1
      omega) (by rw [←hx];simp;omega) (by simp only [List.length_append] at hl;omega) (j-l.length) T hj
     obtain ⟨c,hc1,hc2⟩:=h1;exact ⟨c,by rw [←hc1];congr 1;omega,hc2⟩
   ·cases h2
  ·cases h
theorem zkf {α:Type} (l:List α) (n j:Nat) (x:α) (h:(List.replicate n l).flatten[j]? = some x):∃ i k,i<n∧k<l.length∧j=i*l.length+k∧l[k]? = some x:=by
 induction n generalizing j with
 | zero=>simp at h
 | succ n ih=>
  rw [List.replicate_succ,List.flatten_cons] at h;by_cases hj:j<l.length
  ·rw [List.getElem?_append_left hj] at h;exact ⟨0,j,by omega,hj,by omega,h⟩
  ·rw [List.getElem?_append_right (by omega)] at h;obtain ⟨i,k,h1,h2,h3,h4⟩:=ih _ h;exact ⟨i+1,k,by omega,h2,by rw [Nat.add_mul];omega,h4⟩
theorem zhI:∀ (fuel:Nat) (t:TypeId) (ts:List TypeId),flat P fuel t=some ts→∀ {m:Nat} {cs:List Value} {x:DataW H×List MemPlace},DataW.trod enc P w base spare held m t cs=some x→cs.length=ts.length→∀ (j:Nat) (T:TypeId),ts[j]? = some T→∃ c,cs[j]? = some c∧Leaf enc P w base spare held T c:=by
 intro fuel;induction fuel with
 | zero=>intro t ts h;simp [flat] at h
 | succ fuel ih=>
  intro t ts h m cs x ht hl j T hj;simp only [flat] at h;have one:P.cellsOf t=1→ts=[t]→∃ c,cs[j]? = some c∧Leaf enc P w base spare held T c:=by
   intro h1 h2;subst h2
   match cs,hl with
   | [c],_=>
    rcases j with _|j
    ·simp only [List.getElem?_cons_zero,Option.some.injEq] at hj;subst hj;exact ⟨c,rfl,m,x,ht⟩
    ·simp at hj
  split at h
  ·rename_i fs hu;obtain ⟨xs,n,_,_,hcl,hxl,hg⟩:=DataW.trod_struct hu ht;have:=zge (P:=P) (cs:=cs) (n:=n) (xs:=xs) (fun t ts h=>ih t ts h) fs.toList 0 0 ts h (fun i f hf=>by
    rw [Nat.zero_add];exact hg i f (by simpa using hf)) (by simp [hxl]) (by omega) j T hj
   simpa using this
  ·rename_i n e hu;obtain ⟨l,hl1,h2⟩:=Option.bind_eq_some_iff.1 h;split at h2
   ·rename_i hc;injection h2 with h2;subst h2;obtain ⟨xs,m',_,_,hcl,hxl,hg⟩:=DataW.trod_array hu ht;obtain ⟨i,k,h1,h3,h4,h5⟩:=zkf l n j T hj;have h0:=hg i h1;rw [List.getElem?_eq_getElem (by omega)] at h0;have hle:(i+1)*l.length≤n*l.length:=Nat.mul_le_mul_right _ h1;rw [Nat.add_mul] at hle;rw [List.length_flatten,List.map_replicate,List.sum_replicate_nat] at hl;obtain ⟨c,hc1,hc2⟩:=ih e l hl1 h0 (by rw [List.length_take,List.length_drop,hc];omega) k T h5;refine ⟨c,?_,hc2⟩;rw [List.getElem?_take] at hc1;split at hc1
    ·rw [List.getElem?_drop,hc] at hc1;rw [h4];exact hc1
    ·cases hc1
   ·cases h2
  ·split at h
   ·rename_i hc;injection h with h;exact one hc h.symm
   ·cases h
  ·cases h
theorem zoK {r:Reach} {b0:Nat} {t:TypeId} {fs:Array Field} {ts:List TypeId} {v:Value} {d:DataW H} {p:List MemPlace} (hu:P.underlying t=some (.struct fs)) (hf:flat P 6 t=some ts) (hC:P.cellsOf t=ts.length)
 (hv:Value.okWide P w r b0 t v) (h:DataW.Trod enc P w base spare held t v d p):∃ cs:List Value,v = .agg cs.toArray∧cs.length=ts.length∧∀ (j:Nat) (T:TypeId),ts[j]? = some T→∃ c,cs[j]? = some c∧Leaf enc P w base spare held T c:=by
 obtain ⟨cs,rfl,hsz⟩:=okWide_struct hu hv;obtain ⟨fuel,hf'⟩:=h;refine ⟨cs.toList,by simp,by simpa using hsz.trans hC,?_⟩;exact zhI 6 t ts hf hf' (by simpa [Value.cells] using hsz.trans hC)
theorem zgf {t e:TypeId} {ts:List TypeId} {A:Option Addr} {n c:Nat} (ht:P.underlying t=some (.slice e)) (hf:flat P 6 e=some ts) (hC:P.cellsOf e=ts.length) (h:Leaf enc P w base spare held t (.slice A n c)) :
 n≤c∧c≤maxLen∧(A=none→n=0∧c=0)∧∀ i,i<n→∃ ad,A=some ad∧∀ (j:Nat) (T:TypeId),ts[j]? = some T→∃ x,w.cell? (ad.add (i*ts.length+j))=some x∧Leaf enc P w base spare held T x:=by
 obtain ⟨fuel,y,h⟩:=h;rcases open_slice ht h with ⟨hcs,_⟩|⟨a,len,cap,m,n',D,Pl,hcs,hb,hl,hm,hmm,hx,hi⟩
 ·simp only [List.cons.injEq,Value.slice.injEq,and_true] at hcs;obtain ⟨rfl,rfl,rfl⟩:=hcs;exact ⟨Nat.le_refl _,Nat.zero_le _,fun _=>⟨rfl,rfl⟩,fun i hi=>by omega⟩
 ·simp only [List.cons.injEq,Value.slice.injEq,and_true] at hcs;obtain ⟨rfl,rfl,rfl⟩:=hcs;refine ⟨hl,hm,(by intro h;cases h),fun i hin=>⟨a,rfl,fun j T hj=>?_⟩⟩;have hlm:i<m:=by rw [hmm]; split<;>omega
  obtain ⟨cs',hc,ht'⟩:=hi i hlm;rw [hC] at hc;obtain ⟨_,hcl,hat⟩:=World.cells?_some hc;obtain ⟨x,hx1,hx2⟩:=zhI 6 e ts hf ht' hcl j T hj;refine ⟨x,?_,hx2⟩;have hjl:j<ts.length:=(List.getElem?_eq_some_iff.1 hj).1;rw [←Go.Deep.add_add,hat j hjl,hx1]
end
theorem zkR {α:Type} {Q:Nat→α→Prop} (n:Nat) (h:∀ i,i<n→∃ x,Q i x):∃ l:List α,l.length=n∧∀ i x,l[i]? = some x→Q i x:=by
 induction n with
 | zero=>exact ⟨[],rfl,fun i x h=>by simp at h⟩
 | succ n ih=>
  obtain ⟨l,hl,hq⟩:=ih fun i hi=>h i (by omega)
  obtain ⟨x,hx⟩:=h n (by omega);refine ⟨l++[x],by simp [hl],fun i y hy=>?_⟩;by_cases hi:i<l.length
  ·rw [List.getElem?_append_left hi] at hy;exact hq i y hy
  ·rw [List.getElem?_append_right (by omega)] at hy;obtain rfl:i=l.length:=by
    have:=(List.getElem?_eq_some_iff.1 hy).1;simp at this;omega
   simp at hy;subst hy;rw [hl];exact hx
theorem zaZ {α:Type} (enc:α→List Value) (k:Nat) (hk:∀ x,(enc x).length=k) (l:List α) {i j:Nat} (hj:j<k):(l.flatMap enc)[i*k+j]? = (l[i]?).bind fun x=>(enc x)[j]?:=by
 induction l generalizing i with
 | nil=>simp
 | cons a l ih=>
  rw [List.flatMap_cons];rcases i with _|i
  ·rw [List.getElem?_append_left (by rw [hk];omega)];simp
  ·rw [List.getElem?_append_right (by rw [hk,Nat.add_mul];omega),hk,show (i+1)*k+j-k=i*k+j by rw [Nat.add_mul];omega,ih];simp
theorem zcy {α:Type} (enc:α→List Value) (k:Nat) (hk:∀ x,(enc x).length=k) (l:List α):(l.flatMap enc).length=l.length*k:=by
 induction l with
 | nil=>simp
 | cons a l ih=>rw [List.flatMap_cons,List.length_append,ih,hk,List.length_cons,Nat.add_mul];omega
theorem zkS {α:Type} (enc:α→List Value) (k:Nat) (hk:∀ x,(enc x).length=k) (hpos:0<k) {W:World} {A:Option Addr} {n:Nat} (l:List α) (hl:l.length=n) (ad:Addr) (hA:0<n→A=some ad)
 (h:∀ i x,l[i]? = some x→∀ j u,(enc x)[j]? = some u→W.cell? (ad.add (i*k+j))=some u):At W W.heap.size A (l.flatMap enc):=by
 rcases Nat.eq_zero_or_pos n with h0|h0
 ·left;have:l=[]:=List.eq_nil_of_length_eq_zero (by omega);subst this;rfl
 ·refine .inr ⟨ad,hA h0,?_,fun q u hq=>?_⟩
  ·obtain ⟨x,l',rfl⟩:∃ x l',l=x::l':=by
    cases l with
    | nil=>simp at hl;omega
    | cons x l'=>exact ⟨x,l',rfl⟩
   obtain ⟨u,us,hu⟩:∃ u us,enc x=u::us:=by
    have:=hk x;cases he:enc x with
    | nil=>rw [he] at this;simp at this;omega
    | cons u us=>exact ⟨u,us,rfl⟩
   have:=block_lt_of_cell (h 0 x rfl 0 u (by rw [hu];rfl))
   rwa [zbi] at this
  ·have hd:=Nat.div_add_mod q k;have e:q=q/k*k+q%k:=by rw [Nat.mul_comm];omega
   have hm:q%k<k:=Nat.mod_lt _ hpos;rw [e,zaZ enc k hk l hm] at hq;obtain ⟨x,hx,hu⟩:=Option.bind_eq_some_iff.1 hq;rw [e];exact h _ x hx _ u hu
end Go.Proofs.YtjpldnjldindkaaGreatDoor
namespace Go.Proofs.YtjpldnjldindkaaGreatDoor
open Go.RowKit
def Box (w:World) (b:Nat) (t:TypeId) (cs:Array Value):Prop:=w.heap[b]? = some (.cells cs t (0,0))
theorem Box.new (w:World) (t:TypeId) (cs:Array Value):Box (w.alloc (.cells cs t)) w.heap.size t cs:=heap_alloc_new w _
theorem Box.lt {w:World} {b:Nat} {t:TypeId} {cs:Array Value} (h:Box w b t cs):b<w.heap.size:=(Array.getElem?_eq_some_iff.1 h).1
theorem Box.keep {w w':World} {b:Nat} {t:TypeId} {cs:Array Value} (h:Box w b t cs) (k:Keeps w w'):Box w' b t cs:=(k.block b h.lt).trans h
theorem Box.cell {w:World} {b:Nat} {t:TypeId} {cs:Array Value} (h:Box w b t cs) (j:Nat) {v:Value} (hv:cs[j]? = some v):w.cell? ⟨b,j,none⟩=some v:=(cell_of_row w b j cs t (0,0) h).trans hv
theorem Box.set {w:World} {b:Nat} {t:TypeId} {cs:Array Value} (h:Box w b t cs) (i:Nat) (u:Value):Box (w.setCell ⟨b,i,none⟩ u) b t (cs.setIfInBounds i u):=heap_setCell_same w b i cs t u h
theorem Box.far {w:World} {b:Nat} {t:TypeId} {cs:Array Value} (h:Box w b t cs) {p:Addr} (hp:b≠p.block) (u:Value):Box (w.setCell p u) b t cs:=(Below.heap_setCell w p u b hp).trans h
theorem Box.frozen {w:World} {b:Nat} {t:TypeId} {cs:Array Value} (h:Box w b t cs) (j:Nat):w.frozen? ⟨b,j,none⟩=false:=frozen_of_row w b j cs t h
structure Only (w w':World) (S:Nat→Prop):Prop where
 os:w'.os=w.os
 tape:w'.tape=w.tape
 output:w'.output=w.output
 size:w.heap.size≤w'.heap.size
 block:∀ k,k<w.heap.size→¬ S k→w'.heap[k]? = w.heap[k]?
theorem Only.refl (w:World) (S:Nat→Prop):Only w w S:=⟨rfl,rfl,rfl,Nat.le_refl _,fun _ _ _=>rfl⟩
theorem Only.trans {w w1 w2:World} {S S1:Nat→Prop} (h:Only w w1 S) (k:Only w1 w2 S1) (hS:∀ i,S1 i→S i∨w.heap.size≤i):Only w w2 S:=
 ⟨k.os.trans h.os,k.tape.trans h.tape,k.output.trans h.output,Nat.le_trans h.size k.size,fun i hi hn=>(k.block i (Nat.lt_of_lt_of_le hi h.size) (fun e=>by rcases hS i e with e|e;exact hn e;omega)).trans (h.block i hi hn)⟩
theorem Only.of_keeps {w w':World} (k:Keeps w w'):Only w w' (fun _=>False):=⟨k.os,k.tape,k.output,k.size,fun i hi _=>k.block i hi⟩
theorem Only.keep {w w1 w2:World} {S:Nat→Prop} (h:Only w w1 S) (k:Keeps w1 w2):Only w w2 S:=h.trans (Only.of_keeps k) (fun _ e=>e.elim)
theorem Only.grown {w w1 w2:World} {S:Nat→Prop} {row:Option Nat} (h:Only w w1 S) (k:w1.grownBy w2 row) (hr:∀ g,row=some g→S g∨w.heap.size≤g):Only w w2 S:=
 h.trans (S1:=fun i=>row=some i) ⟨k.os,k.tape,k.output,k.size,fun i hi hn=>k.block i hi (fun e=>hn e.symm)⟩ (fun i e=>hr i e)
theorem Only.below {w w':World} {S:Nat→Prop} {B:Nat} (h:Only w w' S) (hS:∀ k,S k→B≤k) (hB:B≤w.heap.size):Below B w w':=
 ⟨h.os,h.tape,h.output,h.size,fun k hk=>h.block k (by omega) (fun e=>by have:=hS k e;omega)⟩
structure Turns (w w':World) (S S':Nat→Prop):Prop where
 only:Only w w' S
 next:∀ b,S' b→S b∨w.heap.size≤b
theorem Turns.refl (w:World) (S:Nat→Prop):Turns w w S S:=⟨Only.refl w S,fun _ h=>.inl h⟩
theorem Turns.trans {a b c:World} {S T U:Nat→Prop} (h:Turns a b S T) (k:Turns b c T U):Turns a c S U:=
 ⟨h.only.trans k.only h.next,fun i hi=>by
  rcases k.next i hi with hh|hh
  ·exact h.next i hh
  ·exact .inr (Nat.le_trans h.only.size hh)⟩
theorem Turns.of_keeps {w w':World} {S:Nat→Prop} (k:Keeps w w'):Turns w w' S S:=⟨⟨k.os,k.tape,k.output,k.size,fun i hi _=>k.block i hi⟩,fun _ h=>.inl h⟩
theorem Turns.keeps {w w0 w':World} {S S':Nat→Prop} (k0:Keeps w0 w) (h:Turns w w' S S') (hS:∀ b,S b→w0.heap.size≤b):Keeps w0 w':=
 ⟨h.only.os.trans k0.os,h.only.tape.trans k0.tape,h.only.output.trans k0.output,Nat.le_trans k0.size h.only.size,fun b hb=>by
  rw [h.only.block b (Nat.lt_of_lt_of_le hb k0.size) (fun e=>by have:=hS b e;omega)];exact k0.block b hb⟩
def dropA (A:Option Addr) (c k:Nat):Option Addr:=if c=k then A else A.map (·.add k)
theorem Bs.dropA {w:World} {A:Option Addr} {l:List UInt8} (h:Bs w A l) {n c k:Nat} (hn:n=l.length) (hc:n≤c):Bs w (dropA A c k) (l.drop k):=by
 unfold Proofs.YtjpldnjldindkaaGreatDoor.dropA;by_cases e:c=k
 ·rw [if_pos e,List.drop_of_length_le (by omega)];exact Bs.nil _ _
 ·rw [if_neg e];rcases A with _|ad
  ·rcases l with _|⟨b,l⟩
   ·simpa using Bs.nil _ _
   ·obtain ⟨ad,e,_⟩:=h.at_ (k:=0) (by simp);cases e
  ·exact h.drop k
section
variable {P:Program}
theorem zfU (t e:TypeId) (ht:P.underlying t=some (.slice e)) (he:(P.info? e).map (·.size)=some 1) (A:Option Addr) (n c k:Nat) (hk:k≤n) (w:World) :
 (Instr.sliceAt t (.slice A n c) (some (.int .i64 (k:Int))) none none).run P w = .ok (.slice (dropA A c k) (n-k) (c-k)) w:=by
 have he':P.elem t=e:=by simp [Program.elem,ht]
 have ht':P.underlying t=some (.slice (P.elem t)):=by rw [he'];exact ht
 obtain ⟨i,hi,hs⟩:=Option.map_eq_some_iff.1 he;rw [run_sliceAt_slice (h:=ht'),run_slice_l (ht:=ht') (h0:=by omega) (h1:=by omega)];rw [he'];simp [sizeOf,typeInfo,hi,hs,sliced,dropA]
end
section
variable {P:Program}
theorem zoL (t e:TypeId) (ht:P.underlying t=some (.slice e)) (he:(P.info? e).map (·.size)=some 1) (A:Option Addr) (n c i k:Nat) (hi:i≤k) (hk:k≤c) (w:World) :
 (Instr.sliceAt t (.slice A n c) (some (.int .i64 (i:Int))) (some (.int .i64 (k:Int))) none).run P w = .ok (.slice (dropA A c i) (k-i) (c-i)) w:=by
 have he':P.elem t=e:=by simp [Program.elem,ht]
 have ht':P.underlying t=some (.slice (P.elem t)):=by rw [he'];exact ht
 obtain ⟨y,hy,hs⟩:=Option.map_eq_some_iff.1 he;rw [run_sliceAt_slice (h:=ht'),run_slice_lh (ht:=ht') (h0:=by omega) (h1:=by omega) (h2:=by omega)];rw [he'];simp [sizeOf,typeInfo,hy,hs,sliced,dropA]
end
theorem zH {p : Prop} (h : p) : Hid p := Lib.hid h
theorem zK {a b c : World} (h : Keeps a b) (k : Keeps b c) : Keeps a c := zkd h k
theorem zA (w : World) (o : Obj) : Keeps w (w.alloc o) := zke w o
theorem zD (w : World) : Keeps w w.drew := zlj w
theorem zG9 {α : Type} {l : List α} {i : Nat} (h : i < l.length) : l[i]? = some l[i] := List.getElem?_eq_getElem h
theorem zI9 {α : Type} {l : List α} {i : Nat} {a : α} : l[i]? = some a ↔ ∃ h : i < l.length, l[i] = a := List.getElem?_eq_some_iff
theorem zJ9 {α : Type} {l : Array α} {i : Nat} {a : α} : l[i]? = some a ↔ ∃ h : i < l.size, l[i] = a := Array.getElem?_eq_some_iff
end Go.Proofs.YtjpldnjldindkaaGreatDoor
