/- A map's entry that is made first, and given its element later; bytes that are cloned. -/
import Derived.Test.YtjpldnjldindkaaGreatDoorQPoolO
set_option linter.all false
set_option maxHeartbeats 0
set_option maxRecDepth 100000
namespace Go.Proofs.YtjpldnjldindkaaGreatDoor
open Go.RowKit
section
variable {κ ε:Type} [DecidableEq κ] {P:Program} {M K V:TypeId} {kv:κ→Value} {ev:ε→Value}
theorem zju (es:Array MapEntry) (clock:Nat) (a:MapEntry) (h:∀ e∈es.toList,e.born<clock) (ha:a.born=clock):(es.push a).findIdx? (fun e=>((e.born:Nat):Int) == ((clock:Nat):Int))=some es.size:=by
 rw [show (es.push a).findIdx? (fun e=>((e.born:Nat):Int) == ((clock:Nat):Int))=(es.push a).toList.findIdx? (fun e=>((e.born:Nat):Int) == ((clock:Nat):Int)) from by cases es;simp];rw [Array.toList_push,List.findIdx?_append];have h1:es.toList.findIdx? (fun e=>((e.born:Nat):Int) == ((clock:Nat):Int))=none:=by
  rw [List.findIdx?_eq_none_iff];intro e he;have:=h e he;simp only [beq_eq_false_iff_ne];omega
 rw [h1];simp [List.findIdx?_cons,ha]
theorem zjv (T:MapV P M K V kv ev) {z:Value} (hz:∀ w,(zeroValue V).run P w = .ok z w) {w:World} {b:Nat} {l:List (κ×ε)} (h:MapW kv ev w b l) (k:κ) (hk:k∉l.map Prod.fst) (x:ε) :
 ∃ w1 st,(Instr.mapEntry M (.map (some b)) (kv k)).run P w = .ok (.tuple #[z,goInt st]) w1∧Only w w1 (fun c=>c=b)∧∀ w2:World,w2.heap[b]? = w1.heap[b]? →
  ∃ w3,(Instr.entryStore M (.map (some b)) (goInt st) (ev x)).run P w2 = .ok () w3∧MapW kv ev w3 b (putM l k x)∧Only w2 w3 (fun c=>c=b):=by
 obtain ⟨⟨es,clock,l0,hp,hb,he,hbo,hbp⟩,ho⟩:=h;have hg:(getObj b).run P w = .ok (.map es clock) w:=MapKept.run_getObj_map hb;have hbl:=(zJ9.1 hb).1;obtain ⟨r,hr,hcase⟩:=zdB T w k he;rcases hcase with ⟨rfl,hnk,-⟩|⟨j,hj,rfl,hk2,-⟩
 ·have hs:=MapKept.run_setObj_map (P:=P) (.map (es.push {key:=kv k,val:=z,born:=clock}) (clock+1)) hb;refine ⟨{heap:=w.heap.setIfInBounds b (Obj.map (es.push {key:=kv k,val:=z,born:=clock}) (clock+1)),tape:=w.tape,drawn:=w.drawn,os:=w.os,output:=w.output},clock,by
   simp only [Instr.mapEntry,Sem.run_bind];simp [underlying,T.m,hg,T.check,hr,hz,hs,Result.andThen],⟨rfl,rfl,rfl,by simp,fun i hi hn=>by simp [Array.getElem?_setIfInBounds,Ne.symm hn]⟩,fun w2 hw2=>?_⟩
  have hb2:w2.heap[b]? = some (.map (es.push {key:=kv k,val:=z,born:=clock}) (clock+1)):=by rw [hw2];simp [Array.getElem?_setIfInBounds,hbl]
  have hg2:(getObj b).run P w2 = .ok (.map (es.push {key:=kv k,val:=z,born:=clock}) (clock+1)) w2:=MapKept.run_getObj_map hb2;have hbl2:=(zJ9.1 hb2).1;have hidx:=zju es clock {key:=kv k,val:=z,born:=clock} hbo rfl;have hmod:(es.push {key:=kv k,val:=z,born:=clock}).modify es.size (fun e=>{e with val:=ev x})=es.push {key:=kv k,val:=ev x,born:=clock}:=by
   apply Array.ext
   ·simp
   ·intro i h1 h2;rw [Array.getElem_modify];simp only [Array.getElem_push];split
    ·split
     ·omega
     ·rfl
    ·split
     ·rfl
     ·rename_i h3 h4;simp at h1;omega
  have hs2:=MapKept.run_setObj_map (P:=P) (.map (es.push {key:=kv k,val:=ev x,born:=clock}) (clock+1)) hb2;refine ⟨_,by
   simp only [Instr.entryStore,Sem.run_bind];simp [hg2,asInt,asIntOf,goInt,hidx,hmod,Result.andThen];exact hs2,⟨⟨es.push {key:=kv k,val:=ev x,born:=clock},clock+1,l0++[(k,x)],?_,by simp [Array.getElem?_setIfInBounds,hbl2],?_,?_,?_⟩,zc8 ho k x⟩,?_⟩
  ·unfold putM;have e1:delM l k=l:=(zbZ fun hm=>hnk ((hp.map Prod.fst).mem_iff.2 hm));rw [e1];exact (List.perm_append_singleton _ _).trans (hp.cons _)
  ·unfold EntsV at he ⊢;rw [Array.toList_push,List.map_append,he];simp
  ·intro e he';rw [Array.toList_push] at he';rcases List.mem_append.1 he' with h|h
   ·have:=hbo e h;omega
   ·simp at h;subst h;simp
  ·rw [Array.toList_push,List.pairwise_append];refine ⟨hbp,by simp,fun a ha c hc=>?_⟩;simp at hc;subst hc;have:=hbo a ha;simp only;omega
  ·exact ⟨rfl,rfl,rfl,by simp,fun i hi hn=>by simp [Array.getElem?_setIfInBounds,Ne.symm hn]⟩
 ·exfalso;refine hk ((hp.map Prod.fst).mem_iff.1 ?_);rw [←hk2];exact List.mem_map_of_mem (List.getElem_mem hj)
end
section
variable {K:DiskOk} {w0 w w':World} {B:PB} {X X':PX} {Fd Fp Fd' Fp':Nat→Prop} {sl sl':List (Option Fx)} {p p':Pst} {dl:List (List UInt8×List Nat)} {t t':PT}
theorem PIn.filled (h:PIn w B X Fp sl dl t) {i:Nat} (hi:sl[i]? = some none) {x:Fx} (hk:some (x.f.name,x.f.k)∉zac (frs sl)) (hnew:w.heap.size≤x.blk)
 (ho:Only w w' (fun c=>c=B.pb∨c=B.gr∨c=B.wb)) (box:Box w' B.pb 156 (plC B sl.length t')) (row:Box w' B.gr 194 ((rowC sl).toArray.setIfInBounds i (dpt x.blk))) (wher:MapW plV dpt w' B.wb (putM X.W (x.f.name,x.f.k) x.blk)) (hx:FxAt w' B.db x)
 (hF:∀ j,Fp j→Fp' j) (hlt:∀ j,Fp' j→j<w'.heap.size) (hin:Fp' x.blk∧Fp' x.fb∧∀ g,x.tb=some g→Fp' g) :
 ∃ X',PIn w' B X' Fp' (sl.set i (some x)) dl t':=by
 have hil:=(zI9.1 hi).1;have sm:∀ {j:Nat},Fp j→j≠B.pb→j≠B.gr→j≠B.wb→w'.heap[j]? = w.heap[j]?:=fun hj h1 h2 h3=>ho.block _ (h.lt _ hj) (fun e=>by rcases e with e|e|e;exact h1 e;exact h2 e;exact h3 e)
 have at_:∀ (j:Nat) (y:Fx),(sl.set i (some x))[j]? = some (some y)→(j=i∧y=x)∨(j≠i∧sl[j]? = some (some y)):=fun j y hy=>by
  rw [List.getElem?_set] at hy;split at hy
  ·rename_i e;exact .inl ⟨e.symm,(Option.some.inj (Option.some.inj hy)).symm⟩
  ·rename_i e;exact .inr ⟨fun e2=>e e2.symm,hy⟩
 have kx:∀ nm k,some (nm,k)∈zac (frs (sl.set i (some x)))↔some (nm,k)∈zac (frs sl)∨(nm,k)=(x.f.name,x.f.k):=fun nm k=>by
  constructor
  ·intro hm;obtain ⟨j,f,hf,e1,e2⟩:=mem_keys.1 hm;obtain ⟨y,hy,rfl⟩:=zbO hf;rcases at_ j y hy with ⟨-,rfl⟩|⟨-,hy⟩
   ·exact .inr (by rw [e1,e2])
   ·exact .inl (mem_keys.2 ⟨j,y.f,zaH hy,e1,e2⟩)
  ·rintro (hm|e)
   ·obtain ⟨j,f,hf,e1,e2⟩:=mem_keys.1 hm;obtain ⟨y,hy,rfl⟩:=zbO hf;have hne:i≠j:=fun e=>by rw [←e,hi] at hy;cases hy
    exact mem_keys.2 ⟨j,y.f,zaH (by rw [List.getElem?_set,if_neg hne];exact hy),e1,e2⟩
   ·obtain ⟨rfl,rfl⟩:=Prod.mk.inj e;exact mem_keys.2 ⟨i,x.f,zaH (by rw [List.getElem?_set,if_pos rfl,if_pos hil]),rfl,rfl⟩
 have hbk:∀ nm k,some (nm,k)∈zac (frs sl)→(nm,k)≠(x.f.name,x.f.k):=fun nm k hm e=>hk (by rw [←e];exact hm)
 have hold:∀ (j:Nat) (y:Fx),sl[j]? = some (some y)→y.blk≠x.blk:=fun j y hy e=>by
  have:=(h.fr j y hy).box.lt;omega
 refine ⟨_,h.slots (bk:=fun nm k=>if (nm,k)=(x.f.name,x.f.k) then x.blk else X.bk nm k) (W:=putM X.W (x.f.name,x.f.k) x.blk) (fun j hj h1=>?_) hF hlt (by rw [List.length_set];exact box) ?_ (fun j y hy=>?_) (fun j k y z hy hz e=>?_) (fun j y hy=>?_) (fun nm ks he k hk'=>?_) wher (fun nm k=>?_) (fun nm k hk'=>(kx nm k).2 (.inl (h.held nm k hk'))) ?_ (fun j y hy=>?_) (by rw [List.length_set];exact h.most)⟩
 ·rcases h1 with rfl|⟨⟨c,hc⟩,hg⟩
  ·exact sm hj (fun e=>h.notdm h.box e.symm) (fun e=>h.notdm h.row e.symm) (fun e=>h.two e.symm)
  ·exact sm hj (fun e=>zal hc h.box (by decide) e) hg (h.notwb hc)
 ·rw [zet];show Box w' B.gr _ ((rowC sl).set i (dpt x.blk)).toArray;rw [←List.setIfInBounds_toArray];exact row
 ·rcases at_ j y hy with ⟨-,rfl⟩|⟨-,hy⟩
  ·exact hx
  ·obtain ⟨p1,p2,p3⟩:=h.inP.fr j y hy;have F:=h.fr j y hy;refine F.same (sm p1 (zal F.box h.box (by decide)) (zal F.box h.row (by decide)) (h.notwb F.box)) (sm p2 (zal F.file h.box (by decide)) (zal F.file h.row (by decide)) (h.notwb F.file)) (fun g hg=>?_);obtain ⟨c,f,hc⟩:=F.text.cells hg;exact sm (p3 g hg) (zal hc h.box (by decide)) (zal hc h.row (by decide)) (h.notwb hc)
 ·rcases at_ j y hy with ⟨q1,q2⟩|⟨-,hy2⟩
  ·rcases at_ k z hz with ⟨q3,-⟩|⟨-,hz2⟩
   ·rw [q1,q3]
   ·exact absurd (by rw [←e,q2]) (hold k z hz2)
  ·rcases at_ k z hz with ⟨q3,q4⟩|⟨-,hz2⟩
   ·exact absurd (by rw [e,q4]) (hold j y hy2)
   ·exact h.apart _ _ _ _ hy2 hz2 e
 ·rcases at_ j y hy with ⟨-,rfl⟩|⟨-,hy2⟩
  ·exact if_pos rfl
  ·show (if (y.f.name,y.f.k)=(x.f.name,x.f.k) then x.blk else X.bk y.f.name y.f.k)=y.blk;rw [if_neg (hbk _ _ (mem_keys.2 ⟨j,y.f,zaH hy2,rfl,rfl⟩))];exact h.bk j y hy2
 ·show (if (nm,k)=(x.f.name,x.f.k) then x.blk else X.bk nm k)=X.bk nm k;rw [if_neg (hbk nm k (h.held nm k (by rw [znr h.dlok he];exact hk')))]
 ·show lookM (putM X.W (x.f.name,x.f.k) x.blk) (nm,k)=_;rw [zhT,h.look];by_cases e:(nm,k)=(x.f.name,x.f.k)
  ·rw [if_pos e,if_pos ((kx nm k).2 (.inr e)),if_pos e]
  ·rw [if_neg e,if_neg e];by_cases e2:some (nm,k)∈zac (frs sl)
   ·rw [if_pos e2,if_pos ((kx nm k).2 (.inl e2))]
   ·rw [if_neg e2,if_neg (fun hm=>by rcases (kx nm k).1 hm with h1|h1;exact e2 h1;exact e h1)]
 ·intro a b y ha hb;obtain ⟨n1,k1⟩:=y;have look:∀ a,(zac (frs (sl.set i (some x))))[a]? = some (some (n1,k1))→(a=i∧(n1,k1)=(x.f.name,x.f.k))∨(a≠i∧(zac (frs sl))[a]? = some (some (n1,k1))):=fun a1 h1=>by
   rw [zbL,zbE] at h1;cases e:(sl.set i (some x))[a1]? with
   | none=>rw [e] at h1;cases h1
   | some o=>
    rw [e] at h1;cases o with
    | none=>simp at h1
    | some y=>
     simp only [Option.map_some,Option.some.injEq] at h1;rcases at_ a1 y e with ⟨q1,q2⟩|⟨q1,q2⟩
     ·exact .inl ⟨q1,by rw [←h1,q2]⟩
     ·refine .inr ⟨q1,?_⟩;rw [zbA (zaH q2),h1]
  rcases look a ha with ⟨q1,q2⟩|⟨-,q2⟩
  ·rcases look b hb with ⟨q3,-⟩|⟨-,q4⟩
   ·rw [q1,q3]
   ·exact absurd q2 (hbk _ _ (List.mem_of_getElem? q4))
  ·rcases look b hb with ⟨-,q4⟩|⟨-,q4⟩
   ·exact absurd q4 (hbk _ _ (List.mem_of_getElem? q2))
   ·exact h.one a b _ q2 q4
 ·rcases at_ j y hy with ⟨-,rfl⟩|⟨-,hy2⟩
  ·exact hin
  ·obtain ⟨p1,p2,p3⟩:=h.inP.fr j y hy2;exact ⟨hF _ p1,hF _ p2,fun g hg=>hF _ (p3 g hg)⟩
end
section
variable {K:DiskOk} {w0 w w':World} {B:PB} {X X':PX} {Fd Fp Fd' Fp':Nat→Prop} {sl sl':List (Option Fx)} {p p':Pst}
def HoldV (K:DiskOk) (w0 w:World) (B:PB) (F:Nat→Prop) (q:Pst×Nat×Nat) (e:Ending) (w':World):Prop:=
 ∃ v,e = .returned (.tuple #[v, .int .i64 (q.2.2:Int)])∧∃ Fd' Fp' X' sl',PHave K w0 w' B Fd' Fp' X' sl' q.1∧Turns w w' F (Both Fd' Fp')∧(q.2.2=0→∃ x,sl'[q.2.1]? = some (some x)∧v = .pointer (some ⟨x.blk,0,none⟩))∧(q.2.2≠0→v = .pointer none)
theorem zjw (PK:PageOk) (h:PHave K w0 w B Fd Fp X sl p) (hZ:K.Z w0) (hS:Sizes w0) {M:Nat} (hb:Bnd M p.fr) (hM:M≤1000000000000) (hbig:p.mostR≤100000)
 {nm:List UInt8} {k:Nat} (hk:some (nm,k)∉zac p.fr) (hnm:nm.length≤24) {fb:Nat} (hf:PfAt w fb B.db nm) (hfF:¬ Both Fd Fp fb) {wA:World} {FA:Nat→Prop} (TA:Turns wA w FA (Both Fd Fp)) (hw0:w0.heap.size≤wA.heap.size) (hf0:wA.heap.size≤fb)
 {A:Option Addr} {c:Nat} {l:List UInt8} (ho:Own w wA.heap.size 5 1 (.slice A l.length c) l.length (cel l)) (hoF:∀ g,(Value.slice A l.length c).ownBlock=some g→¬ Both Fd Fp g) :
 Calls Tryz.prog 148 #[.pointer (some ⟨B.pb,0,none⟩), .pointer (some ⟨fb,0,none⟩), .agg #[.string (str nm), .int .i64 (k:Int)], .slice A l.length c] w (HoldV K w0 wA B FA (holdS p nm k l)):=by
 have hts:=zbM h.ok;obtain ⟨q,hq⟩:∃ q,takeS p=q:=⟨_,rfl⟩
 have kA:=zA w (.cells #[.string (str nm), .int .i64 (k:Int)] 49);have TK:=zH (zpu PK (h.keep kA) hZ hS hb hM (by omega));unfold holdS;rw [hq] at hts TK ⊢;obtain ⟨q1,i,E⟩:=q;simp only;by_cases hE:E=0
 ·subst hE;rw [if_neg (by simp)];have hni:=hts.at_ rfl;have hkq:some (nm,k)∉zac q1.fr:=fun hm=>hk (hts.keys _ hm)
  have hok:=(za2 h.ok hk hnm l).1.ok;unfold holdS at hok;rw [hq] at hok;simp only [ne_eq,not_true_eq_false,if_false] at hok;have hmostR:=hts.mostR;have hres:=zbe (fun o:Option Frm=>o.isSome) (l:=q1.fr) (i:=i) (y:=none) (some ⟨nm,k,l,0,false⟩) hni;have hpin:=zbe isPin (l:=q1.fr) (i:=i) (y:=none) (some ⟨nm,k,l,0,false⟩) hni;simp only [Option.isSome_none,Option.isSome_some,Bool.false_eq_true,if_false,if_true,Nat.add_zero] at hres;simp only [isPin,Nat.lt_irrefl,decide_false,Bool.false_eq_true,if_false,Nat.add_zero] at hpin;have AT:=zH (fun (w2:World) (F2:Nat→Prop) (T2:Turns (w.alloc (.cells #[.string (str nm), .int .i64 (k:Int)] 49)) w2 (Both Fd Fp) F2)=>
   show Box w2 w.heap.size 49 #[.string (str nm), .int .i64 (k:Int)]∧PfAt w2 fb B.db nm∧Own w2 wA.heap.size 5 1 (.slice A l.length c) l.length (cel l)∧¬ F2 fb∧(∀ g,(Value.slice A l.length c).ownBlock=some g→¬ F2 g) from by
    have hF:∀ i,Both Fd Fp i→i<w.heap.size:=fun i hi=>by
     rcases hi with hi|hi
     ·exact K.lt h.D.D i hi
     ·exact h.I.lt i hi
    refine ⟨(Box.new w _ _).turned T2 (fun e=>by have:=hF _ e;omega),Box.turned (hf.keep kA) T2 hfF,(ho.keep kA).turns T2 hoF,T2.notIn (Nat.lt_of_lt_of_le hf.lt kA.size) hfF,fun g hg=>T2.notIn (Nat.lt_of_lt_of_le (ho.lt g hg).2 kA.size) (hoF g hg)⟩)
  have H0:=zH (And.intro hf0 hw0);have EN:=zH (fun (V:World) (W:List ((List UInt8×Nat)×Nat)) (M:MapW plV dpt V B.wb W) (bk:List UInt8→Nat→Nat) (look:∀ nm k,lookM W (nm,k)=if some (nm,k)∈zac q1.fr then some (bk nm k) else none) (b:Nat)=>
   zjv (P:=Tryz.prog) zd8 (z:=.pointer none) zjs M (nm,k) (fun hm=>by
    obtain ⟨⟨p2,b2⟩,hm2,e⟩:=List.mem_map.1 hm;simp only at e;have h1:=zeY M.once (show ((nm,k),b2)∈W from by rw [←e];exact hm2);rw [look,if_neg hkq] at h1;cases h1) b)
  have FIN:=zH (fun (w2:World) (Fd2 Fp2:Nat→Prop) (X2:PX) (s2:List (Option Fx)) (h2:PHave K w0 w2 B Fd2 Fp2 X2 s2 q1) (f2:PfAt w2 fb B.db nm) (o2:Own w2 wA.heap.size 5 1 (.slice A l.length c) l.length (cel l)) (nf2:¬ Both Fd2 Fp2 fb) (no2:∀ g,(Value.slice A l.length c).ownBlock=some g→¬ Both Fd2 Fp2 g) (T2:Turns wA w2 FA (Both Fd2 Fp2)) (w7:World)
   (hO:Only w2 w7 (fun j=>j=B.pb∨j=B.gr∨j=B.wb)) (hbx:Box w7 w2.heap.size 196 #[.string (str nm), .int .i64 (k:Int), .pointer (some ⟨fb,0,none⟩), .slice A l.length c, .int .i64 0, .bool false])
   (box:Box w7 B.pb 156 (((plC B s2.length (tally q1.hand q1.fr q1.mostR q1.mostP)).setIfInBounds 5 (.int .i64 ((resN q1.fr+1:Nat):Int))).setIfInBounds (5+1) (.int .i64 ((max q1.mostR (resN q1.fr+1):Nat):Int))))
   (row:Box w7 B.gr 194 ((rowC s2).toArray.setIfInBounds i (dpt w2.heap.size))) (wher:MapW plV dpt w7 B.wb (putM X2.W (nm,k) w2.heap.size))=>
   show ∃ Fd' Fp' X' sl',PHave K w0 w7 B Fd' Fp' X' sl' {q1 with fr:=q1.fr.set i (some ⟨nm,k,l,0,false⟩),mostR:=max q1.mostR (resN (q1.fr.set i (some ⟨nm,k,l,0,false⟩)))}∧Turns wA w7 FA (Both Fd' Fp')∧∃ x,sl'[i]? = some (some x)∧Value.pointer (some ⟨w2.heap.size,0,none⟩) = .pointer (some ⟨x.blk,0,none⟩) from by
   have hs2:s2[i]? = some none:=by have:=hni;rw [h2.fr] at this;exact zf2 this
   have hil:=(zI9.1 hs2).1;have hFl:∀ j,Fp2 j→j<w2.heap.size:=h2.I.lt;have key:some ((⟨w2.heap.size,fb,A,c,⟨nm,k,l,0,false⟩⟩:Fx).f.name,(⟨w2.heap.size,fb,A,c,⟨nm,k,l,0,false⟩⟩:Fx).f.k)∉zac (frs s2):=by rw [←h2.fr];exact hkq
   have notIn:∀ {j:Nat},j<w2.heap.size→¬ Both Fd2 Fp2 j→w7.heap[j]? = w2.heap[j]?:=(fun hj hn=>hO.block _ hj (fun e=>hn (.inr (by rcases e with rfl|rfl|rfl;exact h2.I.inP.pb;exact h2.I.inP.gr;exact h2.I.inP.wb))));have FX:FxAt w7 B.db ⟨w2.heap.size,fb,A,c,⟨nm,k,l,0,false⟩⟩:=⟨hbx,(notIn f2.lt nf2).trans f2,(o2.base_le (Nat.zero_le _)).same fun g hg=>notIn (o2.lt g hg).2 (no2 g hg)⟩
   have e1:resN (q1.fr.set i (some ⟨nm,k,l,0,false⟩))=resN q1.fr+1:=hres;have e2:pinN (q1.fr.set i (some ⟨nm,k,l,0,false⟩))=pinN q1.fr:=hpin;obtain ⟨X7,I7⟩:=h2.I.filled (w':=w7) (x:=⟨w2.heap.size,fb,A,c,⟨nm,k,l,0,false⟩⟩) (Fp':=fun j=>Fp2 j∨j=w2.heap.size∨j=fb∨(Value.slice A l.length c).ownBlock=some j)
    (t':={tally q1.hand q1.fr q1.mostR q1.mostP with rn:=resN q1.fr+1,rm:=max q1.mostR (resN q1.fr+1)}) hs2 key (Nat.le_refl _) hO box row wher FX (fun _ h=>.inl h) (fun j hj=>by
     rcases hj with hj|rfl|rfl|hj
     ·exact Nat.lt_of_lt_of_le (hFl j hj) hO.size
     ·exact hbx.lt
     ·exact Nat.lt_of_lt_of_le f2.lt hO.size
     ·exact Nat.lt_of_lt_of_le (o2.lt j hj).2 hO.size) ⟨.inr (.inl rfl), .inr (.inr (.inl rfl)),fun g hg=>.inr (.inr (.inr hg))⟩
   have T7:Only w2 w7 Fp2:=hO.more (fun j e=>by rcases e with rfl|rfl|rfl;exact h2.I.inP.pb;exact h2.I.inP.gr;exact h2.I.inP.wb);refine ⟨Fd2,_,X7,_,⟨⟨K.same h2.D.D (fun j hj=>T7.block j (K.lt h2.D.D j hj) (fun e=>h2.ap j e hj)) hO.size,h2.D.low,?_⟩,I7.tal ?_,?_,hok,fun j hj=>?_,fun j hj hd=>?_⟩,⟨T2.only.trans T7 (fun j hj=>T2.next j (.inr hj)),fun j hj=>?_⟩,⟨_,by rw [List.getElem?_set,if_pos rfl,if_pos hil],rfl⟩⟩
   ·exact Turns.keeps h2.D.kp (⟨T7,fun _ h=>.inl h⟩:Turns w2 w7 Fp2 Fp2) h2.low
   ·unfold tally;simp only;rw [e1,e2]
   ·show q1.fr.set i _=frs (s2.set i _);rw [zbp,h2.fr];rfl
   ·rcases hj with hj|rfl|rfl|hj
    ·exact h2.low j hj
    ·exact h2.D.kp.size
    ·exact Nat.le_trans H0.out.2 H0.out.1
    ·exact Nat.le_trans H0.out.2 (o2.lt j hj).1
   ·rcases hj with hj|rfl|rfl|hj
    ·exact h2.ap j hj hd
    ·exact Nat.lt_irrefl _ (K.lt h2.D.D _ hd)
    ·exact nf2 (.inl hd)
    ·exact no2 j hj (.inl hd)
   ·rcases hj with hj|hj|rfl|rfl|hj
    ·exact T2.next j (.inl hj)
    ·exact T2.next j (.inr hj)
    ·exact .inr T2.only.size
    ·exact .inr H0.out.1
    ·exact .inr (o2.lt j hj).1)
  have KA:=zH kA;have gne:B.gr≠w.heap.size:=fun e=>by have:=h.I.lt _ h.I.inP.gr;omega
  have pne:B.pb≠w.heap.size:=fun e=>by have:=h.I.lt _ h.I.inP.pb;omega
  have wne:B.wb≠w.heap.size:=fun e=>by have:=h.I.lt _ h.I.inP.wb;omega
  have gpn:B.pb≠B.gr:=zal h.I.box h.I.row (by decide);have hns:∀ (s2:List (Option Fx)),q1.fr=frs s2→s2[i]? = some none:=fun s2 e=>by have:=hni;rw [e] at this;exact zf2 this
  have NS:=zH hns;have RB:=zH (show resN q1.fr+1≤4096∧q1.mostR≤100000 from by
   have h1:=zgD (q1.fr.set i (some ⟨nm,k,l,0,false⟩));rw [List.length_set] at h1;have h2:=hts.ok.n;have h3:q1.mostR=p.mostR:=hmostR;simp only at h2;have h4:resN (q1.fr.set i (some ⟨nm,k,l,0,false⟩))=resN q1.fr+1:=hres;exact ⟨by rw [←h4];exact Nat.le_trans h1 h2.2,by omega⟩)
  clear h hb hk hnm hf hfF hf0 ho hoF hts hq kA hns hni hkq hok hres hpin hmostR;generalize hsv:str nm=sv at *;go_enter Tryz.func148,Tryz.ntmps148;go_wp2_with fail
  refine TK.out.mono ?_;rintro e w2 ⟨rfl,Fd2,Fp2,X2,s2,h2,t2⟩;have T3:=zH (TA.trans ((Turns.of_keeps KA.out).trans t2));obtain ⟨b0,f2,o2,nf2,no2⟩:=AT.out w2 _ t2;have hs2:=NS.out s2 h2.fr;have hil:=(zI9.1 hs2).1;have kF:=zA w2 (.cells #[.string sv, .int .i64 (k:Int), .pointer (some ⟨fb,0,none⟩), .slice A l.length c, .int .i64 0, .bool false] 196);have bF:=Box.new w2 196 #[.string sv, .int .i64 (k:Int), .pointer (some ⟨fb,0,none⟩), .slice A l.length c, .int .i64 0, .bool false];obtain ⟨W3,hW3⟩:∃ W3,w2.alloc (.cells #[.string sv, .int .i64 (k:Int), .pointer (some ⟨fb,0,none⟩), .slice A l.length c, .int .i64 0, .bool false] 196)=W3:=⟨_,rfl⟩
  rw [hW3] at kF bF;have a0:w2.cell? ⟨w.heap.size,0,none⟩=some (.string sv):=b0.cell 0 rfl;have a1:w2.cell? ⟨w.heap.size,1,none⟩=some (.int .i64 (k:Int)):=b0.cell 1 rfl;have d0:=kF.cellOf a0;have d1:=kF.cellOf a1;have p1:W3.cell? ⟨B.pb,1,none⟩=some (.slice (some ⟨B.gr,0,none⟩) s2.length s2.length):=(h2.I.box.keep kF).cell 1 rfl;have p2:W3.cell? ⟨B.pb,2,none⟩=some (.map (some B.wb)):=(h2.I.box.keep kF).cell 2 rfl;have r1:W3.cell? ⟨B.gr,i,none⟩=some (.pointer none):=(h2.I.row.keep kF).cell i (zbx hs2);have bR0:=h2.I.row.keep kF;have bR:Box W3.drew B.gr 194 (rowC s2).toArray:=bR0;have fz:W3.drew.frozen? ⟨B.gr,i,none⟩=false:=bR.frozen i;obtain ⟨w5,st,r5,O5,N5⟩:=EN.out (W3.setCell ⟨B.gr,i,none⟩ (dpt w2.heap.size)).drew X2.W ((h2.I.wher.keep kF).same (Below.heap_setCell W3 ⟨B.gr,i,none⟩ _ B.wb (fun e=>h2.I.notwb h2.I.row e.symm))) X2.bk (fun nm k=>by rw [h2.fr];exact h2.I.look nm k) w2.heap.size;obtain ⟨w6,r6,M6,O6⟩:=N5 w5 rfl;unfold plV at r5;unfold dpt at r5 r6;simp only [hsv,goInt] at r5 r6;have hii:(i:Int)<(s2.length:Int):=by omega
  have hni2:(s2.length:Int)≤4096:=by have:=h2.I.most;omega
  go_wp2_with fail
  have O3:Only w2 (W3.setCell ⟨B.gr,i,none⟩ (dpt w2.heap.size)).drew (fun j=>j=B.pb∨j=B.gr∨j=B.wb):=((Only.of_keeps kF).weak (fun _ e=>e.elim)).trans (((za7 W3 ⟨B.gr,i,none⟩ (dpt w2.heap.size)).keep (zD _)).more (S':=fun j=>j=B.pb∨j=B.gr∨j=B.wb) (fun j e=>.inr (.inl e))) (fun j hj=>.inl hj);have O6':Only w2 w6 (fun j=>j=B.pb∨j=B.gr∨j=B.wb):=(O3.trans (O5.more (S':=fun j=>j=B.pb∨j=B.gr∨j=B.wb) (fun j e=>.inr (.inr e))) (fun j hj=>.inl hj)).trans (O6.more (S':=fun j=>j=B.pb∨j=B.gr∨j=B.wb) (fun j e=>.inr (.inr e))) (fun j hj=>.inl hj);have O56:Only (W3.setCell ⟨B.gr,i,none⟩ (dpt w2.heap.size)).drew w6 (fun j=>j=B.wb):=O5.trans O6 (fun j hj=>.inl hj);have bP0:Box (W3.setCell ⟨B.gr,i,none⟩ (dpt w2.heap.size)).drew B.pb 156 (plC B s2.length (tally q1.hand q1.fr q1.mostR q1.mostP)):=(Below.heap_setCell W3 ⟨B.gr,i,none⟩ _ B.pb gpn).trans (h2.I.box.keep kF);have bP6:=zH (show Box w6 B.pb 156 (plC B s2.length (tally q1.hand q1.fr q1.mostR q1.mostP)) from (O56.block _ bP0.lt (fun e=>h2.I.notwb h2.I.box e)).trans bP0);have bG0:Box (W3.setCell ⟨B.gr,i,none⟩ (dpt w2.heap.size)).drew B.gr 194 ((rowC s2).toArray.setIfInBounds i (dpt w2.heap.size)):=Box.set bR0 i _;have bG6:=zH (show Box w6 B.gr 194 ((rowC s2).toArray.setIfInBounds i (dpt w2.heap.size)) from (O56.block _ bG0.lt (fun e=>h2.I.notwb h2.I.row e)).trans bG0);have bN0:Box (W3.setCell ⟨B.gr,i,none⟩ (dpt w2.heap.size)).drew w2.heap.size 196 #[.string sv, .int .i64 (k:Int), .pointer (some ⟨fb,0,none⟩), .slice A l.length c, .int .i64 0, .bool false]:=(Below.heap_setCell W3 ⟨B.gr,i,none⟩ _ w2.heap.size (fun e=>by have h1:w2.heap.size=B.gr:=e;have:=h2.I.row.lt;omega)).trans bF;have bN6:=zH (show Box w6 w2.heap.size 196 #[.string sv, .int .i64 (k:Int), .pointer (some ⟨fb,0,none⟩), .slice A l.length c, .int .i64 0, .bool false] from (O56.block _ bN0.lt (fun e=>by have h1:w2.heap.size=B.wb:=e;have:=h2.I.wher.lt;omega)).trans bN0);have OH:=zH O6';have MH:=zH M6;have FN:=zH (FIN.out w2 Fd2 Fp2 X2 s2 h2 f2 o2 nf2 no2 (T3.out));have AD:=zH (fun (V:World) (kk:Keeps w6 V)=>zhp V B.pb 5 (resN q1.fr) q1.mostR (resN q1.fr+1) 1 _ (by decide) (bP6.out.keep kk) rfl rfl (by omega) ⟨by have:=RB.out;omega,by have:=RB.out;omega,by have:=RB.out;omega⟩);go_region
  clear r5 r6 N5 O5 O6 O3 O6' O56 bP0 bG0 bN0 bF kF d0 d1 p1 p2 r1 bR bR0 fz a0 a1 b0 f2 o2 nf2 no2 M6 hs2 hil T3;go_wp2_with fail
  refine (AD.out _ (zab _)).mono ?_;rintro e w7 ⟨rfl,b7,o7⟩;have n1:w2.heap.size≠B.pb:=fun e=>by have:=h2.I.box.lt;omega
  have R:=zH (FN.out w7 (OH.out.trans (o7.more (S':=fun j=>j=B.pb∨j=B.gr∨j=B.wb) (fun j e=>.inl e)) (fun j hj=>.inl hj)) ((o7.block _ bN6.out.lt n1).trans bN6.out) b7 ((o7.block _ bG6.out.lt (fun e=>gpn e.symm)).trans bG6.out) (MH.out.same (o7.block _ MH.out.lt (fun e=>h2.I.notwb h2.I.box e.symm))));clear b7 o7 FN OH MH bN6 bG6 bP6 AD;go_wp2;go_returns;obtain ⟨Fd',Fp',X',sl',g1,g2,x,g3,g4⟩:=R.out;exact ⟨_,rfl,Fd',Fp',X',sl',g1,g2,fun _=>⟨x,g3,g4⟩,fun h=>absurd rfl h⟩
 ·rw [if_pos hE];have hne:((E:Int) != 0)=true:=by rw [bne_iff_ne];omega
  have KA:=zH kA;clear h hb hk hnm hf hfF hf0 ho hoF hts hq kA;generalize str nm=sv at *;go_enter Tryz.func148,Tryz.ntmps148;go_wp2_with fail
  refine TK.out.mono ?_;rintro e w2 ⟨rfl,Fd2,Fp2,X2,s2,H2,T2⟩;have T3:=zH (TA.trans ((Turns.of_keeps KA.out).trans T2));have H3:=zH H2;clear H2 T2;go_wp2;go_returns;exact ⟨_,rfl,Fd2,Fp2,X2,s2,H3.out,T3.out,fun h=>absurd h hE,fun _=>rfl⟩
end
section
variable {K:DiskOk} {w0 w w':World} {B:PB} {X X':PX} {Fd Fp Fd' Fp':Nat→Prop} {sl sl':List (Option Fx)} {p p':Pst}
theorem PHave.use (h:PHave K w0 w B Fd Fp X sl p) {i:Nat} {x:Fx} (hx:sl[i]? = some (some x)) :
 PHave K w0 (w.setCell ⟨x.blk,5,none⟩ (.bool true)) B Fd Fp X (sl.set i (some (x.with_ x.f.pins true))) (onFr p i useF)∧Turns w (w.setCell ⟨x.blk,5,none⟩ (.bool true)) (Both Fd Fp) (Both Fd Fp):=by
 have hfx:p.fr[i]? = some (some x.f):=by rw [h.fr];exact zaH hx
 have ho:=za7 w ⟨x.blk,5,none⟩ (.bool true);have FX:=h.I.fr i x hx;have I1:=h.I.with_ hx x.f.pins true ho (show Box _ x.blk 196 (x.with_ x.f.pins true).cells from Box.set FX.box 5 (.bool true));have ek:zac (onFr p i useF).fr=zac p.fr:=zbl (g:=useF) (fun _=>rfl) (fun _=>rfl) i;have ep:pinN (onFr p i useF).fr=pinN p.fr:=zcn (g:=useF) (fun _=>rfl) i;have T:Turns w (w.setCell ⟨x.blk,5,none⟩ (.bool true)) Fp Fp:=Turns.only_in ho (fun j e=>by rw [show j=x.blk from e];exact (h.I.inP.fr i x hx).1);exact h.pool (p':=onFr p i useF) rfl (I1.tal (by
  unfold tally;rw [ep,zbs (onFr p i useF).fr,ek,←zbs];rfl)) T (by rw [zcb hfx,zjt,h.fr];rfl) (h.ok.on (g:=useF) (fun _=>rfl) (fun _=>rfl) i p.mostP (by rw [ep];exact h.ok.mostP))
theorem znt (PK:PageOk) (h:PHave K w0 w B Fd Fp X sl p) (hZ:K.Z w0) (hS:Sizes w0) {M:Nat} (hb:Bnd M p.fr) (hM:M≤1000000000000) (hbig:p.mostR≤100000)
 {nm:List UInt8} {k:Nat} (hnm:nm.length≤24) (hk:k≤M) {fb:Nat} (hf:PfAt w fb B.db nm) (hfF:¬ Both Fd Fp fb) {wA:World} {FA:Nat→Prop} (TA:Turns wA w FA (Both Fd Fp)) (hw0:w0.heap.size≤wA.heap.size) (hf0:wA.heap.size≤fb) :
 Calls Tryz.prog 210 #[.pointer (some ⟨B.pb,0,none⟩), .pointer (some ⟨fb,0,none⟩), .agg #[.string (str nm), .int .i64 (k:Int)]] w (HoldV K w0 wA B FA (zav p nm k)):=by
 have kA:=zA w (.cells #[.string (str nm), .int .i64 (k:Int)] 49);have hszA:wA.heap.size≤w.heap.size:=TA.only.size;have LT:∀ i,Both Fd Fp i→i<w.heap.size:=fun i hi=>by
  rcases hi with hi|hi
  ·exact K.lt h.D.D i hi
  ·exact h.I.lt i hi
 have c2:∀ V,Keeps w V→V.cell? ⟨B.pb,2,none⟩=some (.map (some B.wb)):=fun V kk=>(h.I.box.keep kk).cell 2 rfl
 have LK:∀ V,Keeps w V→(Instr.lookup 151 (.map (some B.wb)) (.agg #[.string (str nm), .int .i64 (k:Int)]) false).run Tryz.prog V = .ok (((lookM X.W (nm,k)).map dpt).getD (.pointer none)) V:=fun V kk=>by
  have:=zbr (P:=Tryz.prog) zd8 (z:=.pointer none) zjs (h.I.wher.keep kk) (nm,k) false;exact this
 rw [h.I.look] at LK;unfold zav;cases e:p.fr.findIdx? (isAt nm k) with
 | some i=>
  obtain ⟨f,hfi,n1,n2⟩:=zaX e;rw [h.fr] at hfi;obtain ⟨x,hx,rfl⟩:=zbO hfi;have hm:some (nm,k)∈zac (frs sl):=mem_keys.2 ⟨i,x.f,hfi,n1,n2⟩;have hbk:X.bk nm k=x.blk:=by rw [←n1,←n2];exact h.I.bk i x hx
  rw [if_pos hm,hbk] at LK;simp only [Option.map_some,Option.getD_some,dpt] at LK;have US:=zH (fun (V:World) (kk:Keeps w V)=>And.intro ((h.keep kk).use hx) (Turns.of_keeps (S:=Both Fd Fp) kk));have FZ:=zH (fun (V:World) (kk:Keeps w V)=>show V.frozen? ⟨x.blk,5,none⟩=false∧V.cell? ⟨x.blk,5,none⟩=some (.bool x.f.used) from ⟨((h.I.fr i x hx).box.keep kk).frozen 5,((h.I.fr i x hx).box.keep kk).cell 5 rfl⟩);have hil:=(zI9.1 hx).1;have RES:=zH (show (sl.set i (some (x.with_ x.f.pins true)))[i]? = some (some (x.with_ x.f.pins true)) from by rw [List.getElem?_set,if_pos rfl,if_pos hil]);have C2:=c2 _ kA;have L2:=LK _ (zK kA (zD _));obtain ⟨z0,z5⟩:=FZ.out _ (zK kA (zD _));have KA:=zH kA;have TH:=zH TA;clear h hb hf hfF LT c2 LK hfi n1 n2 hm hbk e hx hil kA TA;simp only;generalize str nm=sv at *;generalize hbb:x.blk=bb at *;go_enter Tryz.func210,Tryz.ntmps210;go_wp2;go_region
  go_wp2;go_returns;obtain ⟨⟨g1,g2⟩,g3⟩:=US.out _ (zK KA.out (zD _));exact ⟨_,rfl,Fd,Fp,X,_,g1,TH.out.trans (g3.trans g2),fun _=>⟨_,RES.out,show Value.pointer (some ⟨bb,0,none⟩)=Value.pointer (some ⟨x.blk,0,none⟩) from by rw [hbb]⟩,fun h=>absurd rfl h⟩
 | none=>
  have hkn:=idx_none.1 e;have hkn2:¬ some (nm,k)∈zac (frs sl):=by rw [←h.fr];exact hkn
  rw [if_neg hkn2] at LK;simp only [Option.map_none,Option.getD_none] at LK;obtain ⟨l,E,hr⟩:∃ l E,readP p.d nm (k:Int)=(l,E):=⟨_,_,rfl⟩
  simp only;rw [hr];simp only;have C2:=c2 _ kA;have L2:=LK _ (zK kA (zD _));have kA2:=zK kA (zD _);have hki:(k:Int)≤1000000000000:=by omega
  have RD:=zH (fun (V:World) (kk:Keeps w V)=>zl1 PK (h.D.keep kk) hZ hS (hf.keep kk) (by omega) (k:Int) ⟨by omega,by omega⟩ hr);have a0:(w.alloc (.cells #[.string (str nm), .int .i64 (k:Int)] 49)).cell? ⟨w.heap.size,0,none⟩=some (.string (str nm)):=(Box.new w 49 #[.string (str nm), .int .i64 (k:Int)]).cell 0 rfl;have a1:(w.alloc (.cells #[.string (str nm), .int .i64 (k:Int)] 49)).cell? ⟨w.heap.size,1,none⟩=some (.int .i64 (k:Int)):=(Box.new w 49 #[.string (str nm), .int .i64 (k:Int)]).cell 1 rfl;by_cases hE:E=0
  ·subst hE;rw [if_neg (by simp)];have HO:=zH (fun (V:World) (kk:Keeps w V) (hl:w.heap.size≤V.heap.size) (A:Option Addr) (c:Nat) (W:World) (kv:Keeps V W) (ho:Own W V.heap.size 5 1 (.slice A l.length c) l.length (cel l))=>
    zjw PK (h.keep (zK kk kv)) hZ hS hb hM hbig hkn hnm (hf.keep (zK kk kv)) hfF (TA.trans (Turns.of_keeps (zK kk kv))) hw0 hf0 (ho.base_le (Nat.le_trans hszA hl)) (fun g hg hF=>by
     have h1:=(ho.lt g hg).1;have h2:=LT g hF;omega))
   have KA:=zH kA;clear h hb hf hfF LT c2 LK hkn hkn2 e hr kA TA;generalize hsv:str nm=sv at *;generalize hqq:holdS p nm k l=qq at *;obtain ⟨q1,i,E⟩:=qq;simp only;by_cases hE:E=0
   ·subst hE;rw [if_neg (by simp)];go_enter Tryz.func210,Tryz.ntmps210;go_wp2;go_region
    go_wp2_with fail
    refine (RD.out _ (zK KA.out (zD _))).mono ?_;rintro e w2 ⟨A,c,rfl,hc,ho,k2⟩;have HH:=zH (HO.out _ (zK KA.out (zD _)) (zK KA.out (zD _)).size A c w2 k2 ho);have d0:=k2.cellOf (show ((w.alloc (.cells #[.string sv, .int .i64 (k:Int)] 49)).drew).cell? ⟨w.heap.size,0,none⟩=some (.string sv) from a0);have d1:=k2.cellOf (show ((w.alloc (.cells #[.string sv, .int .i64 (k:Int)] 49)).drew).cell? ⟨w.heap.size,1,none⟩=some (.int .i64 (k:Int)) from a1);clear ho k2 hc;go_wp2_with fail
    refine HH.out.mono ?_;rintro e w3 ⟨v,rfl,Fd1,Fp1,X1,s1,h1,t1,f1,-⟩;obtain ⟨x,hx,rfl⟩:=f1 rfl;have z0:=(h1.I.fr _ x hx).box.frozen 5;have z5:=(h1.I.fr _ x hx).box.cell 5 rfl;have US:=zH (h1.use hx);have T1:=zH t1;have hil:=(zI9.1 hx).1;have RES:=zH (show (s1.set i (some (x.with_ x.f.pins true)))[i]? = some (some (x.with_ x.f.pins true)) from by rw [List.getElem?_set,if_pos rfl,if_pos hil]);clear h1 t1 f1 hx hil;generalize hbb:x.blk=bb at *;go_wp2;go_returns;obtain ⟨g1,g2⟩:=US.out;exact ⟨_,rfl,Fd1,Fp1,X1,_,g1,T1.out.trans g2,fun _=>⟨_,RES.out,show Value.pointer (some ⟨bb,0,none⟩)=Value.pointer (some ⟨x.blk,0,none⟩) from by rw [hbb]⟩,fun h=>absurd rfl h⟩
   ·rw [if_pos hE];have hne:((E:Int) != 0)=true:=by rw [bne_iff_ne];omega
    go_enter Tryz.func210,Tryz.ntmps210;go_wp2;go_region
    go_wp2_with fail
    refine (RD.out _ (zK KA.out (zD _))).mono ?_;rintro e w2 ⟨A,c,rfl,hc,ho,k2⟩;have HH:=zH (HO.out _ (zK KA.out (zD _)) (zK KA.out (zD _)).size A c w2 k2 ho);have d0:=k2.cellOf (show ((w.alloc (.cells #[.string sv, .int .i64 (k:Int)] 49)).drew).cell? ⟨w.heap.size,0,none⟩=some (.string sv) from a0);have d1:=k2.cellOf (show ((w.alloc (.cells #[.string sv, .int .i64 (k:Int)] 49)).drew).cell? ⟨w.heap.size,1,none⟩=some (.int .i64 (k:Int)) from a1);clear ho k2 hc;go_wp2_with fail
    refine HH.out.mono ?_;rintro e w3 ⟨v,rfl,Fd1,Fp1,X1,s1,h1,t1,-,-⟩;have H1:=zH h1;have T1:=zH t1;clear h1 t1;go_wp2;go_returns;exact ⟨_,rfl,Fd1,Fp1,X1,s1,H1.out,T1.out,fun h=>absurd h hE,fun _=>rfl⟩
  ·rw [if_pos hE];have hne:((E:Int) != 0)=true:=by rw [bne_iff_ne];omega
   have PH:=zH (fun (V:World) (kk:Keeps w V)=>And.intro (h.keep kk) (TA.trans (Turns.of_keeps (S:=Both Fd Fp) kk)));have KA:=zH kA;clear h hb hf hfF LT c2 LK hkn hkn2 e hr kA TA;generalize str nm=sv at *;go_enter Tryz.func210,Tryz.ntmps210;go_wp2;go_region
   go_wp2_with fail
   refine (RD.out _ (zK KA.out (zD _))).mono ?_;rintro e w2 ⟨A,c,rfl,hc,ho,k2⟩;have R:=zH (PH.out w2 (zK (zK KA.out (zD _)) k2));clear ho k2 hc;go_wp2;go_returns;exact ⟨_,rfl,Fd,Fp,X,sl,R.out.1,R.out.2,fun h=>absurd h hE,fun _=>rfl⟩
end
section
variable {K:DiskOk} {w0 w w':World} {B:PB} {X X':PX} {Fd Fp Fd' Fp':Nat→Prop} {sl sl':List (Option Fx)} {p p':Pst}
theorem PHave.below (h:PHave K w0 w B Fd Fp X sl p):∀ i,Both Fd Fp i→i<w.heap.size:=fun i hi=>by
 rcases hi with hi|hi
 ·exact K.lt h.D.D i hi
 ·exact h.I.lt i hi
theorem zq8 (PK:PageOk) (h:PHave K w0 w B Fd Fp X sl p) (hZ:K.Z w0) (hS:Sizes w0) {M:Nat} (hb:Bnd M p.fr) (hM:M≤1000000000000) (hM2:65536≤M) (hbig:p.mostR≤100000)
 (nm:List UInt8) (hnm:nm.length≤maxLen) (k:Int) (hk:IsI k) :
 Calls Tryz.prog 188 #[.pointer (some ⟨B.pb,0,none⟩), .string (str nm), .int .i64 k] w (HoldV K w0 w B (Both Fd Fp) (getP p nm k)):=by
 have FI:=zH (zc9 h hZ nm hnm hb hM);have PH:=zH (fun (V:World) (kk:Keeps w V)=>And.intro (h.keep kk) (Turns.of_keeps (S:=Both Fd Fp) kk));have hlow:=h.D.kp.size;have hfb:=zen (K.ok h.D.D) h.ok hb hM2 nm;have BR:=zH (fun (V:World) (kk:Keeps w V) (kn:Nat) (hkn:kn≤M) (h24:nm.length≤24) (f:Nat) (hf:PfAt V f B.db nm) (hfl:w.heap.size≤f)=>
  znt PK (h.keep kk) hZ hS hb hM hbig h24 hkn hf (fun hF=>by have:=h.below f hF;omega) (Turns.of_keeps (S:=Both Fd Fp) kk) hlow hfl)
 have h24:(findP p nm).2=0→nm.length≤24:=fun e=>(zcg e).2
 obtain ⟨hk1,hk2⟩:=hk;unfold getP;obtain ⟨n,E,hq⟩:∃ n E,findP p nm=(n,E):=⟨_,_,rfl⟩
 rw [hq] at FI hfb h24 ⊢;simp only at FI hfb h24 ⊢;have H24:=zH h24;clear h hb hq h24;generalize hsv:str nm=sv at *;by_cases hE:E=0
 ·subst hE;rw [if_neg (by simp)];by_cases hk0:k<0
  ·rw [if_pos hk0];go_enter Tryz.func188,Tryz.ntmps188;go_wp2_with fail
   refine FI.out.mono ?_;rintro e w2 ⟨k2,⟨-,f,rfl,hf,hfl⟩|⟨h0,-⟩⟩
   ·have R:=zH (PH.out w2 k2);clear k2 hf;go_wp2;go_returns;exact ⟨_,rfl,Fd,Fp,X,sl,R.out.1,R.out.2,fun h=>absurd (show (1:Nat)=0 from h) (by decide),fun _=>rfl⟩
   ·exact absurd rfl h0
  ·rw [if_neg hk0];obtain ⟨kn,rfl⟩:∃ kn:Nat,k=(kn:Int):=(⟨k.toNat,by omega⟩);rw [Int.toNat_natCast];by_cases hkn:n≤kn
   ·rw [if_pos hkn];have hki:(n:Int)≤(kn:Int):=(by omega);go_enter Tryz.func188,Tryz.ntmps188;go_wp2_with fail
    refine FI.out.mono ?_;rintro e w2 ⟨k2,⟨-,f,rfl,hf,hfl⟩|⟨h0,-⟩⟩
    ·have R:=zH (PH.out w2 k2);clear k2 hf;go_wp2;go_returns;exact ⟨_,rfl,Fd,Fp,X,sl,R.out.1,R.out.2,fun h=>absurd (show (3:Nat)=0 from h) (by decide),fun _=>rfl⟩
    ·exact absurd rfl h0
   ·rw [if_neg hkn];have hki:(kn:Int)<(n:Int):=(by omega);obtain ⟨q,hq⟩:∃ q,zav p nm kn=q:=⟨_,rfl⟩
    rw [hq];go_enter Tryz.func188,Tryz.ntmps188;go_wp2_with fail
    refine FI.out.mono ?_;rintro e w2 ⟨k2,⟨-,f,rfl,hf,hfl⟩|⟨h0,-⟩⟩
    ·have BB:=zH (BR.out w2 k2 kn (by omega) (H24.out (by trivial)) f hf hfl);rw [hq] at BB;clear k2 hf;go_wp2_with fail
     refine BB.out.mono ?_;rintro e w3 ⟨v,rfl,R⟩;have RR:=zH R;clear R;go_wp2;go_returns;exact ⟨v,rfl,RR.out⟩
    ·exact absurd rfl h0
 ·rw [if_pos hE];have hne:((E:Int) != 0)=true:=by rw [bne_iff_ne];omega
  go_enter Tryz.func188,Tryz.ntmps188;go_wp2_with fail
  refine FI.out.mono ?_;rintro e w2 ⟨k2,⟨h0,-⟩|⟨-,rfl⟩⟩
  ·exact absurd h0 hE
  ·have R:=zH (PH.out w2 k2);clear k2;go_wp2;go_returns;exact ⟨_,rfl,Fd,Fp,X,sl,R.out.1,R.out.2,fun h=>absurd h hE,fun _=>rfl⟩
end
section
variable {K:DiskOk} {w0 w w':World} {B:PB} {X X':PX} {Fd Fp Fd' Fp':Nat→Prop} {sl sl':List (Option Fx)} {p p':Pst}
def Left (K:DiskOk) (w0 w w':World) (B:PB) (F:Nat→Prop) (q:Pst):Prop:=∃ Fd' Fp' X' sl',PHave K w0 w' B Fd' Fp' X' sl' q∧Turns w w' F (Both Fd' Fp')
def TextV (K:DiskOk) (w0 w:World) (B:PB) (F:Nat→Prop) (q:Pst) (l:List UInt8) (E:Nat) (e:Ending) (w':World):Prop:=
 ∃ v,e = .returned (.tuple #[v, .int .i64 (E:Int)])∧Own w' w.heap.size 5 1 v l.length (cel l)∧∃ Fd' Fp' X' sl',PHave K w0 w' B Fd' Fp' X' sl' q∧Turns w w' F (Both Fd' Fp')∧(∀ g,v.ownBlock=some g→¬ Both Fd' Fp' g)
theorem TextV.none {E:Nat} (h:PHave K w0 w' B Fd Fp X sl p) {F:Nat→Prop} (t:Turns w w' F (Both Fd Fp)):TextV K w0 w B F p [] E (.returned (.tuple #[.slice none 0 0, .int .i64 (E:Int)])) w':=
 ⟨_,rfl,Own.nil _ _ _ _,Fd,Fp,X,sl,h,t,fun g hg=>by cases hg⟩
theorem zpv {fr:List (Option Frm)} {i:Nat} {f:Frm} (h:fr[i]? = some (some f)):textF fr i=f.b:=by
 unfold textF;rw [h]
theorem zpw (h:PHave K w0 w B Fd Fp X sl p) {i:Nat} {x:Fx} (hx:sl[i]? = some (some x)) (ht:Txt p.fr) :
 Calls Tryz.prog 32 #[.slice x.A x.f.b.length x.c] w fun e w'=>∃ v,e = .returned v∧Own w' w.heap.size 5 1 v x.f.b.length (cel x.f.b)∧Keeps w w':=by
 have ho:=(h.I.fr i x hx).text;obtain ⟨A',c',hv,hc',hcm',hz,-⟩:=ho.form;injection hv with v1 v2 v3;subst v1;subst v3;exact zbN x.A x.f.b.length x.c x.f.b w ho.at_ rfl (fun e=>(hz e).2) (Nat.le_trans (ht i x.f (by rw [h.fr];exact zaH hx)) (by decide))
theorem zl4 (PK:PageOk) (h:PHave K w0 w B Fd Fp X sl p) (hZ:K.Z w0) (hS:Sizes w0) {M:Nat} (hb:Bnd M p.fr) (hM:M≤1000000000000) (hM2:65536≤M) (hbig:p.mostR≤100000) (ht:Txt p.fr)
 (nm:List UInt8) (hnm:nm.length≤maxLen) (k:Int) (hk:IsI k) :
 Calls Tryz.prog 143 #[.pointer (some ⟨B.pb,0,none⟩), .string (str nm), .int .i64 k] w (TextV K w0 w B (Both Fd Fp) (zai p nm k).1 (zai p nm k).2.1 (zai p nm k).2.2):=by
 have G:=zH (zq8 PK h hZ hS hb hM hM2 hbig nm hnm k hk);have TX:=zH (zfr (K.ok h.D.D) ht nm k);unfold zai;obtain ⟨q,hq⟩:∃ q,getP p nm k=q:=⟨_,rfl⟩
 rw [hq] at G TX ⊢;obtain ⟨q1,i,E⟩:=q;simp only at TX ⊢;clear h hb ht hq;generalize str nm=sv at *;by_cases hE:E=0
 ·subst hE;rw [if_neg (by simp)];go_enter Tryz.func143,Tryz.ntmps143;go_wp2_with fail
  refine G.out.mono ?_;rintro e w2 ⟨v,rfl,Fd1,Fp1,X1,s1,h1,t1,f1,-⟩;obtain ⟨x,hx,rfl⟩:=f1 rfl;simp only at hx h1;have c3:w2.cell? ⟨x.blk,3,none⟩=some (.slice x.A x.f.b.length x.c):=(h1.I.fr i x hx).box.cell 3 rfl;have CL:=zH (zpw h1 hx TX.out);have H1:=zH h1;have T1:=zH t1;have TF:=zH (show textF q1.fr i=x.f.b from zpv (by rw [h1.fr];exact zaH hx));clear h1 t1 f1 hx;generalize hl:x.f.b.length=bl at *;go_wp2_with fail
  refine CL.out.mono ?_;rintro e w3 ⟨v,rfl,hv,k3⟩;have K3:=zH k3;have HV:=zH hv;clear hv k3;go_wp2;go_returns;refine ⟨v,rfl,?_,Fd1,Fp1,X1,s1,H1.out.keep K3.out,T1.out.trans (Turns.of_keeps K3.out),fun g hg hF=>?_⟩
  ·show Own _ _ _ _ _ (textF q1.fr i).length (cel (textF q1.fr i));rw [TF.out,hl];exact HV.out.base_le T1.out.only.size
  ·have h2:=(HV.out.lt g hg).1;have h3:=H1.out.below g hF;exact absurd h3 (by show ¬ g<w2.heap.size;exact Nat.not_lt.2 h2)
 ·rw [if_pos hE];have hne:((E:Int) != 0)=true:=by rw [bne_iff_ne];omega
  go_enter Tryz.func143,Tryz.ntmps143;go_wp2_with fail
  refine G.out.mono ?_;rintro e w2 ⟨v,rfl,Fd1,Fp1,X1,s1,h1,t1,-,-⟩;have R:=zH (TextV.none (E:=E) h1 t1);clear h1 t1;go_wp2;go_returns;exact R.out
theorem znu (h:PHave K w0 w B Fd Fp X sl p) (hZ:K.Z w0) {M:Nat} (hb:Bnd M p.fr) (hM:M≤1000000000000) (nm:List UInt8) (hnm:nm.length≤maxLen) :
 Calls Tryz.prog 83 #[.pointer (some ⟨B.pb,0,none⟩), .string (str nm)] w fun e w'=>e = .returned (.tuple #[.int .i64 ((if (findP p nm).2=0 then (findP p nm).1 else 0:Nat):Int), .int .i64 ((findP p nm).2:Int)])∧Keeps w w':=by
 have FI:=zH (zc9 h hZ nm hnm hb hM);clear h hb;obtain ⟨n,E,hq⟩:∃ n E,findP p nm=(n,E):=⟨_,_,rfl⟩
 rw [hq] at FI ⊢;simp only at FI ⊢;generalize str nm=sv at *;by_cases hE:E=0
 ·subst hE;rw [if_pos rfl];go_enter Tryz.func83,Tryz.ntmps83;go_wp2_with fail
  refine FI.out.mono ?_;rintro e w2 ⟨k2,⟨-,f,rfl,-,-⟩|⟨h0,-⟩⟩
  ·have K2:=zH k2;clear k2;go_wp2;go_returns;exact ⟨rfl,K2.out⟩
  ·exact absurd rfl h0
 ·rw [if_neg hE];go_enter Tryz.func83,Tryz.ntmps83;go_wp2_with fail
  refine FI.out.mono ?_;rintro e w2 ⟨k2,⟨h0,-⟩|⟨-,rfl⟩⟩
  ·exact absurd h0 hE
  ·have K2:=zH k2;clear k2;go_wp2;go_returns;exact ⟨rfl,K2.out⟩
theorem zjx (h:PHave K w0 w B Fd Fp X sl p) (hZ:K.Z w0) (nm:List UInt8) (hnm:nm.length≤maxLen) :
 Calls Tryz.prog 47 #[.pointer (some ⟨B.pb,0,none⟩), .string (str nm)] w fun e w'=>e = .returned (.int .i64 ((zaA p nm).2:Int))∧Left K w0 w w' B (Both Fd Fp) (zaA p nm).1:=by
 have CR:=zH (zjr h.D hZ nm hnm (s':=(zaw p.d nm).1) (E:=(zaw p.d nm).2) rfl);have p0:w.cell? ⟨B.pb,0,none⟩=some (.pointer (some ⟨B.db,0,none⟩)):=h.I.box.cell 0 rfl;have H:=zH h;unfold zaA;simp only;obtain ⟨d',hd⟩:∃ d',(zaw p.d nm).1=d':=⟨_,rfl⟩
 obtain ⟨E,hE⟩:∃ E,(zaw p.d nm).2=E:=⟨_,rfl⟩
 rw [hd,hE] at CR ⊢;clear h hd hE;generalize str nm=sv at *;go_enter Tryz.func47,Tryz.ntmps47;go_wp2_with fail
 refine CR.out.mono ?_;rintro e w2 ⟨F',D',t',⟨rfl,f,rfl,-,-,-⟩|⟨hE,rfl⟩⟩
 ·have R:=zH (H.out.disk D' t');clear D' t';go_wp2;go_returns;exact ⟨rfl,F',Fp,X,sl,R.out.1,R.out.2⟩
 ·have R:=zH (H.out.disk D' t');clear D' t';go_wp2;go_returns;exact ⟨rfl,F',Fp,X,sl,R.out.1,R.out.2⟩
end
end Go.Proofs.YtjpldnjldindkaaGreatDoor
