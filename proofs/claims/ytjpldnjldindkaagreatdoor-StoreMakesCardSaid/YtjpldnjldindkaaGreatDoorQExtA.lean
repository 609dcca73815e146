/- Package extsort: step, take, put. -/
import Derived.Test.YtjpldnjldindkaaGreatDoorQRowO
import Derived.ChangeKeysEq
set_option linter.all false
set_option maxHeartbeats 0
set_option maxRecDepth 100000
namespace Go.Proofs.YtjpldnjldindkaaGreatDoor
open Go.RowKit Go.Sort
section
variable {K:DiskOk} {w0 w w':World} {B:PB} {S S' T:Nat→Prop} {p q:Pst} {N Q A C:Nat} {V:Vw} {ns:List (List UInt8)} {nm:List UInt8} {fb rb wb:Nat}
structure RdAt (w:World) (rb:Nat) (t:TypeId) (cs:Array Value) (fb i n:Nat):Prop where
 box:Box w rb t cs
 c0:cs[0]? = some (.pointer (some ⟨fb,0,none⟩))
 c1:cs[1]? = some (.int .i64 (i:Int))
 c2:cs[2]? = some (.int .i64 (n:Int))
variable {t:TypeId} {cs:Array Value} {i n:Nat}
theorem RdAt.cells (h:RdAt w rb t cs fb i n):w.cell? ⟨rb,0,none⟩=some (.pointer (some ⟨fb,0,none⟩))∧w.cell? ⟨rb,1,none⟩=some (.int .i64 (i:Int))∧w.cell? ⟨rb,2,none⟩=some (.int .i64 (n:Int))∧w.frozen? ⟨rb,1,none⟩=false:=
 ⟨h.box.cell 0 h.c0,h.box.cell 1 h.c1,h.box.cell 2 h.c2,h.box.frozen 1⟩
theorem RdAt.keep (h:RdAt w rb t cs fb i n) (k:Keeps w w'):RdAt w' rb t cs fb i n:=⟨h.box.keep k,h.c0,h.c1,h.c2⟩
theorem RdAt.moved (h:RdAt w rb t cs fb i n) (m:Moves T w w' S S') (n1:¬ S rb) (n2:¬ T rb):RdAt w' rb t cs fb i n:=⟨h.box.moved m n1 n2,h.c0,h.c1,h.c2⟩
theorem RdAt.next (h:RdAt w rb t cs fb i n):RdAt (w.setCell ⟨rb,1,none⟩ (.int .i64 ((i:Int)+1))) rb t (cs.setIfInBounds 1 (.int .i64 ((i:Int)+1))) fb (i+1) n:=by
 have hl:1<cs.size:=by
  have:=h.c1;rw [zJ9] at this;exact this.1
 refine ⟨h.box.set 1 _,?_,?_,?_⟩
 ·rw [Array.getElem?_setIfInBounds_ne (by decide)];exact h.c0
 ·rw [Array.getElem?_setIfInBounds_self_of_lt hl];rfl
 ·rw [Array.getElem?_setIfInBounds_ne (by decide)];exact h.c2
theorem zjM (h:RdAt w rb t cs fb n n):Calls Tryz.prog 196 #[.pointer (some ⟨rb,0,none⟩)] w fun e w'=>e = .returned (.tuple #[edG zE, .bool false, .int .i64 0])∧Keeps w w':=by
 have B0:=EdBox.new w 64 zE;have kz:=zA w (.cells #[.int .u32 0, .int .u32 0, .int .u64 0, .int .u32 0] 64);have B1:=zH (show EdBox (w.alloc (.cells #[.int .u32 0, .int .u32 0, .int .u64 0, .int .u32 0] 64)) w.heap.size 64 zE from B0);obtain ⟨x0,x1,x2,-⟩:=(h.keep kz).cells;have KZ:=zH kz;clear B0 kz h;go_enter Tryz.func196,Tryz.ntmps196;go_wp2;go_quiet (fail)
 have k9:=zam (w.alloc (.cells #[.int .u32 0, .int .u32 0, .int .u64 0, .int .u32 0] 64)) nq;generalize (w.alloc (.cells #[.int .u32 0, .int .u32 0, .int .u64 0, .int .u32 0] 64)).drewN nq=w1 at *;have B2:=B1.out.keep k9;obtain ⟨d0,d1,d2,d3⟩:=B2.cells;obtain ⟨g0,g1,g2,g3⟩:=B2.free;have k1:=zH (zK KZ.out k9);go_wp2_with fail
 have B3:=B2.put zE;have K4:=zH (zkk k1.out (b:=w.heap.size) (Nat.le_refl _) zE)
 change bodyPost _ _ _ _ _ (putEd w1 w.heap.size zE)
 generalize putEd w1 w.heap.size zE=W4 at *;obtain ⟨d0,d1,d2,d3⟩:=B3.cells;exact bodyPost_ret (v:=.tuple #[edG zE, .bool false, .int .i64 0]) (by simp [results,Tryz.results196,go_sem,d0,d1,d2,d3,edG]) rfl ⟨rfl,K4.out⟩
theorem ExS.putE (h:ExS K w0 B N Q A C p V ns S w) {b:Nat} (h1:w0.heap.size≤b) (h2:¬ S b) (x:Ed):ExS K w0 B N Q A C p V ns S (putEd w b x):=
 (((h.put ⟨b,0,none⟩ _ h1 h2).put ⟨b,1,none⟩ _ h1 h2).put ⟨b,2,none⟩ _ h1 h2).put ⟨b,3,none⟩ _ h1 h2
theorem Moves.putE {w2:World} (h:Moves T w w2 S S') {b:Nat} (hb:T b∨w.heap.size≤b) (x:Ed):Moves T w (putEd w2 b x) S S':=
 (((h.put ⟨b,0,none⟩ _ hb).put ⟨b,1,none⟩ _ hb).put ⟨b,2,none⟩ _ hb).put ⟨b,3,none⟩ _ hb
theorem RdAt.putE (h:RdAt w rb t cs fb i n) {b:Nat} (hb:rb≠b) (x:Ed):RdAt (putEd w b x) rb t cs fb i n:=
 ⟨(((h.box.far (p:=⟨b,0,none⟩) hb _).far (p:=⟨b,1,none⟩) hb _).far (p:=⟨b,2,none⟩) hb _).far (p:=⟨b,3,none⟩) hb _,h.c0,h.c1,h.c2⟩
def StepV (K:DiskOk) (w0:World) (B:PB) (N Q A C:Nat) (p:Pst) (V:Vw) (ns:List (List UInt8)) (S:Nat→Prop) (w:World) (rb:Nat) (t:TypeId) (cs:Array Value) (fb i n:Nat) (x:Ed) (e:Ending) (w':World):Prop:=
 ∃ q S',ExS K w0 B N Q A C q V ns S' w'∧Moves (fun c=>c=rb) w w' S S'∧Still p q none∧
  ((e = .returned (.tuple #[edG x, .bool true, .int .i64 0])∧RdAt w' rb t (cs.setIfInBounds 1 (.int .i64 ((i:Int)+1))) fb (i+1) n)∨
   (e = .returned (.tuple #[edG zE, .bool false, .int .i64 5])∧RdAt w' rb t cs fb i n∧Q<4*(A*C)+4))
theorem zik (PK:PageOk) (h:ExS K w0 B N Q A C p V ns S w) (hZ:K.Z w0) (hS:Sizes w0) (hN:N≤4096) (b:StrAt w fb B.pb nm 20) (hb:¬ S fb) {l:List Ed} (s:IsS V nm 20 (l.map edB)) (r:RdAt w rb t cs fb i n) (hrb:¬ S rb) (hr0:w0.heap.size≤rb) {x:Ed} (hx:l[i]? = some x) (hok:EdOk x) (hn:i<n) (hi:i≤1000000) :
 Calls Tryz.prog 196 #[.pointer (some ⟨rb,0,none⟩)] w (StepV K w0 B N Q A C p V ns S w rb t cs fb i n x):=by
 have B0:=EdBox.new w 64 zE;have kz:=zA w (.cells #[.int .u32 0, .int .u32 0, .int .u64 0, .int .u32 0] 64);have B1:=zH (show EdBox (w.alloc (.cells #[.int .u32 0, .int .u32 0, .int .u64 0, .int .u32 0] 64)) w.heap.size 64 zE from B0);have hsz:w.heap.size<(w.alloc (.cells #[.int .u32 0, .int .u32 0, .int .u64 0, .int .u32 0] 64)).heap.size:=by simp
 obtain ⟨x0,x1,x2,-⟩:=(r.keep kz).cells;have GT:=zH (fun (W:World) (k:Keeps w W)=>x_get PK (h.keep k) hZ hS hN (b.keep k) hb s i ⟨by omega,by omega⟩ (r:=edB x) (by rw [List.getElem?_map,hx];rfl));have RK:=zH (fun (W:World) (k:Keeps w W)=>r.keep k);have H:=zH h;have HRB:=zH hrb;have RLT:=zH r.box.lt;have H0:=zH hr0;have OKX:=zH hok;have KZ:=zH kz;have HSZ:=zH hsz;have e0:((i:Int) == (n:Int))=false:=by rw [beq_eq_false_iff_ne];omega
 have hi0:(i:Int)≤1000000:=by omega
 clear B0 kz h b s r hx hok hrb hr0 hsz hi;go_enter Tryz.func196,Tryz.ntmps196;go_wp2;go_quiet (fail)
 have k9:=zam (w.alloc (.cells #[.int .u32 0, .int .u32 0, .int .u64 0, .int .u32 0] 64)) nq;have hs9:((w.alloc (.cells #[.int .u32 0, .int .u32 0, .int .u64 0, .int .u32 0] 64)).drewN nq).heap.size=(w.alloc (.cells #[.int .u32 0, .int .u32 0, .int .u64 0, .int .u32 0] 64)).heap.size:=rfl;have HSZ1:=zH (show w.heap.size<((w.alloc (.cells #[.int .u32 0, .int .u32 0, .int .u64 0, .int .u32 0] 64)).drewN nq).heap.size by rw [hs9];exact HSZ.out);generalize (w.alloc (.cells #[.int .u32 0, .int .u32 0, .int .u64 0, .int .u32 0] 64)).drewN nq=w1 at *;have K1:=zH (zK KZ.out k9);have B2:=zH (B1.out.keep k9);clear k9 hs9 B1 KZ x0 x1 x2 HSZ;obtain ⟨x0,x1,x2,-⟩:=(RK.out _ K1.out).cells;have SS:=zH (fun (W:World) (k:Keeps w1 W)=>show W.cell? ⟨rb,0,none⟩=some (.pointer (some ⟨fb,0,none⟩))∧W.cell? ⟨rb,1,none⟩=some (.int .i64 (i:Int)) from ⟨(RK.out _ (zK K1.out k)).cells.1,(RK.out _ (zK K1.out k)).cells.2.1⟩);have SM:=zH (fun (W:World) (S2:Nat→Prop) (m:Turns w1.drew W S S2)=>show W.cell? ⟨rb,0,none⟩=some (.pointer (some ⟨fb,0,none⟩))∧W.cell? ⟨rb,1,none⟩=some (.int .i64 (i:Int)) from by
  have:=((RK.out _ (zK K1.out (zD w1))).box.turned m HRB.out)
  have:=RdAt.cells ⟨this,(RK.out w (zab _)).c0,(RK.out w (zab _)).c1,(RK.out w (zab _)).c2⟩;exact ⟨this.1,this.2.1⟩)
 go_wp2_with fail
 go_region_held3 (fun W=>W.cell? ⟨rb,0,none⟩=some (.pointer (some ⟨fb,0,none⟩))∧W.cell? ⟨rb,1,none⟩=some (.int .i64 (i:Int))) (first|assumption|exact SS.out _ (zD _)) (first
  | (go_at_call 41;refine (GT.out _ (zK K1.out (zD _))).mono ?_;rintro ee w2 ⟨E,tt,q,v,S2,rfl,o2,n2,h2,t2,st2,hres⟩;have s2:=SM.out _ _ t2;have H2:=zH h2;have T2:=zH t2;have O2:=zH o2;have N2:=zH n2;have ST2:=zH st2;have RES:=zH hres;obtain ⟨A2,c2,rfl,-⟩:=o2.form;clear h2 t2 o2 n2 st2 hres))
 clear s2 SS SM;have hnb:¬ S w.heap.size:=H.out.lt (Nat.le_refl _);have BX:=((B2.out.keep (zD w1)).box.turned T2.out hnb)
 have MV:=zH ((Moves.of_keeps (zK K1.out (zD w1)) (fun c=>c=rb) S).then (T2.out.moves _));have NB:=zH (show ¬ S2 w.heap.size from T2.out.notIn (show w.heap.size<w1.drew.heap.size from HSZ1.out) hnb);have RR:=zH ((RK.out _ (zK K1.out (zD w1))).moved (T2.out.moves (fun _=>False)) HRB.out id);have hrw:rb≠w.heap.size:=Nat.ne_of_lt RLT.out;have BE:EdBox w2 w.heap.size 64 zE:=⟨BX⟩
 clear hnb BX B2 x0 x1 x2;rcases RES.out with ⟨rfl,rfl⟩|⟨rfl,rfl,hQ⟩
 ·have el:(edB x).length=20:=zbd x;obtain ⟨-,y1,-,y4⟩:=RR.out.cells;have RN:=zH RR.out.next;have BE3:=zH (show EdBox (w2.setCell ⟨rb,1,none⟩ (.int .i64 ((i:Int)+1))) w.heap.size 64 zE from ⟨BE.box.far (p:=⟨rb,1,none⟩) (Ne.symm hrw) _⟩);have H3:=zH (H2.out.put ⟨rb,1,none⟩ (.int .i64 ((i:Int)+1)) H0.out (T2.out.notIn (Nat.lt_trans RLT.out HSZ1.out) HRB.out));have MV3:=zH (MV.out.put ⟨rb,1,none⟩ (.int .i64 ((i:Int)+1)) (.inl rfl));have OB:=zH (O2.out.same (w':=w2.setCell ⟨rb,1,none⟩ (.int .i64 ((i:Int)+1))) (fun g hg=>Below.heap_setCell w2 ⟨rb,1,none⟩ _ g (fun e=>by have h1:=(O2.out.lt g hg).1;have h2:=RLT.out;have h3:=HSZ1.out;have h4:w1.drew.heap.size=w1.heap.size:=rfl;have h5:g=rb:=e;omega)));have hc2:20≤c2:=by obtain ⟨A',c',hv,hc,-⟩:=O2.out.form;injection hv with _ _ hv;rw [hv,←el];exact hc
  rw [el] at OB;have RD:=zH (zeT A2 c2 (edB x) _ (Own.at_ OB.out) el hc2);obtain ⟨n0,n1,n2,n3⟩:=zi2 OKX.out;rw [n0,n1,n2,n3] at RD;rw [el];clear MV RR BE OB O2 n0 n1 n2 n3 el hc2;go_wp2_with fail
  refine RD.out.mono ?_;rintro e w5 ⟨rfl,k5⟩;have BE5:=BE3.out.keep k5;have H5:=zH (H3.out.keep k5);have MV5:=zH (MV3.out.keep k5);have RN5:=zH (RN.out.keep k5);obtain ⟨d0,d1,d2,d3⟩:=BE5.cells;obtain ⟨g0,g1,g2,g3⟩:=BE5.free;have BE6:=BE5.put x;obtain ⟨e0,e1,e2,e3⟩:=BE6.cells;obtain ⟨f0,f1,f2,f3⟩:=BE6.free;have BE7:=BE6.put x;clear k5 BE3 H3 MV3 RN RD;go_wp2_with fail
  have H7:=zH ((H5.out.putE (b:=w.heap.size) H.out.base NB.out x).putE (b:=w.heap.size) H.out.base NB.out x);have MV7:=zH ((MV5.out.putE (b:=w.heap.size) (.inr (Nat.le_refl _)) x).putE (b:=w.heap.size) (.inr (Nat.le_refl _)) x);have RN7:=zH ((RN5.out.putE hrw x).putE hrw x)
  change bodyPost _ _ _ _ _ (putEd (putEd w5 w.heap.size x) w.heap.size x)
  generalize putEd (putEd w5 w.heap.size x) w.heap.size x=W7 at *;obtain ⟨d0,d1,d2,d3⟩:=BE7.cells;exact bodyPost_ret (v:=.tuple #[edG x, .bool true, .int .i64 0]) (by simp [results,Tryz.results196,go_sem,d0,d1,d2,d3,edG]) rfl ⟨q,S2,H7.out,MV7.out,ST2.out, .inl ⟨rfl,RN7.out⟩⟩
 ·obtain ⟨d0,d1,d2,d3⟩:=BE.cells;obtain ⟨g0,g1,g2,g3⟩:=BE.free;have BE6:=BE.put zE;have HQ:=zH hQ;clear hQ;go_wp2_with fail
  have H7:=zH (H2.out.putE (b:=w.heap.size) H.out.base NB.out zE);have MV7:=zH (MV.out.putE (b:=w.heap.size) (.inr (Nat.le_refl _)) zE);have RN7:=zH (RR.out.putE hrw zE)
  change bodyPost _ _ _ _ _ (putEd w2 w.heap.size zE)
  generalize putEd w2 w.heap.size zE=W7 at *;obtain ⟨d0,d1,d2,d3⟩:=BE6.cells;exact bodyPost_ret (v:=.tuple #[edG zE, .bool false, .int .i64 5]) (by simp [results,Tryz.results196,go_sem,d0,d1,d2,d3,edG]) rfl ⟨q,S2,H7.out,MV7.out,ST2.out, .inr ⟨rfl,RN7.out,HQ.out⟩⟩
end
theorem Own.not_boxS {w:World} {base size:Nat} {e t:TypeId} {v:Value} {n:Nat} {xs:List Value} {b:Nat} {cs:Array Value} (h:Own w base e size v n xs) (hb:Box w b t cs) (hne:t≠e):v.ownBlock≠some b:=by
 intro hv;rcases h.2 with ⟨rfl,_⟩|⟨g,cap,cur,fz,rfl,_,hg,_⟩
 ·simp [Value.ownBlock] at hv
 ·simp only [Value.ownBlock,Option.some.injEq] at hv;subst hv;exact znc hb hg hne rfl
theorem zso:144≠64:=by decide
section
variable {K:DiskOk} {w0 w w' wA:World} {B:PB} {S SA:Nat→Prop} {p:Pst} {N Q A C:Nat} {V:Vw} {ns:List (List UInt8)}
theorem zgT (h:ExS K w0 B N Q A C p V ns S w) (t:Turns wA w SA S) {ty size n base:Nat} {u:Value} {xs:List Value} (o:Own w base ty size u n xs) (hA:wA.heap.size≤base) (hb:w0.heap.size≤wA.heap.size) (far:∀ g,u.ownBlock=some g→¬ S g) (hg:w.grownBy w' u.ownBlock) :
 ExS K w0 B N Q A C p V ns S w'∧Turns wA w' SA S:=
 ⟨h.only (zbz hg) (fun i e=>Nat.le_trans hb (Nat.le_trans hA (o.lt i e).1)) (fun i hi e=>far i e hi),⟨t.only.trans (zbz hg) (fun i e=>.inr (Nat.le_trans hA (o.lt i e).1)),t.next⟩⟩
theorem zil (h:ExS K w0 B N Q A C p V ns S w) {u v:Value} {n:Nat} (far:∀ g,u.ownBlock=some g→¬ S g) (hx:w.heap.size≤n) (hb:v.ownBlock=u.ownBlock∨v.ownBlock=some n):∀ g,v.ownBlock=some g→¬ S g:=fun g hg=>by
 rcases hb with e|e
 ·exact far g (e▸hg)
 ·rw [e] at hg;obtain rfl:=Option.some.inj hg;exact h.lt hx
end
theorem zgU:(Tryz.prog.info? 64).map (fun i=>(i.zero,i.size,i.bytes))=some (some (.agg #[.int .u32 0, .int .u32 0, .int .u64 0, .int .u32 0]),4,24):=by kernel_rfl
def cutE (l:List Ed) (i j:Nat):List Ed:=((l.take j).drop i).filter fun e=>decide (e.t≠e.h)
theorem zjN (l:List Ed) (i:Nat):cutE l i i=[]:=by
 unfold cutE;rw [List.drop_eq_nil_of_le (by rw [List.length_take];omega)];rfl
theorem znZ {l:List Ed} {i j:Nat} {x:Ed} (hij:i≤j) (hx:l[j]? = some x):cutE l i (j+1)=cutE l i j++(if x.t=x.h then [] else [x]):=by
 unfold cutE;have hj:=(zI9.1 hx).1;have e:l.take (j+1)=l.take j++[x]:=by
  rw [List.take_succ_eq_append_getElem hj];rw [zG9 hj] at hx;rw [Option.some.inj hx]
 rw [e,List.drop_append_of_le_length (by rw [List.length_take];omega),List.filter_append];congr 1
 by_cases h:x.t=x.h
 ·rw [if_pos h];simp [h]
 ·rw [if_neg h];simp [h]
theorem zim {l:List Ed} {i j:Nat}:∀ e∈cutE l i j,e.t≠e.h:=fun e he=>by
 have:=(List.mem_filter.1 he).2;simpa using this
theorem zjO {l:List Ed} {i j:Nat}:∀ e∈cutE l i j,e∈l:=fun e he=>List.mem_of_mem_take (List.mem_of_mem_drop (List.mem_filter.1 he).1)
theorem zey (l:List Ed) (i j:Nat):(cutE l i j).length≤j-i:=by
 unfold cutE;refine Nat.le_trans (List.length_filter_le _ _) ?_;rw [List.length_drop,List.length_take];omega
theorem zqb {l r:List Ed} {i j:Nat} (hij:i≤j) (h:CvrE (l.take i) r):CvrE (l.take j) (r++cutE l i j):=by
 have e:l.take j=l.take i++(l.take j).drop i:=by
  conv=>lhs;rw [←List.take_append_drop i (l.take j)]
  rw [List.take_take,Nat.min_eq_left hij]
 rw [e];exact h.join (CvrE.noloop _)
section
variable {K:DiskOk} {w0 w w':World} {B:PB} {S S' T:Nat→Prop} {p q:Pst} {N Q A C:Nat} {V:Vw} {ns:List (List UInt8)} {nm:List UInt8} {fb rb wb:Nat} {t:TypeId} {cs:Array Value} {i n:Nat}
def atC (cs:Array Value) (j:Nat):Array Value:=cs.setIfInBounds 1 (.int .i64 (j:Int))
theorem zqc (cs:Array Value) (j:Nat):(atC cs j).setIfInBounds 1 (.int .i64 ((j:Int)+1))=atC cs (j+1):=by
 unfold atC;apply Array.ext_getElem?;intro k;by_cases hk:k=1
 ·subst hk;by_cases hl:1<cs.size
  ·rw [Array.getElem?_setIfInBounds_self_of_lt (by simpa using hl),Array.getElem?_setIfInBounds_self_of_lt hl];rfl
  ·rw [Array.getElem?_eq_none (by simp;omega),Array.getElem?_eq_none (by simp;omega)]
 ·rw [Array.getElem?_setIfInBounds_ne (Ne.symm hk),Array.getElem?_setIfInBounds_ne (Ne.symm hk),Array.getElem?_setIfInBounds_ne (Ne.symm hk)]
theorem zsp {cs:Array Value} {i:Nat} (h:cs[1]? = some (.int .i64 (i:Int))):atC cs i=cs:=by
 unfold atC;apply Array.ext_getElem?;intro k;by_cases hk:k=1
 ·subst hk;have hl:=(zJ9.1 h).1;rw [Array.getElem?_setIfInBounds_self_of_lt hl,h]
 ·rw [Array.getElem?_setIfInBounds_ne (Ne.symm hk)]
theorem RdAt.start (h:RdAt w rb t cs fb i n):RdAt w rb t (atC cs i) fb i n:=by rw [zsp h.c1];exact h
def TakeV (K:DiskOk) (w0:World) (B:PB) (N Q A C:Nat) (p:Pst) (V:Vw) (ns:List (List UInt8)) (S:Nat→Prop) (w:World) (base:Nat) (hv:Value) (rb:Nat) (t:TypeId) (cs:Array Value) (fb:Nat) (l:List Ed) (i most:Nat) (e:Ending) (w':World):Prop:=
 ∃ (E j:Nat) (v:Value) (q:Pst) (S':Nat→Prop),e = .returned (.tuple #[v, .int .i64 (E:Int)])∧ExS K w0 B N Q A C q V ns S' w'∧Moves (fun c=>c=rb∨hv.ownBlock=some c) w w' S S'∧StillX (fun _=>False) p q∧i≤j∧j≤l.length∧
  RdAt w' rb t (atC cs j) fb j l.length∧Own w' base 64 4 v (cutE l i j).length (edsC (cutE l i j))∧(cutE l i j).length≤most∧(v.ownBlock=hv.ownBlock∨∀ g,v.ownBlock=some g→w.heap.size≤g)∧(∀ g,v.ownBlock=some g→¬ S' g)∧
  ((E=0∧((cutE l i j).length=most∨j=l.length))∨(E=5∧Q<4*(A*C)+4))
theorem zn0 (PK:PageOk) (h:ExS K w0 B N Q A C p V ns S w) (hZ:K.Z w0) (hS:Sizes w0) (hN:N≤4096) (b:StrAt w fb B.pb nm 20) (hb:¬ S fb) (hfr:fb≠rb) {l:List Ed} (s:IsS V nm 20 (l.map edB)) (hok:∀ e∈l,EdOk e) (hl:l.length≤100000)
 (r:RdAt w rb t cs fb i l.length) (ht:t≠64) (hrb:¬ S rb) (hr0:w0.heap.size≤rb) (hi:i≤l.length) {base most cap:Nat} {Av:Option Addr} (hb0:w0.heap.size≤base) (hbw:base≤w.heap.size) (o:Own w base 64 4 (.slice Av 0 cap) 0 []) (ho:∀ g,(Value.slice Av 0 cap).ownBlock=some g→¬ S g) (hm:most≤100000) :
 Calls Tryz.prog 153 #[.pointer (some ⟨rb,0,none⟩), .slice Av 0 cap, .int .i64 (most:Int)] w (TakeV K w0 B N Q A C p V ns S w base (.slice Av 0 cap) rb t cs fb l i most):=by
 have H:=zH h;have HZ:=zH hZ;have HS:=zH hS;have HN:=zH hN;have BF:=zH b;have NF:=zH (And.intro hb hfr);have SS:=zH s;have OK:=zH hok;have HL:=zH hl;have R:=zH r;have HT:=zH ht;have NR:=zH hrb;have R0:=zH hr0;have HI:=zH hi;have HB:=zH (And.intro hb0 hbw);have O:=zH o;have NO:=zH ho;have HM:=zH hm;have hmi:(most:Int)≤100000:=by omega
 clear h hZ hS hN b hb hfr s hok hl r ht hrb hr0 hi hb0 hbw o ho hm;obtain ⟨hv,hhv⟩:∃ hv,Value.slice Av 0 cap=hv:=⟨_,rfl⟩
 have HV:=zH hhv;rw [hhv] at O NO ⊢;obtain ⟨i0,hi,hz0,hz1,hz2⟩:=info_parts zgU;go_enter Tryz.func153,Tryz.ntmps153;go_wp2;go_loopg [1] l.length (fun kx v wr=>∃ (j:Nat) (q:Pst) (S':Nat→Prop),l.length-j≤kx∧i≤j∧j≤l.length∧ExS K w0 B N Q A C q V ns S' wr∧Moves (fun c=>c=rb∨hv.ownBlock=some c) w wr S S'∧StillX (fun _=>False) p q∧
  RdAt wr rb t (atC cs j) fb j l.length∧Own wr base 64 4 v (cutE l i j).length (edsC (cutE l i j))∧(cutE l i j).length≤most∧(v.ownBlock=hv.ownBlock∨∀ g,v.ownBlock=some g→w.heap.size≤g)∧(∀ g,v.ownBlock=some g→¬ S' g))
 case atStart=>
  go_light
  exact ⟨i,p,S,by omega,Nat.le_refl _,HI.out,H.out,Moves.refl _ _ _,StillX.refl _ _,R.out.start,by rw [zjN];exact O.out,by rw [zjN];exact Nat.zero_le _, .inl rfl,NO.out⟩
 case round=>
  obtain ⟨j,q,S1,hkx,hij,hjl,hx,hmv,hst,hrd,hown,hle,hbl,hns⟩:=hrel;obtain ⟨A1,c1,rfl,hc1,hc2,-,-⟩:=hown.form;obtain ⟨m,hm⟩:∃ m,(cutE l i j).length=m:=⟨_,rfl⟩
  have nrb:¬ S1 rb:=hmv.notIn R.out.box.lt NR.out;have nfb:¬ S1 fb:=hmv.notIn BF.out.lt NF.out.1;have bfb:=BF.out.moved hmv NF.out.1 (fun e=>e.elim NF.out.2 (zbh O.out BF.out (by decide)));have FIN:=zH (fun (E:Nat) (hE:(E=0∧((cutE l i j).length=most∨j=l.length))∨(E=5∧Q<4*(A*C)+4))=>show TakeV K w0 B N Q A C p V ns S w base hv rb t cs fb l i most (.returned (.tuple #[.slice A1 (cutE l i j).length c1, .int .i64 (E:Int)])) wr from
   ⟨E,j,_,q,S1,rfl,hx,hmv,hst,hij,hjl,hrd,hown,hle,hbl,hns,hE⟩)
  have FIN0:=zH (fun (W:World) (k:Keeps wr W) (E:Nat) (hE:(E=0∧((cutE l i j).length=most∨j=l.length))∨(E=5∧Q<4*(A*C)+4))=>show TakeV K w0 B N Q A C p V ns S w base hv rb t cs fb l i most (.returned (.tuple #[.slice A1 (cutE l i j).length c1, .int .i64 (E:Int)])) W from
   ⟨E,j,_,q,S1,rfl,hx.keep k,hmv.keep k,hst,hij,hjl,hrd.keep k,hown.keep k,hle,hbl,hns,hE⟩)
  have HX:=zH hx;have MV:=zH hmv;have ST:=zH hst;have RD:=zH hrd;have OW:=zH hown;have HLE:=zH hle;have HBL:=zH hbl;have HNS:=zH hns;have HIJ:=zH (And.intro hij hjl);have HK:=zH hkx;have BB:=zH bfb;have NN:=zH (And.intro nrb nfb);have HM2:=zH hm;rw [hm] at FIN FIN0 OW HLE HBL HNS ⊢;clear hx hmv hst hrd hown hle hbl hns hij hjl hkx bfb nrb nfb hc1 hc2 hm;by_cases hlt:m<most
  ·have hlt':(m:Int)<(most:Int):=(by omega);by_cases hend:j=l.length
   ·have SE:=zH (zjM (show RdAt wr rb t (atC cs j) fb l.length l.length by have:=RD.out;rw [hend] at this ⊢;exact this));go_wp2_with fail
    refine SE.out.mono ?_;rintro e w2 ⟨rfl,k2⟩;have k3:=zK k2 (zA w2 (.cells #[.int .u32 0, .int .u32 0, .int .u64 0, .int .u32 0] 64));have F3:=zH (FIN0.out _ k3 0 (.inl ⟨rfl, .inr hend⟩));unfold edG;clear k2 k3 SE;go_wp2;go_returns;exact F3.out
   ·have hjl:j<l.length:=by have:=HIJ.out.2;omega
    obtain ⟨x,hx⟩:∃ x,l[j]? = some x:=(⟨_,zG9 hjl⟩);have SN:=zH (zik PK HX.out HZ.out HS.out HN.out BB.out NN.out.2 SS.out RD.out NN.out.1 R0.out hx (OK.out x (List.mem_of_getElem? hx)) hjl (by have:=HL.out;omega));have CN:=zH (znZ HIJ.out.1 hx);have OWB:=zH (zbh OW.out RD.out.box (Ne.symm HT.out));clear hx;go_wp2_with fail
    refine SN.out.mono ?_;rintro e w2 ⟨q2,S2,h2,m2,s2,⟨rfl,r2⟩|⟨rfl,r2,hQ⟩⟩;rotate_left
    ·have k3:=zA w2 (.cells #[.int .u32 0, .int .u32 0, .int .u64 0, .int .u32 0] 64);have F3:=zH (show TakeV K w0 B N Q A C p V ns S w base hv rb t cs fb l i most (.returned (.tuple #[.slice A1 m c1, .int .i64 ((5:Nat):Int)])) (w2.alloc (.cells #[.int .u32 0, .int .u32 0, .int .u64 0, .int .u32 0] 64)) from
      ⟨5,j,_,q2,S2,rfl,h2.keep k3,(MV.out.trans m2 (fun i e=>.inr (.inl (.inl e)))).keep k3,ST.out.trans (s2.x0 _),HIJ.out.1,HIJ.out.2,r2.keep k3,by
       rw [HM2.out];exact (OW.out.moved m2 (fun g hg=>⟨HNS.out g hg,fun e=>OWB.out (by rw [hg,e])⟩)).keep k3,by rw [HM2.out];exact HLE.out,HBL.out,fun g hg=>m2.notIn (OW.out.lt g hg).2 (HNS.out g hg), .inr ⟨rfl,hQ⟩⟩)
     unfold edG zE;clear h2 m2 s2 r2 hQ SN k3;go_wp2;go_returns;exact F3.out
    ·have k3:=zA w2 (.cells #[.int .u32 (x.t:Int), .int .u32 (x.h:Int), .int .u64 (x.x:Int), .int .u32 (x.m:Int)] 64);have E3:=EdBox.new w2 64 x;obtain ⟨x0,x1,x2,x3⟩:=E3.cells;have H3:=zH (h2.keep k3);have M3:=zH ((MV.out.trans m2 (fun i e=>.inr (.inl (.inl e)))).keep k3);have S3:=zH (ST.out.trans (s2.x0 (fun _=>False)));have R3:=zH (show RdAt (w2.alloc (.cells #[.int .u32 (x.t:Int), .int .u32 (x.h:Int), .int .u64 (x.x:Int), .int .u32 (x.m:Int)] 64)) rb t (atC cs (j+1)) fb (j+1) l.length by rw [←zqc];exact r2.keep k3);have O3:=zH ((OW.out.moved m2 (fun g hg=>⟨HNS.out g hg,fun e=>OWB.out (by rw [hg,e])⟩)).keep k3);have N3:=zH (fun g hg=>show ¬ S2 g from m2.notIn (OW.out.lt g hg).2 (HNS.out g hg));unfold edG;clear h2 m2 s2 r2 k3 SN E3;by_cases hloop:x.t=x.h
     ·have e1:((x.t:Int) == (x.h:Int))=true:=by rw [hloop];simp
      have C3:=zH (show cutE l i (j+1)=cutE l i j by rw [CN.out,if_pos hloop,List.append_nil]);clear hloop;go_wp2;go_roundg (l.length-(j+1))
      case measure=>go_light;have:=HK.out;omega
      case rel=>
       go_light
       exact ⟨j+1,q2,S2,Nat.le_refl _,by have:=HIJ.out.1;omega,hjl,H3.out,M3.out,S3.out,R3.out,by rw [C3.out,HM2.out];exact O3.out,by rw [C3.out,HM2.out];exact HLE.out,HBL.out,N3.out⟩
     ·have e1:((x.t:Int) != (x.h:Int))=true:=by rw [bne_iff_ne];omega
      have C3:=zH (show cutE l i (j+1)=cutE l i j++[x] by rw [CN.out,if_neg hloop]);clear hloop;have hlen:m+1≤100000:=by have:=HLE.out;have:=HM.out;omega
      have HLEN:=zH hlen;have AT1:=zH (show At ((w2.alloc (.cells #[.int .u32 (x.t:Int), .int .u32 (x.h:Int), .int .u64 (x.x:Int), .int .u32 (x.m:Int)] 64)).alloc (.cells #[.int .u32 (x.t:Int), .int .u32 (x.h:Int), .int .u64 (x.x:Int), .int .u32 (x.m:Int)] 64)) (w2.heap.size+1+1) (some ⟨w2.heap.size+1,0,none⟩) (edC x) from by
       have:=At.new (w2.alloc (.cells #[.int .u32 (x.t:Int), .int .u32 (x.h:Int), .int .u64 (x.x:Int), .int .u32 (x.m:Int)] 64)) (edC x) 64 (w2.heap.size+1+1) (by simp);simp only [World.size_alloc] at this;exact this)
      clear hlen;go_wp2_with (at_builtin;refine zaj _ rfl _ _ 22 rfl base 64 i0 (.agg #[.int .u32 0, .int .u32 0, .int .u64 0, .int .u32 0]) 4 24 Tryz.underlying22 hi hz0 hz1 hz2 rfl (by decide) _ m _ rfl (O3.out.keep (zA _ _)) _ _ 1 1 (edC x) rfl rfl AT1.out (by intro u hu;exact zce [x] u (by simpa [edsC] using hu)) (by have:=HLEN.out;unfold maxLen;omega) (by have:=HLEN.out;omega) (by have:=HB.out.2;have:=M3.out.size;simp only [World.size_alloc] at *;omega) ?_)
      intro v6 w6 o6 g6 b6;have H6:=zH ((H3.out.keep (zA _ _)).only (zbz g6) (fun i e=>Nat.le_trans HB.out.1 (O3.out.lt i e).1) (fun i hi e=>N3.out i e hi));have M6:=zH ((M3.out.keep (zA _ _)).grown g6 (fun g hg=>by
       rcases HBL.out with e|e
       ·exact .inl (.inr (by rw [←e];exact hg))
       ·exact .inr (e g hg)))
      have R6:=zH (show RdAt w6 rb t (atC cs (j+1)) fb (j+1) l.length from ⟨(R3.out.keep (zA _ _)).box.grownX g6 (zbh O3.out R3.out.box (Ne.symm HT.out)),R3.out.c0,R3.out.c1,R3.out.c2⟩);have hl6:(cutE l i (j+1)).length=m+1:=by rw [C3.out,List.length_append,HM2.out];rfl
      have he6:edsC (cutE l i (j+1))=edsC (cutE l i j)++edC x:=by rw [C3.out];simp [edsC]
      have O6:=zH (show Own w6 base 64 4 v6 (cutE l i (j+1)).length (edsC (cutE l i (j+1))) by rw [hl6,he6];exact o6);have B6:=zH (show v6.ownBlock=hv.ownBlock∨∀ g,v6.ownBlock=some g→w.heap.size≤g by
       rcases b6 with e|e
       ·rcases HBL.out with e2|e2
        ·exact .inl (e.trans e2)
        ·exact .inr (fun g hg=>e2 g (e▸hg))
       ·refine .inr (fun g hg=>?_);rw [e] at hg;injection hg with hg;have:=M3.out.size;simp only [World.size_alloc] at *;omega)
      have N6:=zH (show ∀ g,v6.ownBlock=some g→¬ S2 g by
       rcases b6 with e|e
       ·exact fun g hg=>N3.out g (e▸hg)
       ·refine (fun g hg=>?_);rw [e] at hg;injection hg with hg;exact H3.out.lt (by simp;omega))
      have L6:=zH (show (cutE l i (j+1)).length≤most by rw [hl6];exact hlt);clear o6 g6 b6 hl6 he6 O3 H3 M3 R3;go_wp2;go_roundg (l.length-(j+1))
      case measure=>go_light;have:=HK.out;omega
      case rel=>
       go_light
       exact ⟨j+1,q2,S2,Nat.le_refl _,by have:=HIJ.out.1;omega,hjl,H6.out,M6.out,S3.out,R6.out,O6.out,L6.out,B6.out,N6.out⟩
  ·have hlt':¬ (m:Int)<(most:Int):=(by omega);have e0:=zH (show m=most by have:=HLE.out;omega);go_wp2;go_returns;exact FIN.out 0 (.inl ⟨rfl, .inl e0.out⟩)
end
theorem zn1:(Tryz.prog.info? 26).map (fun i=>(i.zero,i.size,i.bytes))=some (some (.int .u32 0),1,4):=by kernel_rfl
theorem zjP (a b c d:Int) (w:World):(Op.equalIn 10000 242 (.agg #[.int .u32 a, .int .u32 b]) (.agg #[.int .u32 c, .int .u32 d])).run Tryz.prog w = .ok (a == c&&b == d) w:=by
 obtain ⟨i,hi,h0,h1,h2⟩:=info_parts zn1;have hu:=Tryz.underlying26;have hc:Tryz.prog.cellsOf 26=1:=by kernel_rfl
 show (Op.equalIn (9999+1) 242 _ _).run Tryz.prog w=_;rw [run_equalIn_array w 9999 _ _ Tryz.underlying242 hi,hc,show List.range 2=[0,1] from rfl];have he:∀ (x y:Int) (w:World),(Op.equalIn 9999 26 (.int .u32 x) (.int .u32 y)).run Tryz.prog w = .ok (x == y) w:=fun x y w=>run_equalIn_int w 9998 26 .u32 .u32 _ _ hu
 have p0:∀ (x y:Int) (w:World),(part 26 #[.int .u32 x, .int .u32 y] 0).run Tryz.prog w = .ok (.int .u32 x) w:=fun x y w=>by simp [part,hu,underlying,isAgg]
 have p1:∀ (x y:Int) (w:World),(part 26 #[.int .u32 x, .int .u32 y] 1).run Tryz.prog w = .ok (.int .u32 y) w:=fun x y w=>by simp [part,hu,underlying,isAgg]
 generalize 9999=dd at *;simp only [Op.eqItems,Sem.run_bind,Nat.zero_mul,Nat.one_mul,p0,p1,he,Result.andThen_ok];by_cases h1:a=c
 ·by_cases h2:b=d
  ·simp [h1,h2,p1,he]
  ·simp [h1,h2,p1,he]
 ·simp [h1]
section
variable {K:DiskOk} {w0 w w':World} {B:PB} {S S' T:Nat→Prop} {p q:Pst} {N Q A C:Nat} {V:Vw} {ns:List (List UInt8)} {nm:List UInt8} {fb rb wb:Nat} {o:List Ed}
def WrAt (w:World) (wb fb:Nat) (l:Nat×Nat):Prop:=Box w wb 244 #[.pointer (some ⟨fb,0,none⟩), .int .u32 (l.1:Int), .int .u32 (l.2:Int)]
def PutV (K:DiskOk) (w0:World) (B:PB) (N Q A C:Nat) (p:Pst) (V:Vw) (ns:List (List UInt8)) (S:Nat→Prop) (w:World) (wb fb:Nat) (nm:List UInt8) (o:List Ed) (x:Ed) (e:Ending) (w':World):Prop:=
 ∃ E q V' S',e = .returned (.int .i64 ((E:Nat):Int))∧ExS K w0 B N Q A C q V' ns S' w'∧Moves (fun c=>c=wb) w w' S S'∧Still p q (some nm)∧
  ((E=0∧V'=upV V nm (some (zae 12 ((stepU o x).map edB)))∧IsS V' nm 20 ((stepU o x).map edB)∧WrAt w' wb fb (x.t,x.h))∨(E=5∧Q<4*(A*C)+4∧V'=V))
theorem zrv (h:ExS K w0 B N Q A C p V ns S w) (r:WrAt w wb fb (lastP o)) (s:IsS V nm 20 (o.map edB)) (x:Ed) (hp:(x.t,x.h)=lastP o) :
 Calls Tryz.prog 158 #[.pointer (some ⟨wb,0,none⟩),edG x] w (PutV K w0 B N Q A C p V ns S w wb fb nm o x):=by
 have hf:V nm=some (zae 12 (o.map edB)):=s.file;have H:=zH h;have SS:=zH s;have HF:=zH hf;have hs:=zH (zhJ hp);rw [←hp] at r;clear h s hf hp;have kA:=zA w (.cells #[.int .u32 (x.t:Int), .int .u32 (x.h:Int), .int .u64 (x.x:Int), .int .u32 (x.m:Int)] 64);obtain ⟨a0,a1,a2,a3⟩:=(EdBox.new w 64 x).cells;have kB:=zK kA (zA _ (.cells #[.int .u32 (x.t:Int), .int .u32 (x.h:Int)] 242));have P2:Box ((w.alloc (.cells #[.int .u32 (x.t:Int), .int .u32 (x.h:Int), .int .u64 (x.x:Int), .int .u32 (x.m:Int)] 64)).alloc (.cells #[.int .u32 (x.t:Int), .int .u32 (x.h:Int)] 242)) (w.heap.size+1) 242 #[.int .u32 (x.t:Int), .int .u32 (x.h:Int)]:=by
  have:=Box.new (w.alloc (.cells #[.int .u32 (x.t:Int), .int .u32 (x.h:Int), .int .u64 (x.x:Int), .int .u32 (x.m:Int)] 64)) 242 #[.int .u32 (x.t:Int), .int .u32 (x.h:Int)];simpa using this
 have p0:=P2.cell 0 rfl;have p1:=P2.cell 1 rfl;have r1:=(Box.keep r kB).cell 1 rfl;have r2:=(Box.keep r kB).cell 2 rfl;have R:=zH r;have KB:=zH kB;clear r kA kB P2;have aq:∀ W:World,(Op.equalIn 10000 242 (.agg #[.int .u32 (x.t:Int), .int .u32 (x.h:Int)]) (.agg #[.int .u32 (x.t:Int), .int .u32 (x.h:Int)])).run Tryz.prog W = .ok true W:=fun W=>by rw [zjP];simp
 unfold edG;go_enter Tryz.func158,Tryz.ntmps158;go_wp2;go_region
 go_wp2;go_ret;exact ⟨0,p,V,S,rfl,H.out.keep (zK KB.out (zam _ _)),Moves.of_keeps (zK KB.out (zam _ _)) _ _,Still.refl _ _, .inl ⟨rfl,by rw [hs.out];exact (zf5 HF.out).symm,by rw [hs.out];exact SS.out,Box.keep R.out (zK KB.out (zam _ _))⟩⟩
theorem zrw (PK:PageOk) (h:ExS K w0 B N Q A C p V ns S w) (hZ:K.Z w0) (hS:Sizes w0) (hN:N≤4096) (b:StrAt w fb B.pb nm 20) (hb:¬ S fb) (r:WrAt w wb fb (lastP o)) (hw:¬ S wb) (hw0:w0.heap.size≤wb) (s:IsS V nm 20 (o.map edB)) (x:Ed) (hx:EdOk x) (hC:o.length<C*12) (hp:(x.t,x.h)≠lastP o) :
 Calls Tryz.prog 158 #[.pointer (some ⟨wb,0,none⟩),edG x] w (PutV K w0 B N Q A C p V ns S w wb fb nm o x):=by
 obtain ⟨⟨la,lc⟩,hl⟩:∃ l,lastP o=l:=⟨_,rfl⟩
 rw [hl] at r hp;have hs:=zH (zeP (o:=o) (x:=x) (by rw [hl];exact hp));have aq:∀ W:World,(Op.equalIn 10000 242 (.agg #[.int .u32 (x.t:Int), .int .u32 (x.h:Int)]) (.agg #[.int .u32 (la:Int), .int .u32 (lc:Int)])).run Tryz.prog W = .ok false W:=fun W=>by
  rw [zjP];congr 1
  rw [Bool.and_eq_false_iff,beq_eq_false_iff_ne,beq_eq_false_iff_ne];by_cases e:x.t=la
  ·right;intro e2;exact hp (by rw [e,Int.natCast_inj.1 e2])
  ·left;intro e2;exact e (Int.natCast_inj.1 e2)
 have kA:=zA w (.cells #[.int .u32 (x.t:Int), .int .u32 (x.h:Int), .int .u64 (x.x:Int), .int .u32 (x.m:Int)] 64);obtain ⟨a0,a1,a2,a3⟩:=(EdBox.new w 64 x).cells;have kB:=zK kA (zA _ (.cells #[.int .u32 (x.t:Int), .int .u32 (x.h:Int)] 242));have P2:Box ((w.alloc (.cells #[.int .u32 (x.t:Int), .int .u32 (x.h:Int), .int .u64 (x.x:Int), .int .u32 (x.m:Int)] 64)).alloc (.cells #[.int .u32 (x.t:Int), .int .u32 (x.h:Int)] 242)) (w.heap.size+1) 242 #[.int .u32 (x.t:Int), .int .u32 (x.h:Int)]:=by
  have:=Box.new (w.alloc (.cells #[.int .u32 (x.t:Int), .int .u32 (x.h:Int), .int .u64 (x.x:Int), .int .u32 (x.m:Int)] 64)) 242 #[.int .u32 (x.t:Int), .int .u32 (x.h:Int)];simpa using this
 have E2:=(EdBox.new w 64 x).keep (zA _ (.cells #[.int .u32 (x.t:Int), .int .u32 (x.h:Int)] 242));have p0:=P2.cell 0 rfl;have p1:=P2.cell 1 rfl;have rK:=Box.keep r kB;have r0:=rK.cell 0 rfl;have r1:=rK.cell 1 rfl;have r2:=rK.cell 2 rfl;have f1:=rK.frozen 1;have f2:=rK.frozen 2;have RL:=zH (show wb<w.heap.size from Box.lt r);have R4:=zH (fun (V:World) (k:Keeps w V)=>show WrAt ((V.setCell ⟨wb,1,none⟩ (.int .u32 (x.t:Int))).setCell ⟨wb,2,none⟩ (.int .u32 (x.h:Int))) wb fb (x.t,x.h) from by
  have:=((Box.keep r k).set 1 (.int .u32 (x.t:Int))).set 2 (.int .u32 (x.h:Int));simpa [WrAt] using this)
 have H4:=zH (fun (V:World) (k:Keeps w V)=>((h.keep k).put ⟨wb,1,none⟩ (.int .u32 (x.t:Int)) hw0 hw).put ⟨wb,2,none⟩ (.int .u32 (x.h:Int)) hw0 hw);have M4:=zH (fun (V:World) (k:Keeps w V)=>((Moves.of_keeps k (fun c=>c=wb) S).put ⟨wb,1,none⟩ (.int .u32 (x.t:Int)) (.inl rfl)).put ⟨wb,2,none⟩ (.int .u32 (x.h:Int)) (.inl rfl));have hfw:fb≠wb:=zbP b r (by decide);have B4:=zH (fun (V:World) (k:Keeps w V)=>show StrAt ((V.setCell ⟨wb,1,none⟩ (.int .u32 (x.t:Int))).setCell ⟨wb,2,none⟩ (.int .u32 (x.h:Int))) fb B.pb nm 20 from ((b.keep k).far (p:=⟨wb,1,none⟩) hfw _).far (p:=⟨wb,2,none⟩) hfw _);have X4:=zH (fun (V:World) (k:Keeps ((w.alloc (.cells #[.int .u32 (x.t:Int), .int .u32 (x.h:Int), .int .u64 (x.x:Int), .int .u32 (x.m:Int)] 64)).alloc (.cells #[.int .u32 (x.t:Int), .int .u32 (x.h:Int)] 242)) V)=>show EdBox ((V.setCell ⟨wb,1,none⟩ (.int .u32 (x.t:Int))).setCell ⟨wb,2,none⟩ (.int .u32 (x.h:Int))) w.heap.size 64 x from
  ⟨((E2.keep k).box.far (p:=⟨wb,1,none⟩) (Ne.symm (Nat.ne_of_lt RL.out)) _).far (p:=⟨wb,2,none⟩) (Ne.symm (Nat.ne_of_lt RL.out)) _⟩)
 have KB:=zH kB;have EN:=zH (fun W=>zoS x.t x.h x.x x.m hx.t hx.h hx.x hx.m W);have AD:=zH (fun (W W':World) (k:Keeps w W) (k':Keeps ((W.setCell ⟨wb,1,none⟩ (.int .u32 (x.t:Int))).setCell ⟨wb,2,none⟩ (.int .u32 (x.h:Int))) W') (Ar:Option Addr) (cr:Nat) (hr:Bs W' Ar (edB x)) (hF:∀ ad,Ar=some ad→¬ S ad.block)=>x_add PK ((H4.out W k).keep k') hZ hS hN ((B4.out W k).keep k') hb s (cr:=cr) (nr:=20) (r:=edB x) hr hF (zbd x).symm (zbd x) (by rw [List.length_map];exact hC));have SL:=zH h.pj.lt;have HW:=zH hw;clear h hZ hS hN b hb r hw hw0 s hx hC hp hl kA P2 E2 rK hfw kB;generalize hW2:(w.alloc (.cells #[.int .u32 (x.t:Int), .int .u32 (x.h:Int), .int .u64 (x.x:Int), .int .u32 (x.m:Int)] 64)).alloc (.cells #[.int .u32 (x.t:Int), .int .u32 (x.h:Int)] 242)=W2 at *;have HSZ:=zH (show W2.heap.size=w.heap.size+1+1 by rw [←hW2];simp);unfold edG;go_enter Tryz.func158,Tryz.ntmps158;go_wp2_with fail
 clear a0 a1 a2 a3;go_region
 go_wp2_with fail
 have R5:=zH (R4.out _ KB.out);have X5:=zH (X4.out _ (zab _));have M5:=zH (M4.out _ KB.out);have A5:=zH (fun W'=>AD.out _ W' KB.out);have L5:=zH (show w.heap.size<((W2.setCell ⟨wb,1,none⟩ (.int .u32 (x.t:Int))).setCell ⟨wb,2,none⟩ (.int .u32 (x.h:Int))).heap.size by have:=HSZ.out;simp;omega);clear R4 H4 M4 B4 X4 AD p0 p1 r0 r1 r2 f1 f2 aq hW2;generalize (W2.setCell ⟨wb,1,none⟩ (.int .u32 (x.t:Int))).setCell ⟨wb,2,none⟩ (.int .u32 (x.h:Int))=W4 at *;have SK:=zH (fun (V:World) (k:Keeps W4 V)=>show V.cell? ⟨wb,0,none⟩=some (.pointer (some ⟨fb,0,none⟩))∧V.cell? ⟨w.heap.size,0,none⟩=some (.int .u32 (x.t:Int))∧V.cell? ⟨w.heap.size,1,none⟩=some (.int .u32 (x.h:Int))∧V.cell? ⟨w.heap.size,2,none⟩=some (.int .u64 (x.x:Int))∧V.cell? ⟨w.heap.size,3,none⟩=some (.int .u32 (x.m:Int)) from
  ⟨(Box.keep R5.out k).cell 0 rfl,(X5.out.keep k).cells⟩)
 have HNW:=zH (show ¬ S w.heap.size from fun e=>by have:=SL.out _ e;omega);have SM:=zH (fun (V V':World) (S2:Nat→Prop) (k:Keeps W4 V) (m:Turns V V' S S2)=>show V'.cell? ⟨wb,0,none⟩=some (.pointer (some ⟨fb,0,none⟩))∧V'.cell? ⟨w.heap.size,0,none⟩=some (.int .u32 (x.t:Int))∧V'.cell? ⟨w.heap.size,1,none⟩=some (.int .u32 (x.h:Int))∧V'.cell? ⟨w.heap.size,2,none⟩=some (.int .u64 (x.x:Int))∧V'.cell? ⟨w.heap.size,3,none⟩=some (.int .u32 (x.m:Int)) from
  ⟨((Box.keep R5.out k).turned m HW.out).cell 0 rfl,(show EdBox V' w.heap.size 64 x from ⟨(X5.out.keep k).box.turned m HNW.out⟩).cells⟩)
 go_region_held3 (fun V=>V.cell? ⟨wb,0,none⟩=some (.pointer (some ⟨fb,0,none⟩))∧V.cell? ⟨w.heap.size,0,none⟩=some (.int .u32 (x.t:Int))∧V.cell? ⟨w.heap.size,1,none⟩=some (.int .u32 (x.h:Int))∧V.cell? ⟨w.heap.size,2,none⟩=some (.int .u64 (x.x:Int))∧V.cell? ⟨w.heap.size,3,none⟩=some (.int .u32 (x.m:Int))) (first|assumption|exact SK.out _ (zK (zD _) (zD _))) (first
  | (go_at_call 198;refine (EN.out _).mono ?_;rintro ee w5 ⟨v5,rfl,o5,k5⟩;have K5:Keeps W4 w5:=zK (zK (zD _) (zD _)) k5;have s5:=SK.out _ K5;obtain ⟨A5',c5,rfl,hc5,-,-,hbl5⟩:=o5.form)
  | (go_at_call 49;refine (A5.out w5 K5 A5' c5 (Own.at_ o5) (fun ad hh hF=>by have h1:=(hbl5 ad hh).2.1;have h2:=SL.out _ hF;have h3:=L5.out;have h4:W4.drew.drew.heap.size=W4.heap.size:=rfl;omega)).mono ?_;rintro ee w6 ⟨E,q6,V6,S6,rfl,x6,t6,st6,hres⟩;have s6:=SM.out _ _ _ K5 t6;have X6:=zH x6;have T6:=zH t6;have ST6:=zH st6;have RES:=zH hres;clear x6 t6 st6 hres))
 have MV:=zH ((M5.out.keep K5).then (T6.out.moves (fun c=>c=wb)));have EM:=zH (show (stepU o x).map edB=o.map edB++[edB x] by rw [hs.out,List.map_append];rfl);have WR:=zH (show WrAt w6 wb fb (x.t,x.h) from (Box.keep R5.out K5).turned T6.out HW.out);clear s6 s5 o5 k5 K5;go_wp2;go_ret;refine ⟨E,q6,V6,S6,rfl,X6.out,MV.out,ST6.out,?_⟩;rcases RES.out with ⟨rfl,h1,h2⟩|⟨rfl,h1,h2⟩
 ·exact .inl ⟨rfl,by rw [EM.out];exact h1,by rw [EM.out];exact h2,WR.out⟩
 ·exact .inr ⟨rfl,h1,h2⟩
theorem zjQ (PK:PageOk) (h:ExS K w0 B N Q A C p V ns S w) (hZ:K.Z w0) (hS:Sizes w0) (hN:N≤4096) (b:StrAt w fb B.pb nm 20) (hb:¬ S fb) (r:WrAt w wb fb (lastP o)) (hw:¬ S wb) (hw0:w0.heap.size≤wb) (s:IsS V nm 20 (o.map edB)) (x:Ed) (hx:EdOk x) (hC:(stepU o x).length≤C*12) :
 Calls Tryz.prog 158 #[.pointer (some ⟨wb,0,none⟩),edG x] w (PutV K w0 B N Q A C p V ns S w wb fb nm o x):=by
 by_cases hp:(x.t,x.h)=lastP o
 ·exact zrv h r s x hp
 ·exact zrw PK h hZ hS hN b hb r hw hw0 s x hx (by rw [zeP hp,List.length_append] at hC;simp only [List.length_singleton] at hC;omega) hp
end
end Go.Proofs.YtjpldnjldindkaaGreatDoor
