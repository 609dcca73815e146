/- Package store: an edge of a file, the graph as it lies, its size, its check. -/
import Derived.Test.YtjpldnjldindkaaGreatDoorQStView
import Derived.Test.YtjpldnjldindkaaGreatDoorQExtA
set_option linter.all false
set_option maxHeartbeats 0
set_option maxRecDepth 100000
namespace Go.Proofs.YtjpldnjldindkaaGreatDoor
open Go.RowKit Go.Sort
section
variable {K:DiskOk} {w0 w w' w1 w2:World} {B:PB} {S S' S1 S2:Nat→Prop} {p q:Pst} {N Q A C sb:Nat} {V:Vw} {ns:List (List UInt8)} {nm nE nR nV:List UInt8} {gb n:Nat}
theorem Turns.putE_ (t:Turns w w' S S') {b:Nat} (hb:w.heap.size≤b) (x:Ed):Turns w (putEd w' b x) S S':=
 (((t.put10 ⟨b,0,none⟩ _ hb).put10 ⟨b,1,none⟩ _ hb).put10 ⟨b,2,none⟩ _ hb).put10 ⟨b,3,none⟩ _ hb
theorem zct (PK:PageOk) (h:ExS K w0 B N Q A C p V ns S w) (hZ:K.Z w0) (hS:Sizes w0) (hN:N≤4096) (hQ:4*(A*C)+4≤Q) (b:StrAt w sb B.pb nm 20) (hb:¬ S sb) {l:List Ed} (s:IsS V nm 20 (l.map edB)) {i:Nat} {x:Ed} (hx:l[i]? = some x) (hok:EdOk x) (hi:i≤1000000) :
 Calls Tryz.prog 44 #[.pointer (some ⟨sb,0,none⟩), .int .i64 (i:Int)] w fun e w'=>e = .returned (.tuple #[edG x, .int .i64 0])∧Stays K w0 B N Q A C p V ns S w w':=by
 have B0:=EdBox.new w 64 zE;have kz:=zA w (.cells #[.int .u32 0, .int .u32 0, .int .u64 0, .int .u32 0] 64);have B1:=zH (show EdBox (w.alloc (.cells #[.int .u32 0, .int .u32 0, .int .u64 0, .int .u32 0] 64)) w.heap.size 64 zE from B0);have hsz:w.heap.size<(w.alloc (.cells #[.int .u32 0, .int .u32 0, .int .u64 0, .int .u32 0] 64)).heap.size:=by simp
 have GT:=zH (y_get PK (h.keep kz) hZ hS hN hQ (b.keep kz) hb s i ⟨by omega,by omega⟩ (r:=edB x) (by rw [List.getElem?_map,hx];rfl));have H:=zH h;have OKX:=zH hok;have KZ:=zH kz;have HSZ:=zH hsz;clear B0 kz h b s hx hok hsz hi;go_enter Tryz.func44,Tryz.ntmps44;go_wp2_with fail
 refine GT.out.mono ?_;rintro e w2 ⟨v,rfl,o2,q,S2,h2,t2,st2⟩;obtain ⟨A2,c2,rfl,hc2,-,-,-⟩:=o2.form;have hnb:¬ S w.heap.size:=H.out.lt (Nat.le_refl _);have BE:=zH (show EdBox w2 w.heap.size 64 zE from ⟨B1.out.box.turned t2 hnb⟩);have NB:=zH (t2.notIn HSZ.out hnb);have T2:=zH ((Turns.of_keeps KZ.out).trans t2);have H2:=zH h2;have ST:=zH st2;have el:(edB x).length=20:=zbd x;rw [el] at hc2;have RD:=zH (zeT A2 c2 (edB x) _ (Own.at_ o2) el hc2);obtain ⟨n0,n1,n2,n3⟩:=zi2 OKX.out;rw [n0,n1,n2,n3] at RD;rw [el];clear hnb h2 t2 st2 o2 n0 n1 n2 n3 el hc2 GT B1;go_wp2_with fail
 refine RD.out.mono ?_;rintro e w5 ⟨rfl,k5⟩;have BE5:=BE.out.keep k5;obtain ⟨d0,d1,d2,d3⟩:=BE5.cells;obtain ⟨g0,g1,g2,g3⟩:=BE5.free;have BE6:=BE5.put x;have H7:=zH ((H2.out.keep k5).putE (b:=w.heap.size) H.out.base NB.out x);have T7:=zH ((T2.out.trans (Turns.of_keeps k5)).putE_ (b:=w.heap.size) (Nat.le_refl _) x);clear k5;go_wp2_with fail
 change bodyPost _ _ _ _ _ (putEd w5 w.heap.size x)
 generalize putEd w5 w.heap.size x=W7 at *;obtain ⟨d0,d1,d2,d3⟩:=BE6.cells;exact bodyPost_ret (v:=.tuple #[edG x, .int .i64 0]) (by simp [results,Tryz.results44,go_sem,d0,d1,d2,d3,edG]) rfl ⟨rfl,q,S2,H7.out,T7.out,ST.out⟩
theorem zn2 (PK:PageOk) (h:ExS K w0 B N Q A C p V ns S w) (hZ:K.Z w0) (hS:Sizes w0) (hN:N≤4096) (hQ:4*(A*C)+4≤Q) (b:StrAt w sb B.pb nm 20) (hb:¬ S sb) {l:List Ed} (s:IsS V nm 20 (l.map edB)) (i:Int) (hi:IsI i) (hr:i<0∨l.length≤i.toNat) :
 Calls Tryz.prog 44 #[.pointer (some ⟨sb,0,none⟩), .int .i64 i] w fun e w'=>e = .returned (.tuple #[edG zE, .int .i64 ((if i<0 then 1 else 3:Nat):Int)])∧Stays K w0 B N Q A C p V ns S w w':=by
 have B0:=EdBox.new w 64 zE;have kz:=zA w (.cells #[.int .u32 0, .int .u32 0, .int .u64 0, .int .u32 0] 64);have B1:=zH (show EdBox (w.alloc (.cells #[.int .u32 0, .int .u32 0, .int .u64 0, .int .u32 0] 64)) w.heap.size 64 zE from B0);have hsz:w.heap.size<(w.alloc (.cells #[.int .u32 0, .int .u32 0, .int .u64 0, .int .u32 0] 64)).heap.size:=by simp
 have GT:=zH (zp7 PK (h.keep kz) hZ hS hN hQ (b.keep kz) hb s i hi (by rw [List.length_map];exact hr));have H:=zH h;have KZ:=zH kz;have HSZ:=zH hsz;obtain ⟨E,hE,hne⟩:∃ E:Int,((if i<0 then 1 else 3:Nat):Int)=E∧(E != 0)=true:=⟨_,rfl,by split<;>rfl⟩
 rw [hE] at GT ⊢;clear B0 kz h b s hsz hi hr hE;go_enter Tryz.func44,Tryz.ntmps44;go_wp2_with fail
 refine GT.out.mono ?_;rintro e w2 ⟨v,rfl,o2,q,S2,h2,t2,st2⟩;obtain ⟨A2,c2,rfl,hc2,-,-,-⟩:=o2.form;have hnb:¬ S w.heap.size:=H.out.lt (Nat.le_refl _);have BE:EdBox w2 w.heap.size 64 zE:=⟨B1.out.box.turned t2 hnb⟩
 have NB:=t2.notIn HSZ.out hnb;have ST:=zH st2;obtain ⟨d0,d1,d2,d3⟩:=BE.cells;obtain ⟨g0,g1,g2,g3⟩:=BE.free;have BE6:=BE.put zE;have H7:=zH (h2.putE (b:=w.heap.size) H.out.base NB zE);have T7:=zH (((Turns.of_keeps KZ.out).trans t2).putE_ (b:=w.heap.size) (Nat.le_refl _) zE);clear hnb h2 t2 st2 o2 hc2 GT B1 BE NB;go_wp2_with fail
 change bodyPost _ _ _ _ _ (putEd w2 w.heap.size zE)
 generalize putEd w2 w.heap.size zE=W7 at *;obtain ⟨d0,d1,d2,d3⟩:=BE6.cells;exact bodyPost_ret (v:=.tuple #[edG zE, .int .i64 E]) (by simp [results,Tryz.results44,go_sem,d0,d1,d2,d3,edG]) rfl ⟨rfl,q,S2,H7.out,T7.out,ST.out⟩
structure GrAt (w:World) (S:Nat→Prop) (B:PB) (nE nR nV:List UInt8) (n gb bv bt bh:Nat):Prop where
 box:Box w gb 98 #[.pointer (some ⟨bv,0,none⟩), .pointer (some ⟨bt,0,none⟩), .pointer (some ⟨bh,0,none⟩), .int .i64 (n:Int)]
 v:StrAt w bv B.pb nV 12
 t:StrAt w bt B.pb nE 20
 h:StrAt w bh B.pb nR 20
 ng:¬ S gb
 nv:¬ S bv
 nt:¬ S bt
 nh:¬ S bh
variable {bv bt bh:Nat}
theorem GrAt.keep (g:GrAt w S B nE nR nV n gb bv bt bh) (k:Keeps w w'):GrAt w' S B nE nR nV n gb bv bt bh:=⟨g.box.keep k,g.v.keep k,g.t.keep k,g.h.keep k,g.ng,g.nv,g.nt,g.nh⟩
theorem GrAt.turn (g:GrAt w S B nE nR nV n gb bv bt bh) (t:Turns w w' S S'):GrAt w' S' B nE nR nV n gb bv bt bh:=
 ⟨g.box.turned t g.ng,g.v.turn t g.nv,g.t.turn t g.nt,g.h.turn t g.nh,t.notIn g.box.lt g.ng,t.notIn g.v.lt g.nv,t.notIn g.t.lt g.nt,t.notIn g.h.lt g.nh⟩
theorem GrAt.cells (g:GrAt w S B nE nR nV n gb bv bt bh):w.cell? ⟨gb,0,none⟩=some (.pointer (some ⟨bv,0,none⟩))∧w.cell? ⟨gb,1,none⟩=some (.pointer (some ⟨bt,0,none⟩))∧w.cell? ⟨gb,2,none⟩=some (.pointer (some ⟨bh,0,none⟩))∧w.cell? ⟨gb,3,none⟩=some (.int .i64 (n:Int)):=
 ⟨g.box.cell 0 rfl,g.box.cell 1 rfl,g.box.cell 2 rfl,g.box.cell 3 rfl⟩
theorem zfb (g:GrAt w S B nE nR nV n gb bv bt bh):Calls Tryz.prog 14 #[.pointer (some ⟨gb,0,none⟩)] w fun e w'=>e = .returned (.int .i64 (n:Int))∧w=w':=by
 obtain ⟨c0,c1,c2,c3⟩:=g.cells;clear g;go_enter Tryz.func14,Tryz.ntmps14;go_wp2;go_ret;exact ⟨rfl,rfl⟩
theorem zcj (g:GrAt w S B nE nR nV n gb bv bt bh) (v:Nat) (hv:v<4294967296) (hn:n≤1000000):Calls Tryz.prog 37 #[.pointer (some ⟨gb,0,none⟩), .int .u32 (v:Int)] w fun e w'=>e = .returned (.int .i64 (if v<n then 0 else 13))∧w=w':=by
 obtain ⟨c0,c1,c2,c3⟩:=g.cells;have hn1:(n:Int)≤1000000:=by omega
 have hv1:(v:Int)<4294967296:=by omega
 clear g hn hv;by_cases hvn:v<n
 ·have h1:¬ (n:Int)≤(v:Int):=(by omega);have h2:decide (n≤v)=false:=decide_eq_false (by omega);rw [if_pos hvn];clear hvn;go_enter Tryz.func37,Tryz.ntmps37;go_wp2;go_ret;exact ⟨rfl,rfl⟩
 ·have h1:(n:Int)≤(v:Int):=(by omega);have h2:decide (n≤v)=true:=decide_eq_true (by omega);rw [if_neg hvn];clear hvn;go_enter Tryz.func37,Tryz.ntmps37;go_wp2;go_ret;exact ⟨rfl,rfl⟩
end
theorem zdV:(Tryz.prog.info? 64).map (fun i=>(i.zero,i.size,i.bytes))=some (some (.agg #[.int .u32 0, .int .u32 0, .int .u64 0, .int .u32 0]),4,24):=by kernel_rfl
theorem zsq:96≠64:=by decide
theorem zsr:101≠64:=by decide
theorem zss:26≠64:=by decide
theorem zfc (a:List Ed) (x:Ed):edsC (a++[x])=edsC a++edC x:=by simp [edsC]
section
variable {K:DiskOk} {w0 w w' w1 w2 wA:World} {B:PB} {S S' S1 S2 SA:Nat→Prop} {p q:Pst} {N Q A C sb:Nat} {V:Vw} {ns:List (List UInt8)} {nm:List UInt8}
structure CapAt (w:World) (S:Nat→Prop) (B:PB) (nm:List UInt8) (k:FuncId) (v sb bf be bv:Nat):Prop where
 f:Box w bf 96 #[.pointer (some ⟨sb,0,none⟩)]
 e:Box w be 101 #[.func (.func k) #[] #[]]
 v:Box w bv 26 #[.int .u32 (v:Int)]
 s:StrAt w sb B.pb nm 20
 nf:¬ S bf
 ne:¬ S be
 nv:¬ S bv
 ns:¬ S sb
variable {k:FuncId} {v bf be bv:Nat}
theorem CapAt.keep (c:CapAt w S B nm k v sb bf be bv) (h:Keeps w w'):CapAt w' S B nm k v sb bf be bv:=⟨c.f.keep h,c.e.keep h,c.v.keep h,c.s.keep h,c.nf,c.ne,c.nv,c.ns⟩
theorem CapAt.turn (c:CapAt w S B nm k v sb bf be bv) (t:Turns w w' S S'):CapAt w' S' B nm k v sb bf be bv:=
 ⟨c.f.turned t c.nf,c.e.turned t c.ne,c.v.turned t c.nv,c.s.turn t c.ns,t.notIn c.f.lt c.nf,t.notIn c.e.lt c.ne,t.notIn c.v.lt c.nv,t.notIn c.s.lt c.ns⟩
theorem CapAt.grown (c:CapAt w S B nm k v sb bf be bv) {base n:Nat} {u:Value} {xs:List Value} (o:Own w base 64 4 u n xs) (h:w.grownBy w' u.ownBlock):CapAt w' S B nm k v sb bf be bv:=
 ⟨c.f.grownX h (o.not_boxS c.f zsq),c.e.grownX h (o.not_boxS c.e zsr),c.v.grownX h (o.not_boxS c.v zss),Box.grownX c.s h (o.not_boxS c.s zso),c.nf,c.ne,c.nv,c.ns⟩
def zb3 (K:DiskOk) (w0:World) (B:PB) (N Q A C:Nat) (p:Pst) (V:Vw) (ns:List (List UInt8)) (S:Nat→Prop) (w:World) (r:List Ed) (e:Ending) (w':World):Prop:=
 ∃ (u:Value) (q:Pst) (S':Nat→Prop),e = .returned (.tuple #[u, .int .i64 0])∧Own w' w.heap.size 64 4 u r.length (edsC r)∧(∀ g,u.ownBlock=some g→¬ S' g)∧ExS K w0 B N Q A C q V ns S' w'∧Turns w w' S S'∧Still p q none
theorem zin (x:Ed) (W:World):Calls Tryz.prog 39 #[edG x] W fun e w'=>e = .returned (.int .u32 (endE false x:Int))∧Keeps W w':=by
 obtain ⟨y0,y1,y2,y3⟩:=(EdBox.new W 64 x).cells;unfold edG;go_enter Tryz.func39,Tryz.ntmps39;go_wp2;go_ret;exact ⟨rfl,zA _ _⟩
theorem zqd (PK:PageOk) (h:ExS K w0 B N Q A C p V ns S w) (hZ:K.Z w0) (hS:Sizes w0) (hN:N≤4096) (hQ:4*(A*C)+4≤Q) {l:List Ed} (s:IsS V nm 20 (l.map edB)) (c:CapAt w S B nm 39 v sb bf be bv) {i:Nat} {x:Ed} (hx:l[i]? = some x) (hok:EdOk x) (hi:i≤1000000) :
 Calls Tryz.prog 74 #[.int .i64 (i:Int), .pointer (some ⟨bf,0,none⟩), .pointer (some ⟨be,0,none⟩), .pointer (some ⟨bv,0,none⟩)] w fun e w'=>e = .returned (.tuple #[.bool (decide (v≤endE false x)), .int .i64 0])∧Stays K w0 B N Q A C p V ns S w w':=by
 have ED:=zH (zct PK h hZ hS hN hQ c.s c.ns s hx hok hi);have EN:=zH (fun W=>zin x W);have c0:=c.f.cell 0 rfl;have CC:=zH c;have ways:(v≤endE false x∧decide (v≤endE false x)=true)∨(¬ v≤endE false x∧decide (v≤endE false x)=false):=by
  by_cases hh:v≤endE false x
  ·exact .inl ⟨hh,decide_eq_true hh⟩
  ·exact .inr ⟨hh,decide_eq_false hh⟩
 generalize decide (v≤endE false x)=RR at *;generalize endE false x=ev at *;have WAYS:Hid (((v:Int)≤(ev:Int)∧RR=true)∨(¬ (v:Int)≤(ev:Int)∧RR=false)):=zH (by
  rcases ways with ⟨a,b⟩|⟨a,b⟩
  ·exact .inl ⟨by omega,b⟩
  ·exact .inr ⟨by omega,b⟩)
 unfold edG at EN;clear ways h s c hx hok hi;go_enter Tryz.func74,Tryz.ntmps74;go_wp2_with fail
 refine ED.out.mono ?_;rintro e w2 ⟨rfl,q,S2,h2,t2,st2⟩;have C2:=CC.out.turn t2;have kz:=zA w2 (.cells #[.int .u32 (x.t:Int), .int .u32 (x.h:Int), .int .u64 (x.x:Int), .int .u32 (x.m:Int)] 64);have YB:=EdBox.new w2 64 x;have SS:=zH (fun (W:World) (kk:Keeps (w2.alloc (.cells #[.int .u32 (x.t:Int), .int .u32 (x.h:Int), .int .u64 (x.x:Int), .int .u32 (x.m:Int)] 64)) W)=>show (W.cell? ⟨be,0,none⟩=some (.func (.func 39) #[] #[])∧W.cell? ⟨bv,0,none⟩=some (.int .u32 (v:Int)))∧(W.cell? ⟨w2.heap.size,0,none⟩=some (.int .u32 (x.t:Int))∧W.cell? ⟨w2.heap.size,1,none⟩=some (.int .u32 (x.h:Int))∧W.cell? ⟨w2.heap.size,2,none⟩=some (.int .u64 (x.x:Int))∧W.cell? ⟨w2.heap.size,3,none⟩=some (.int .u32 (x.m:Int))) from
  ⟨⟨(C2.keep (zK kz kk)).e.cell 0 rfl,(C2.keep (zK kz kk)).v.cell 0 rfl⟩,(YB.keep kk).cells⟩)
 have s0:=SS.out _ (zab _);have KZ:=zH kz;have H2:=zH h2;have T2:=zH t2;have ST2:=zH st2;unfold edG;clear C2 kz YB h2 t2 st2 ED c0;go_wp2_with fail
 go_region_held3 (fun W=>(W.cell? ⟨be,0,none⟩=some (.func (.func 39) #[] #[])∧W.cell? ⟨bv,0,none⟩=some (.int .u32 (v:Int)))∧(W.cell? ⟨w2.heap.size,0,none⟩=some (.int .u32 (x.t:Int))∧W.cell? ⟨w2.heap.size,1,none⟩=some (.int .u32 (x.h:Int))∧W.cell? ⟨w2.heap.size,2,none⟩=some (.int .u64 (x.x:Int))∧W.cell? ⟨w2.heap.size,3,none⟩=some (.int .u32 (x.m:Int)))) (first|assumption|exact SS.out _ (zD _)) (first
  | (go_at_call 39;refine (EN.out _).mono ?_;rintro ee w4 ⟨rfl,k4⟩;have s4:=SS.out _ (zK (zD _) k4);have K4:=zH (zK (zK KZ.out (zD _)) k4)))
 clear s4 s0;rcases WAYS.out with ⟨g,rfl⟩|⟨g,rfl⟩
 all_goals
  go_wp2;go_returns;exact ⟨by (simp [g];try omega),q,S2,H2.out.keep K4.out,T2.out.trans (Turns.of_keeps K4.out),ST2.out⟩
theorem zn3 (PK:PageOk) (h:ExS K w0 B N Q A C p V ns S w) (hZ:K.Z w0) (hS:Sizes w0) (hN:N≤4096) (hQ:4*(A*C)+4≤Q) {l:List Ed} (s:IsS V nm 20 (l.map edB)) (hok:∀ e∈l,EdOk e) (hr:RiseB false l) (c:CapAt w S B nm 39 v sb bf be bv) (hl:l.length≤1000000) :
 Calls Tryz.prog 73 #[.int .i64 (l.length:Int), .func (.func 74) #[] #[.pointer (some ⟨bf,0,none⟩), .pointer (some ⟨be,0,none⟩), .pointer (some ⟨bv,0,none⟩)]] w fun e w'=>∃ b:Nat,e = .returned (.tuple #[.int .i64 (b:Int), .int .i64 0])∧LowE false v l b b∧Stays K w0 B N Q A C p V ns S w w':=by
 have H:=zH h;have HZ:=zH hZ;have HS:=zH hS;have HN:=zH hN;have HQ:=zH hQ;have SS:=zH s;have OK:=zH hok;have RI:=zH hr;have CC:=zH c;have HL:=zH hl;clear h hZ hS hN hQ s hok hr c hl;go_enter Tryz.func73,Tryz.ntmps73;go_wp2;go_loopw [6,7] (fun i6 i7 wr=>∃ (b e:Nat) (q:Pst) (S':Nat→Prop),i6 = .int .i64 (b:Int)∧i7 = .int .i64 (e:Int)∧LowE false v l b e∧ExS K w0 B N Q A C q V ns S' wr∧CapAt wr S' B nm 39 v sb bf be bv∧Turns w wr S S'∧Still p q none) (fun i6 i7 _=>(intOf i7-intOf i6).toNat)
 case atStart=>exact ⟨0,l.length,p,S,rfl,rfl,LowE.start false v l,H.out,CC.out,Turns.refl _ _,Still.refl _ _⟩
 case round=>
  obtain ⟨b,e,q,S',rfl,rfl,hlow,hx,hc,ht,hst⟩:=hrel;have LOW:=zH hlow;have X:=zH hx;have CR:=zH hc;have TR:=zH ht;have STR:=zH hst;clear hlow hx hc ht hst;by_cases hlt:b<e
  ·obtain ⟨d,hd⟩:∃ d,d=(e-b)/2:=(⟨_,rfl⟩);have htop:=LOW.out.top;have hlen:=HL.out;have hdi:((e:Int)-(b:Int)).tdiv 2=(d:Int):=by rw [Int.tdiv_eq_ediv_of_nonneg (by omega)];omega
   obtain ⟨x,hx⟩:∃ x,l[b+d]? = some x:=(⟨_,zG9 (by omega)⟩);have TS:=zH (zqd PK X.out HZ.out HS.out HN.out HQ.out SS.out CR.out hx (OK.out x (List.mem_of_getElem? hx)) (by omega));rw [show ((b+d:Nat):Int)=(b:Int)+(d:Int) by omega] at TS;have HX:=zH hx;have HM:=zH (show b≤b+d∧b+d<e by omega);have b1:(b:Int)<(e:Int):=by omega
   have b2:(e:Int)≤1000000:=(by omega);have b3:(0:Int)≤(b:Int):=by omega
   have b4:(b:Int)+(d:Int)<(e:Int):=(by omega);have b5:(0:Int)≤(d:Int):=by omega
   have hlt':b<e:=hlt;clear hlt hx hd htop hlen;by_cases hv:v≤endE false x
   ·rw [decide_eq_true hv] at TS;have LN:=zH (LOW.out.down RI.out HM.out HX.out hv);clear hv;go_wp2_with fail
    refine TS.out.mono ?_;rintro e3 w3 ⟨rfl,q3,S3,h3,t3,st3⟩;have C3:=zH (CR.out.turn t3);have H3:=zH h3;have T3:=zH (TR.out.trans t3);have ST3:=zH (STR.out.trans st3);clear h3 t3 st3 TS;go_wp2;go_roundw
    case rel=>exact ⟨b,b+d,q3,S3,rfl,by go_num,LN.out,H3.out,C3.out,T3.out,ST3.out⟩
    case measure=>have:=HM.out;simp [intOf];omega
   ·rw [decide_eq_false hv] at TS;have LN:=zH (LOW.out.up RI.out HM.out HX.out hv);clear hv;go_wp2_with fail
    refine TS.out.mono ?_;rintro e3 w3 ⟨rfl,q3,S3,h3,t3,st3⟩;have C3:=zH (CR.out.turn t3);have H3:=zH h3;have T3:=zH (TR.out.trans t3);have ST3:=zH (STR.out.trans st3);clear h3 t3 st3 TS;go_wp2;go_roundw
    case rel=>exact ⟨b+d+1,e,q3,S3,by go_num,rfl,LN.out,H3.out,C3.out,T3.out,ST3.out⟩
    case measure=>have:=HM.out;simp [intOf];omega
  ·obtain rfl:b=e:=by have:=LOW.out.le;omega
   have F:=zH (show Stays K w0 B N Q A C p V ns S w wr from ⟨q,S',X.out,TR.out,STR.out⟩);clear hlt;go_wp2;go_returns;exact ⟨b,rfl,LOW.out,F.out⟩
theorem zkF (PK:PageOk) (h:ExS K w0 B N Q A C p V ns S w) (hZ:K.Z w0) (hS:Sizes w0) (hN:N≤4096) (hQ:4*(A*C)+4≤Q) {l:List Ed} (s:IsS V nm 20 (l.map edB)) (hok:∀ e∈l,EdOk e) (hr:RiseB false l) (b:StrAt w sb B.pb nm 20) (hb:¬ S sb) (hv:v<4294967296) (hl:l.length≤1000000) :
 Calls Tryz.prog 38 #[.pointer (some ⟨sb,0,none⟩), .int .u32 (v:Int), .func (.func 39) #[] #[]] w (zb3 K w0 B N Q A C p V ns S w (outE false v l)):=by
 obtain ⟨i0,hi,hz0,hz1,hz2⟩:=info_parts zdV;have k1:=zA w (.cells #[.pointer (some ⟨sb,0,none⟩)] 96);have k2:=zA (w.alloc (.cells #[.pointer (some ⟨sb,0,none⟩)] 96)) (.cells #[.int .u32 (v:Int)] 26);have k3:=zA ((w.alloc (.cells #[.pointer (some ⟨sb,0,none⟩)] 96)).alloc (.cells #[.int .u32 (v:Int)] 26)) (.cells #[.func (.func 39) #[] #[]] 101);have b1:=Box.new w 96 #[.pointer (some ⟨sb,0,none⟩)];have b2:=Box.new (w.alloc (.cells #[.pointer (some ⟨sb,0,none⟩)] 96)) 26 #[.int .u32 (v:Int)];have b3:=Box.new ((w.alloc (.cells #[.pointer (some ⟨sb,0,none⟩)] 96)).alloc (.cells #[.int .u32 (v:Int)] 26)) 101 #[.func (.func 39) #[] #[]];have kz:=zK k1 (zK k2 k3);have CC:CapAt (((w.alloc (.cells #[.pointer (some ⟨sb,0,none⟩)] 96)).alloc (.cells #[.int .u32 (v:Int)] 26)).alloc (.cells #[.func (.func 39) #[] #[]] 101)) S B nm 39 v sb w.heap.size (w.heap.size+1+1) (w.heap.size+1):=
  ⟨(b1.keep k2).keep k3,by simpa using b3,by simpa using b2.keep k3,b.keep kz,h.lt (Nat.le_refl _),h.lt (by omega),h.lt (by omega),hb⟩
 have LE:=zH (y_len PK (h.keep kz) hZ hS hN hQ (b.keep kz) hb s);rw [List.length_map] at LE;have c0:=CC.f.cell 0 rfl;have CC:=zH CC;have TZ:=zH (Turns.of_keeps (S:=S) kz);have H:=zH h;have HZ:=zH hZ;have HS:=zH hS;have HN:=zH hN;have HQ:=zH hQ;have SS:=zH s;have OK:=zH hok;have RI:=zH hr;have HL:=zH hl;have HV:=zH hv;have hli:(l.length:Int)≤1000000:=by omega
 have BASE:=zH h.base;clear h hZ hS hN hQ s hok hr hl b hb hv k1 k2 k3 b1 b2 b3 kz;go_enter Tryz.func38,Tryz.ntmps38;go_wp2_with fail
 refine LE.out.mono ?_;rintro e w2 ⟨rfl,q2,S2,h2,t2,st2⟩;have C2:=zH (CC.out.turn t2);have HV2:=zH (zn3 PK h2 HZ.out HS.out HN.out HQ.out SS.out OK.out RI.out C2.out HL.out);have T2:=zH (TZ.out.trans t2);have ST2:=zH st2;clear h2 t2 st2 c0 LE CC TZ;go_wp2_with fail
 refine HV2.out.mono ?_;rintro e w3 ⟨bg,rfl,low,q3,S3,h3,t3,st3⟩;have LOW:=zH low;have hbg:(bg:Int)≤(l.length:Int):=by have:=low.top;omega
 have C3:=zH (C2.out.turn t3);have H3:=zH h3;have T3:=zH (T2.out.trans t3);have ST3:=zH (ST2.out.trans st3);clear low h3 t3 st3 T2 ST2 C2 HV2;go_wp2;go_loopw [10,11] (fun i u wr=>∃ (j:Nat) (q:Pst) (S':Nat→Prop),bg≤j∧j≤l.length∧i = .int .i64 (j:Int)∧Own wr w.heap.size 64 4 u (outE false v (l.take j)).length (edsC (outE false v (l.take j)))∧(∀ g,u.ownBlock=some g→¬ S' g)∧ExS K w0 B N Q A C q V ns S' wr∧CapAt wr S' B nm 39 v sb w.heap.size (w.heap.size+1+1) (w.heap.size+1)∧Turns w wr S S'∧Still p q none) (fun i _ _=>l.length-(intOf i).toNat)
 case atStart=>exact ⟨bg,q3,S3,Nat.le_refl _,LOW.out.top,rfl,by rw [LOW.out.begin];exact Own.nil _ _ _ _,fun g hg=>by simp [Value.ownBlock] at hg,H3.out,C3.out,T3.out,ST3.out⟩
 case round=>
  obtain ⟨j,q4,S4,hbj,hj,rfl,ho,hf,hx,hc,ht,hst⟩:=hrel;have O:=zH ho;have FA:=zH hf;have X:=zH hx;have CR:=zH hc;have TR:=zH ht;have STR:=zH hst;have BJ:=zH hbj;obtain ⟨Av,cv,rfl,hcv,-,-,-⟩:=ho.form;clear ho hf hx hc ht hst hbj;by_cases hlt:j<l.length
  ·obtain ⟨x,hx⟩:∃ x,l[j]? = some x:=(⟨_,zG9 hlt⟩);have HX:=zH hx;have ED:=zH (zct PK X.out HZ.out HS.out HN.out HQ.out CR.out.s CR.out.ns SS.out hx (OK.out x (List.mem_of_getElem? hx)) (by have:=HL.out;omega));have EN:=zH (fun W=>zin x W);have c0:=CR.out.f.cell 0 rfl;have hji:(j:Int)<(l.length:Int):=by omega
   have HJ:=zH hlt;unfold edG at EN;have hEV:∃ ev,endE false x=ev:=(⟨_,rfl⟩);obtain ⟨ev,hEV⟩:=hEV;rw [hEV] at EN;have EV:=zH hEV;clear hx hlt hj hEV;go_wp2_with fail
   refine ED.out.mono ?_;rintro e w5 ⟨rfl,q5,S5,h5,t5,st5⟩;have C5:=CR.out.turn t5;have kz:=zA w5 (.cells #[.int .u32 (x.t:Int), .int .u32 (x.h:Int), .int .u64 (x.x:Int), .int .u32 (x.m:Int)] 64);have YB:=EdBox.new w5 64 x;have SD:=zH (fun (W:World) (kk:Keeps (w5.alloc (.cells #[.int .u32 (x.t:Int), .int .u32 (x.h:Int), .int .u64 (x.x:Int), .int .u32 (x.m:Int)] 64)) W)=>show (W.cell? ⟨w.heap.size+1+1,0,none⟩=some (.func (.func 39) #[] #[])∧W.cell? ⟨w.heap.size+1,0,none⟩=some (.int .u32 (v:Int)))∧(W.cell? ⟨w5.heap.size,0,none⟩=some (.int .u32 (x.t:Int))∧W.cell? ⟨w5.heap.size,1,none⟩=some (.int .u32 (x.h:Int))∧W.cell? ⟨w5.heap.size,2,none⟩=some (.int .u64 (x.x:Int))∧W.cell? ⟨w5.heap.size,3,none⟩=some (.int .u32 (x.m:Int))) from
    ⟨⟨(C5.keep (zK kz kk)).e.cell 0 rfl,(C5.keep (zK kz kk)).v.cell 0 rfl⟩,(YB.keep kk).cells⟩)
   have s0:=SD.out _ (zab _);obtain ⟨o5,f5⟩:=zbg O.out FA.out t5;have O5:=zH o5;have F5:=zH f5;have KZ:=zH kz;have H5:=zH h5;have T5:=zH (TR.out.trans t5);have ST5:=zH (STR.out.trans st5);have CV5:=zH C5;unfold edG;clear C5 kz YB h5 t5 st5 ED c0 o5 f5;go_wp2_with fail
   go_region_held3 (fun W=>(W.cell? ⟨w.heap.size+1+1,0,none⟩=some (.func (.func 39) #[] #[])∧W.cell? ⟨w.heap.size+1,0,none⟩=some (.int .u32 (v:Int)))∧(W.cell? ⟨w5.heap.size,0,none⟩=some (.int .u32 (x.t:Int))∧W.cell? ⟨w5.heap.size,1,none⟩=some (.int .u32 (x.h:Int))∧W.cell? ⟨w5.heap.size,2,none⟩=some (.int .u64 (x.x:Int))∧W.cell? ⟨w5.heap.size,3,none⟩=some (.int .u32 (x.m:Int)))) (first|assumption|exact SD.out _ (zD _)) (first
    | (go_at_call 39;refine (EN.out _).mono ?_;rintro ee w6 ⟨rfl,k6⟩;have s6:=SD.out _ (zK (zD _) k6);have K6:=zH (zK (zK KZ.out (zD _)) k6)))
   clear s0;obtain ⟨-,z0,z1,z2,z3⟩:=s6;by_cases hev:ev=v
   ·have g1:((ev:Int) != (v:Int))=false:=by rw [bne_eq_false_iff_eq];omega
    have g2:decide (ev=v)=true:=decide_eq_true hev;have ON:=zH (zdH HX.out (EV.out.trans hev));have O6:=zH (O5.out.keep K6.out);have ML:=zH (show (outE false v (l.take j)).length≤1000000 by have:=zcM false v (l.take j);have:=List.length_take_le j l;have:=HL.out;omega);have AT:=zH (At.new w6 (edC x) 64 _ (Nat.lt_succ_self _));have X6:=zH (H5.out.keep K6.out);have T6:=zH (T5.out.trans (Turns.of_keeps K6.out));have C6:=zH (CV5.out.keep K6.out);have WSZ:=zH (show w.heap.size≤w6.heap.size from Nat.le_trans T5.out.only.size K6.out.size);have mli:((outE false v (l.take j)).length:Int)≤1000000:=by have:=ML.out;omega
    have ML':=ML.out;generalize hML:(outE false v (l.take j)).length=ml at *;clear hev SD g2;go_wp2_with (at_builtin;refine zaj _ rfl _ _ 22 rfl w.heap.size 64 i0 (.agg #[.int .u32 0, .int .u32 0, .int .u64 0, .int .u32 0]) 4 24 Tryz.underlying22 hi hz0 hz1 hz2 rfl (by decide) _ ml (edsC (outE false v (l.take j))) rfl (O6.out.keep (zA _ _)) _ _ 1 1 (edC x) rfl rfl AT.out (by intro u hu;exact zce [x] u (by simpa [edsC] using hu)) (by unfold maxLen;omega) (by omega) (Nat.le_trans WSZ.out (zA _ _).size) ?_)
    intro v8 w8 o8 g8 b8;have ka:=zA w6 (.cells #[.int .u32 (x.t:Int), .int .u32 (x.h:Int), .int .u64 (x.x:Int), .int .u32 (x.m:Int)] 64);obtain ⟨x8,t8⟩:=zgT (X6.out.keep ka) (T6.out.trans (Turns.of_keeps ka)) (O6.out.keep ka) (Nat.le_refl _) BASE.out F5.out g8;have X8:=zH x8;have T8:=zH t8;have C8:=zH ((C6.out.keep ka).grown (O6.out.keep ka) g8);have F8:=zH (zil (X6.out.keep ka) F5.out (by simp) b8);have O8:=zH (show Own w8 w.heap.size 64 4 v8 (outE false v (l.take (j+1))).length (edsC (outE false v (l.take (j+1)))) by
     rw [ON.out,zfc,List.length_append,hML];exact o8)
    clear o8 g8 b8 ka x8 t8 z0 z1 z2 z3;go_wp2_with fail
    refine ⟨⟨j+1,q5,S5,by have:=BJ.out;omega,by have:=HJ.out;omega,by go_num,O8.out,F8.out,X8.out,C8.out,T8.out,ST5.out⟩,?_⟩;have:=HJ.out
    (simp [intOf];try omega)
   ·have g1:((ev:Int) != (v:Int))=true:=by rw [bne_iff_ne];omega
    have g2:decide (ev=v)=false:=decide_eq_false hev;have OS:=zH (LOW.out.stop RI.out BJ.out HX.out (fun e=>hev (EV.out.symm.trans e)));have F:=zH (show zb3 K w0 B N Q A C p V ns S w (outE false v l) (.returned (.tuple #[.slice Av (outE false v (l.take j)).length cv, .int .i64 0])) w6 from
     ⟨_,q5,S5,rfl,by rw [OS.out];exact O5.out.keep K6.out,F5.out,H5.out.keep K6.out,T5.out.trans (Turns.of_keeps K6.out),ST5.out⟩)
    clear hev SD z0 z1 z2 z3;go_wp2;go_returns;exact F.out
  ·obtain rfl:j=l.length:=(by omega);have OT:=zH (show l.take l.length=l from List.take_length);have F:=zH (show zb3 K w0 B N Q A C p V ns S w (outE false v l) (.returned (.tuple #[.slice Av (outE false v (l.take l.length)).length cv, .int .i64 0])) wr from
    ⟨_,q4,S4,rfl,by have:=O.out;rw [OT.out] at this ⊢;exact this,FA.out,X.out,TR.out,STR.out⟩)
   clear hlt hj;go_wp2;go_returns;exact F.out
theorem zjR (x:Ed) (W:World):Calls Tryz.prog 40 #[edG x] W fun e w'=>e = .returned (.int .u32 (endE true x:Int))∧Keeps W w':=by
 obtain ⟨y0,y1,y2,y3⟩:=(EdBox.new W 64 x).cells;unfold edG;go_enter Tryz.func40,Tryz.ntmps40;go_wp2;go_ret;exact ⟨rfl,zA _ _⟩
theorem zrx (PK:PageOk) (h:ExS K w0 B N Q A C p V ns S w) (hZ:K.Z w0) (hS:Sizes w0) (hN:N≤4096) (hQ:4*(A*C)+4≤Q) {l:List Ed} (s:IsS V nm 20 (l.map edB)) (c:CapAt w S B nm 40 v sb bf be bv) {i:Nat} {x:Ed} (hx:l[i]? = some x) (hok:EdOk x) (hi:i≤1000000) :
 Calls Tryz.prog 74 #[.int .i64 (i:Int), .pointer (some ⟨bf,0,none⟩), .pointer (some ⟨be,0,none⟩), .pointer (some ⟨bv,0,none⟩)] w fun e w'=>e = .returned (.tuple #[.bool (decide (v≤endE true x)), .int .i64 0])∧Stays K w0 B N Q A C p V ns S w w':=by
 have ED:=zH (zct PK h hZ hS hN hQ c.s c.ns s hx hok hi);have EN:=zH (fun W=>zjR x W);have c0:=c.f.cell 0 rfl;have CC:=zH c;have ways:(v≤endE true x∧decide (v≤endE true x)=true)∨(¬ v≤endE true x∧decide (v≤endE true x)=false):=by
  by_cases hh:v≤endE true x
  ·exact .inl ⟨hh,decide_eq_true hh⟩
  ·exact .inr ⟨hh,decide_eq_false hh⟩
 generalize decide (v≤endE true x)=RR at *;generalize endE true x=ev at *;have WAYS:Hid (((v:Int)≤(ev:Int)∧RR=true)∨(¬ (v:Int)≤(ev:Int)∧RR=false)):=zH (by
  rcases ways with ⟨a,b⟩|⟨a,b⟩
  ·exact .inl ⟨by omega,b⟩
  ·exact .inr ⟨by omega,b⟩)
 unfold edG at EN;clear ways h s c hx hok hi;go_enter Tryz.func74,Tryz.ntmps74;go_wp2_with fail
 refine ED.out.mono ?_;rintro e w2 ⟨rfl,q,S2,h2,t2,st2⟩;have C2:=CC.out.turn t2;have kz:=zA w2 (.cells #[.int .u32 (x.t:Int), .int .u32 (x.h:Int), .int .u64 (x.x:Int), .int .u32 (x.m:Int)] 64);have YB:=EdBox.new w2 64 x;have SS:=zH (fun (W:World) (kk:Keeps (w2.alloc (.cells #[.int .u32 (x.t:Int), .int .u32 (x.h:Int), .int .u64 (x.x:Int), .int .u32 (x.m:Int)] 64)) W)=>show (W.cell? ⟨be,0,none⟩=some (.func (.func 40) #[] #[])∧W.cell? ⟨bv,0,none⟩=some (.int .u32 (v:Int)))∧(W.cell? ⟨w2.heap.size,0,none⟩=some (.int .u32 (x.t:Int))∧W.cell? ⟨w2.heap.size,1,none⟩=some (.int .u32 (x.h:Int))∧W.cell? ⟨w2.heap.size,2,none⟩=some (.int .u64 (x.x:Int))∧W.cell? ⟨w2.heap.size,3,none⟩=some (.int .u32 (x.m:Int))) from
  ⟨⟨(C2.keep (zK kz kk)).e.cell 0 rfl,(C2.keep (zK kz kk)).v.cell 0 rfl⟩,(YB.keep kk).cells⟩)
 have s0:=SS.out _ (zab _);have KZ:=zH kz;have H2:=zH h2;have T2:=zH t2;have ST2:=zH st2;unfold edG;clear C2 kz YB h2 t2 st2 ED c0;go_wp2_with fail
 go_region_held3 (fun W=>(W.cell? ⟨be,0,none⟩=some (.func (.func 40) #[] #[])∧W.cell? ⟨bv,0,none⟩=some (.int .u32 (v:Int)))∧(W.cell? ⟨w2.heap.size,0,none⟩=some (.int .u32 (x.t:Int))∧W.cell? ⟨w2.heap.size,1,none⟩=some (.int .u32 (x.h:Int))∧W.cell? ⟨w2.heap.size,2,none⟩=some (.int .u64 (x.x:Int))∧W.cell? ⟨w2.heap.size,3,none⟩=some (.int .u32 (x.m:Int)))) (first|assumption|exact SS.out _ (zD _)) (first
  | (go_at_call 40;refine (EN.out _).mono ?_;rintro ee w4 ⟨rfl,k4⟩;have s4:=SS.out _ (zK (zD _) k4);have K4:=zH (zK (zK KZ.out (zD _)) k4)))
 clear s4 s0;rcases WAYS.out with ⟨g,rfl⟩|⟨g,rfl⟩
 all_goals
  go_wp2;go_returns;exact ⟨by (simp [g];try omega),q,S2,H2.out.keep K4.out,T2.out.trans (Turns.of_keeps K4.out),ST2.out⟩
theorem zqe (PK:PageOk) (h:ExS K w0 B N Q A C p V ns S w) (hZ:K.Z w0) (hS:Sizes w0) (hN:N≤4096) (hQ:4*(A*C)+4≤Q) {l:List Ed} (s:IsS V nm 20 (l.map edB)) (hok:∀ e∈l,EdOk e) (hr:RiseB true l) (c:CapAt w S B nm 40 v sb bf be bv) (hl:l.length≤1000000) :
 Calls Tryz.prog 73 #[.int .i64 (l.length:Int), .func (.func 74) #[] #[.pointer (some ⟨bf,0,none⟩), .pointer (some ⟨be,0,none⟩), .pointer (some ⟨bv,0,none⟩)]] w fun e w'=>∃ b:Nat,e = .returned (.tuple #[.int .i64 (b:Int), .int .i64 0])∧LowE true v l b b∧Stays K w0 B N Q A C p V ns S w w':=by
 have H:=zH h;have HZ:=zH hZ;have HS:=zH hS;have HN:=zH hN;have HQ:=zH hQ;have SS:=zH s;have OK:=zH hok;have RI:=zH hr;have CC:=zH c;have HL:=zH hl;clear h hZ hS hN hQ s hok hr c hl;go_enter Tryz.func73,Tryz.ntmps73;go_wp2;go_loopw [6,7] (fun i6 i7 wr=>∃ (b e:Nat) (q:Pst) (S':Nat→Prop),i6 = .int .i64 (b:Int)∧i7 = .int .i64 (e:Int)∧LowE true v l b e∧ExS K w0 B N Q A C q V ns S' wr∧CapAt wr S' B nm 40 v sb bf be bv∧Turns w wr S S'∧Still p q none) (fun i6 i7 _=>(intOf i7-intOf i6).toNat)
 case atStart=>exact ⟨0,l.length,p,S,rfl,rfl,LowE.start true v l,H.out,CC.out,Turns.refl _ _,Still.refl _ _⟩
 case round=>
  obtain ⟨b,e,q,S',rfl,rfl,hlow,hx,hc,ht,hst⟩:=hrel;have LOW:=zH hlow;have X:=zH hx;have CR:=zH hc;have TR:=zH ht;have STR:=zH hst;clear hlow hx hc ht hst;by_cases hlt:b<e
  ·obtain ⟨d,hd⟩:∃ d,d=(e-b)/2:=(⟨_,rfl⟩);have htop:=LOW.out.top;have hlen:=HL.out;have hdi:((e:Int)-(b:Int)).tdiv 2=(d:Int):=by rw [Int.tdiv_eq_ediv_of_nonneg (by omega)];omega
   obtain ⟨x,hx⟩:∃ x,l[b+d]? = some x:=(⟨_,zG9 (by omega)⟩);have TS:=zH (zrx PK X.out HZ.out HS.out HN.out HQ.out SS.out CR.out hx (OK.out x (List.mem_of_getElem? hx)) (by omega));rw [show ((b+d:Nat):Int)=(b:Int)+(d:Int) by omega] at TS;have HX:=zH hx;have HM:=zH (show b≤b+d∧b+d<e by omega);have b1:(b:Int)<(e:Int):=by omega
   have b2:(e:Int)≤1000000:=(by omega);have b3:(0:Int)≤(b:Int):=by omega
   have b4:(b:Int)+(d:Int)<(e:Int):=(by omega);have b5:(0:Int)≤(d:Int):=by omega
   have hlt':b<e:=hlt;clear hlt hx hd htop hlen;by_cases hv:v≤endE true x
   ·rw [decide_eq_true hv] at TS;have LN:=zH (LOW.out.down RI.out HM.out HX.out hv);clear hv;go_wp2_with fail
    refine TS.out.mono ?_;rintro e3 w3 ⟨rfl,q3,S3,h3,t3,st3⟩;have C3:=zH (CR.out.turn t3);have H3:=zH h3;have T3:=zH (TR.out.trans t3);have ST3:=zH (STR.out.trans st3);clear h3 t3 st3 TS;go_wp2;go_roundw
    case rel=>exact ⟨b,b+d,q3,S3,rfl,by go_num,LN.out,H3.out,C3.out,T3.out,ST3.out⟩
    case measure=>have:=HM.out;simp [intOf];omega
   ·rw [decide_eq_false hv] at TS;have LN:=zH (LOW.out.up RI.out HM.out HX.out hv);clear hv;go_wp2_with fail
    refine TS.out.mono ?_;rintro e3 w3 ⟨rfl,q3,S3,h3,t3,st3⟩;have C3:=zH (CR.out.turn t3);have H3:=zH h3;have T3:=zH (TR.out.trans t3);have ST3:=zH (STR.out.trans st3);clear h3 t3 st3 TS;go_wp2;go_roundw
    case rel=>exact ⟨b+d+1,e,q3,S3,by go_num,rfl,LN.out,H3.out,C3.out,T3.out,ST3.out⟩
    case measure=>have:=HM.out;simp [intOf];omega
  ·obtain rfl:b=e:=by have:=LOW.out.le;omega
   have F:=zH (show Stays K w0 B N Q A C p V ns S w wr from ⟨q,S',X.out,TR.out,STR.out⟩);clear hlt;go_wp2;go_returns;exact ⟨b,rfl,LOW.out,F.out⟩
theorem zmk (PK:PageOk) (h:ExS K w0 B N Q A C p V ns S w) (hZ:K.Z w0) (hS:Sizes w0) (hN:N≤4096) (hQ:4*(A*C)+4≤Q) {l:List Ed} (s:IsS V nm 20 (l.map edB)) (hok:∀ e∈l,EdOk e) (hr:RiseB true l) (b:StrAt w sb B.pb nm 20) (hb:¬ S sb) (hv:v<4294967296) (hl:l.length≤1000000) :
 Calls Tryz.prog 38 #[.pointer (some ⟨sb,0,none⟩), .int .u32 (v:Int), .func (.func 40) #[] #[]] w (zb3 K w0 B N Q A C p V ns S w (outE true v l)):=by
 obtain ⟨i0,hi,hz0,hz1,hz2⟩:=info_parts zdV;have k1:=zA w (.cells #[.pointer (some ⟨sb,0,none⟩)] 96);have k2:=zA (w.alloc (.cells #[.pointer (some ⟨sb,0,none⟩)] 96)) (.cells #[.int .u32 (v:Int)] 26);have k3:=zA ((w.alloc (.cells #[.pointer (some ⟨sb,0,none⟩)] 96)).alloc (.cells #[.int .u32 (v:Int)] 26)) (.cells #[.func (.func 40) #[] #[]] 101);have b1:=Box.new w 96 #[.pointer (some ⟨sb,0,none⟩)];have b2:=Box.new (w.alloc (.cells #[.pointer (some ⟨sb,0,none⟩)] 96)) 26 #[.int .u32 (v:Int)];have b3:=Box.new ((w.alloc (.cells #[.pointer (some ⟨sb,0,none⟩)] 96)).alloc (.cells #[.int .u32 (v:Int)] 26)) 101 #[.func (.func 40) #[] #[]];have kz:=zK k1 (zK k2 k3);have CC:CapAt (((w.alloc (.cells #[.pointer (some ⟨sb,0,none⟩)] 96)).alloc (.cells #[.int .u32 (v:Int)] 26)).alloc (.cells #[.func (.func 40) #[] #[]] 101)) S B nm 40 v sb w.heap.size (w.heap.size+1+1) (w.heap.size+1):=
  ⟨(b1.keep k2).keep k3,by simpa using b3,by simpa using b2.keep k3,b.keep kz,h.lt (Nat.le_refl _),h.lt (by omega),h.lt (by omega),hb⟩
 have LE:=zH (y_len PK (h.keep kz) hZ hS hN hQ (b.keep kz) hb s);rw [List.length_map] at LE;have c0:=CC.f.cell 0 rfl;have CC:=zH CC;have TZ:=zH (Turns.of_keeps (S:=S) kz);have H:=zH h;have HZ:=zH hZ;have HS:=zH hS;have HN:=zH hN;have HQ:=zH hQ;have SS:=zH s;have OK:=zH hok;have RI:=zH hr;have HL:=zH hl;have HV:=zH hv;have hli:(l.length:Int)≤1000000:=by omega
 have BASE:=zH h.base;clear h hZ hS hN hQ s hok hr hl b hb hv k1 k2 k3 b1 b2 b3 kz;go_enter Tryz.func38,Tryz.ntmps38;go_wp2_with fail
 refine LE.out.mono ?_;rintro e w2 ⟨rfl,q2,S2,h2,t2,st2⟩;have C2:=zH (CC.out.turn t2);have HV2:=zH (zqe PK h2 HZ.out HS.out HN.out HQ.out SS.out OK.out RI.out C2.out HL.out);have T2:=zH (TZ.out.trans t2);have ST2:=zH st2;clear h2 t2 st2 c0 LE CC TZ;go_wp2_with fail
 refine HV2.out.mono ?_;rintro e w3 ⟨bg,rfl,low,q3,S3,h3,t3,st3⟩;have LOW:=zH low;have hbg:(bg:Int)≤(l.length:Int):=by have:=low.top;omega
 have C3:=zH (C2.out.turn t3);have H3:=zH h3;have T3:=zH (T2.out.trans t3);have ST3:=zH (ST2.out.trans st3);clear low h3 t3 st3 T2 ST2 C2 HV2;go_wp2;go_loopw [10,11] (fun i u wr=>∃ (j:Nat) (q:Pst) (S':Nat→Prop),bg≤j∧j≤l.length∧i = .int .i64 (j:Int)∧Own wr w.heap.size 64 4 u (outE true v (l.take j)).length (edsC (outE true v (l.take j)))∧(∀ g,u.ownBlock=some g→¬ S' g)∧ExS K w0 B N Q A C q V ns S' wr∧CapAt wr S' B nm 40 v sb w.heap.size (w.heap.size+1+1) (w.heap.size+1)∧Turns w wr S S'∧Still p q none) (fun i _ _=>l.length-(intOf i).toNat)
 case atStart=>exact ⟨bg,q3,S3,Nat.le_refl _,LOW.out.top,rfl,by rw [LOW.out.begin];exact Own.nil _ _ _ _,fun g hg=>by simp [Value.ownBlock] at hg,H3.out,C3.out,T3.out,ST3.out⟩
 case round=>
  obtain ⟨j,q4,S4,hbj,hj,rfl,ho,hf,hx,hc,ht,hst⟩:=hrel;have O:=zH ho;have FA:=zH hf;have X:=zH hx;have CR:=zH hc;have TR:=zH ht;have STR:=zH hst;have BJ:=zH hbj;obtain ⟨Av,cv,rfl,hcv,-,-,-⟩:=ho.form;clear ho hf hx hc ht hst hbj;by_cases hlt:j<l.length
  ·obtain ⟨x,hx⟩:∃ x,l[j]? = some x:=(⟨_,zG9 hlt⟩);have HX:=zH hx;have ED:=zH (zct PK X.out HZ.out HS.out HN.out HQ.out CR.out.s CR.out.ns SS.out hx (OK.out x (List.mem_of_getElem? hx)) (by have:=HL.out;omega));have EN:=zH (fun W=>zjR x W);have c0:=CR.out.f.cell 0 rfl;have hji:(j:Int)<(l.length:Int):=by omega
   have HJ:=zH hlt;unfold edG at EN;have hEV:∃ ev,endE true x=ev:=(⟨_,rfl⟩);obtain ⟨ev,hEV⟩:=hEV;rw [hEV] at EN;have EV:=zH hEV;clear hx hlt hj hEV;go_wp2_with fail
   refine ED.out.mono ?_;rintro e w5 ⟨rfl,q5,S5,h5,t5,st5⟩;have C5:=CR.out.turn t5;have kz:=zA w5 (.cells #[.int .u32 (x.t:Int), .int .u32 (x.h:Int), .int .u64 (x.x:Int), .int .u32 (x.m:Int)] 64);have YB:=EdBox.new w5 64 x;have SD:=zH (fun (W:World) (kk:Keeps (w5.alloc (.cells #[.int .u32 (x.t:Int), .int .u32 (x.h:Int), .int .u64 (x.x:Int), .int .u32 (x.m:Int)] 64)) W)=>show (W.cell? ⟨w.heap.size+1+1,0,none⟩=some (.func (.func 40) #[] #[])∧W.cell? ⟨w.heap.size+1,0,none⟩=some (.int .u32 (v:Int)))∧(W.cell? ⟨w5.heap.size,0,none⟩=some (.int .u32 (x.t:Int))∧W.cell? ⟨w5.heap.size,1,none⟩=some (.int .u32 (x.h:Int))∧W.cell? ⟨w5.heap.size,2,none⟩=some (.int .u64 (x.x:Int))∧W.cell? ⟨w5.heap.size,3,none⟩=some (.int .u32 (x.m:Int))) from
    ⟨⟨(C5.keep (zK kz kk)).e.cell 0 rfl,(C5.keep (zK kz kk)).v.cell 0 rfl⟩,(YB.keep kk).cells⟩)
   have s0:=SD.out _ (zab _);obtain ⟨o5,f5⟩:=zbg O.out FA.out t5;have O5:=zH o5;have F5:=zH f5;have KZ:=zH kz;have H5:=zH h5;have T5:=zH (TR.out.trans t5);have ST5:=zH (STR.out.trans st5);have CV5:=zH C5;unfold edG;clear C5 kz YB h5 t5 st5 ED c0 o5 f5;go_wp2_with fail
   go_region_held3 (fun W=>(W.cell? ⟨w.heap.size+1+1,0,none⟩=some (.func (.func 40) #[] #[])∧W.cell? ⟨w.heap.size+1,0,none⟩=some (.int .u32 (v:Int)))∧(W.cell? ⟨w5.heap.size,0,none⟩=some (.int .u32 (x.t:Int))∧W.cell? ⟨w5.heap.size,1,none⟩=some (.int .u32 (x.h:Int))∧W.cell? ⟨w5.heap.size,2,none⟩=some (.int .u64 (x.x:Int))∧W.cell? ⟨w5.heap.size,3,none⟩=some (.int .u32 (x.m:Int)))) (first|assumption|exact SD.out _ (zD _)) (first
    | (go_at_call 40;refine (EN.out _).mono ?_;rintro ee w6 ⟨rfl,k6⟩;have s6:=SD.out _ (zK (zD _) k6);have K6:=zH (zK (zK KZ.out (zD _)) k6)))
   clear s0;obtain ⟨-,z0,z1,z2,z3⟩:=s6;by_cases hev:ev=v
   ·have g1:((ev:Int) != (v:Int))=false:=by rw [bne_eq_false_iff_eq];omega
    have g2:decide (ev=v)=true:=decide_eq_true hev;have ON:=zH (zdH HX.out (EV.out.trans hev));have O6:=zH (O5.out.keep K6.out);have ML:=zH (show (outE true v (l.take j)).length≤1000000 by have:=zcM true v (l.take j);have:=List.length_take_le j l;have:=HL.out;omega);have AT:=zH (At.new w6 (edC x) 64 _ (Nat.lt_succ_self _));have X6:=zH (H5.out.keep K6.out);have T6:=zH (T5.out.trans (Turns.of_keeps K6.out));have C6:=zH (CV5.out.keep K6.out);have WSZ:=zH (show w.heap.size≤w6.heap.size from Nat.le_trans T5.out.only.size K6.out.size);have mli:((outE true v (l.take j)).length:Int)≤1000000:=by have:=ML.out;omega
    have ML':=ML.out;generalize hML:(outE true v (l.take j)).length=ml at *;clear hev SD g2;go_wp2_with (at_builtin;refine zaj _ rfl _ _ 22 rfl w.heap.size 64 i0 (.agg #[.int .u32 0, .int .u32 0, .int .u64 0, .int .u32 0]) 4 24 Tryz.underlying22 hi hz0 hz1 hz2 rfl (by decide) _ ml (edsC (outE true v (l.take j))) rfl (O6.out.keep (zA _ _)) _ _ 1 1 (edC x) rfl rfl AT.out (by intro u hu;exact zce [x] u (by simpa [edsC] using hu)) (by unfold maxLen;omega) (by omega) (Nat.le_trans WSZ.out (zA _ _).size) ?_)
    intro v8 w8 o8 g8 b8;have ka:=zA w6 (.cells #[.int .u32 (x.t:Int), .int .u32 (x.h:Int), .int .u64 (x.x:Int), .int .u32 (x.m:Int)] 64);obtain ⟨x8,t8⟩:=zgT (X6.out.keep ka) (T6.out.trans (Turns.of_keeps ka)) (O6.out.keep ka) (Nat.le_refl _) BASE.out F5.out g8;have X8:=zH x8;have T8:=zH t8;have C8:=zH ((C6.out.keep ka).grown (O6.out.keep ka) g8);have F8:=zH (zil (X6.out.keep ka) F5.out (by simp) b8);have O8:=zH (show Own w8 w.heap.size 64 4 v8 (outE true v (l.take (j+1))).length (edsC (outE true v (l.take (j+1)))) by
     rw [ON.out,zfc,List.length_append,hML];exact o8)
    clear o8 g8 b8 ka x8 t8 z0 z1 z2 z3;go_wp2_with fail
    refine ⟨⟨j+1,q5,S5,by have:=BJ.out;omega,by have:=HJ.out;omega,by go_num,O8.out,F8.out,X8.out,C8.out,T8.out,ST5.out⟩,?_⟩;have:=HJ.out
    (simp [intOf];try omega)
   ·have g1:((ev:Int) != (v:Int))=true:=by rw [bne_iff_ne];omega
    have g2:decide (ev=v)=false:=decide_eq_false hev;have OS:=zH (LOW.out.stop RI.out BJ.out HX.out (fun e=>hev (EV.out.symm.trans e)));have F:=zH (show zb3 K w0 B N Q A C p V ns S w (outE true v l) (.returned (.tuple #[.slice Av (outE true v (l.take j)).length cv, .int .i64 0])) w6 from
     ⟨_,q5,S5,rfl,by rw [OS.out];exact O5.out.keep K6.out,F5.out,H5.out.keep K6.out,T5.out.trans (Turns.of_keeps K6.out),ST5.out⟩)
    clear hev SD z0 z1 z2 z3;go_wp2;go_returns;exact F.out
  ·obtain rfl:j=l.length:=(by omega);have OT:=zH (show l.take l.length=l from List.take_length);have F:=zH (show zb3 K w0 B N Q A C p V ns S w (outE true v l) (.returned (.tuple #[.slice Av (outE true v (l.take l.length)).length cv, .int .i64 0])) wr from
    ⟨_,q4,S4,rfl,by have:=O.out;rw [OT.out] at this ⊢;exact this,FA.out,X.out,TR.out,STR.out⟩)
   clear hlt hj;go_wp2;go_returns;exact F.out
end
section
variable {K:DiskOk} {w0 w w' w1 w2 wA:World} {B:PB} {S S' S1 S2 SA:Nat→Prop} {p q:Pst} {N Q A C n gb bv bt bh:Nat} {V:Vw} {ns:List (List UInt8)} {nE nR nV:List UInt8}
structure GenV (V:Vw) (nE nR nV:List UInt8) (a b:List Ed) (vs:List Vt):Prop where
 e:IsS V nE 20 (a.map edB)
 r:IsS V nR 20 (b.map edB)
 v:IsS V nV 12 (vs.map vtB)
 ra:RiseB false a
 rb:RiseB true b
 oa:∀ e∈a,EdOk e
 ob:∀ e∈b,EdOk e
 ov:∀ x∈vs,VtOk x
 la:a.length≤1000000
 lb:b.length≤1000000
 lv:vs.length≤1000000
variable {a b:List Ed} {vs:List Vt}
theorem zio (PK:PageOk) (h:ExS K w0 B N Q A C p V ns S w) (hZ:K.Z w0) (hS:Sizes w0) (hN:N≤4096) (hQ:4*(A*C)+4≤Q) (g:GrAt w S B nE nR nV n gb bv bt bh) (G:GenV V nE nR nV a b vs) :
 Calls Tryz.prog 21 #[.pointer (some ⟨gb,0,none⟩)] w fun e w'=>e = .returned (.tuple #[.int .i64 (a.length:Int), .int .i64 0])∧Stays K w0 B N Q A C p V ns S w w':=by
 have LE:=zH (y_len PK h hZ hS hN hQ g.t g.nt G.e);rw [List.length_map] at LE;obtain ⟨c0,c1,c2,c3⟩:=g.cells;clear h hZ hS hN hQ g G;go_enter Tryz.func21,Tryz.ntmps21;go_wp2_with fail
 refine LE.out.mono ?_;rintro e w2 ⟨rfl,h2⟩;have H2:=zH h2;clear h2 c0 c1 c2 c3;go_wp2;go_returns;exact ⟨rfl,H2.out⟩
theorem zjS (PK:PageOk) (h:ExS K w0 B N Q A C p V ns S w) (hZ:K.Z w0) (hS:Sizes w0) (hN:N≤4096) (hQ:4*(A*C)+4≤Q) (g:GrAt w S B nE nR nV n gb bv bt bh) (G:GenV V nE nR nV a b vs) {i:Nat} {x:Ed} (hx:a[i]? = some x) :
 Calls Tryz.prog 22 #[.pointer (some ⟨gb,0,none⟩), .int .i64 (i:Int)] w fun e w'=>e = .returned (.tuple #[edG x, .int .i64 0])∧Stays K w0 B N Q A C p V ns S w w':=by
 have B0:=EdBox.new w 64 zE;have kz:=zA w (.cells #[.int .u32 0, .int .u32 0, .int .u64 0, .int .u32 0] 64);have B1:=zH (show EdBox (w.alloc (.cells #[.int .u32 0, .int .u32 0, .int .u64 0, .int .u32 0] 64)) w.heap.size 64 zE from B0);have hsz:w.heap.size<(w.alloc (.cells #[.int .u32 0, .int .u32 0, .int .u64 0, .int .u32 0] 64)).heap.size:=by simp
 obtain ⟨c0,c1,c2,c3⟩:=(g.keep kz).cells;have H:=zH h;have KZ:=zH kz;have HSZ:=zH hsz;have ED:=zH (zct PK (h.keep kz) hZ hS hN hQ (g.keep kz).t g.nt G.e hx (G.oa x (List.mem_of_getElem? hx)) (by have:=(zI9.1 hx).1;have:=G.la;omega));clear hx;clear B0 kz h hsz g G;unfold edG at ED;go_enter Tryz.func22,Tryz.ntmps22;go_wp2_with fail
 refine ED.out.mono ?_;rintro e w2 ⟨rfl,q,S2,h2,t2,st2⟩;have hnb:¬ S w.heap.size:=H.out.lt (Nat.le_refl _);have BE:EdBox w2 w.heap.size 64 zE:=⟨B1.out.box.turned t2 hnb⟩
 have NB:=t2.notIn HSZ.out hnb;have ST:=zH st2;obtain ⟨d0,d1,d2,d3⟩:=BE.cells;obtain ⟨g0,g1,g2,g3⟩:=BE.free;have BE6:=BE.put x;have H7:=zH (h2.putE (b:=w.heap.size) H.out.base NB x);have T7:=zH (((Turns.of_keeps KZ.out).trans t2).putE_ (b:=w.heap.size) (Nat.le_refl _) x);clear hnb h2 t2 st2 ED B1 BE NB c0 c1 c2 c3;go_wp2_with fail
 change bodyPost _ _ _ _ _ (putEd w2 w.heap.size x)
 generalize putEd w2 w.heap.size x=W7 at *;obtain ⟨d0,d1,d2,d3⟩:=BE6.cells;exact bodyPost_ret (v:=.tuple #[edG x, .int .i64 0]) (by simp [results,Tryz.results22,go_sem,d0,d1,d2,d3,edG]) rfl ⟨rfl,q,S2,H7.out,T7.out,ST.out⟩
theorem zfx (PK:PageOk) (h:ExS K w0 B N Q A C p V ns S w) (hZ:K.Z w0) (hS:Sizes w0) (hN:N≤4096) (hQ:4*(A*C)+4≤Q) (g:GrAt w S B nE nR nV n gb bv bt bh) (G:GenV V nE nR nV a b vs) (i:Int) (hi:IsI i) (hr:i<0∨a.length≤i.toNat) :
 Calls Tryz.prog 22 #[.pointer (some ⟨gb,0,none⟩), .int .i64 i] w fun e w'=>e = .returned (.tuple #[edG zE, .int .i64 ((if i<0 then 1 else 3:Nat):Int)])∧Stays K w0 B N Q A C p V ns S w w':=by
 obtain ⟨x,hx⟩:∃ x,x=zE:=⟨_,rfl⟩
 have B0:=EdBox.new w 64 zE;have kz:=zA w (.cells #[.int .u32 0, .int .u32 0, .int .u64 0, .int .u32 0] 64);have B1:=zH (show EdBox (w.alloc (.cells #[.int .u32 0, .int .u32 0, .int .u64 0, .int .u32 0] 64)) w.heap.size 64 zE from B0);have hsz:w.heap.size<(w.alloc (.cells #[.int .u32 0, .int .u32 0, .int .u64 0, .int .u32 0] 64)).heap.size:=by simp
 obtain ⟨c0,c1,c2,c3⟩:=(g.keep kz).cells;have H:=zH h;have KZ:=zH kz;have HSZ:=zH hsz;have ED:=zH (zn2 PK (h.keep kz) hZ hS hN hQ (g.keep kz).t g.nt G.e i hi hr);rw [←hx] at ED ⊢;obtain ⟨E,hE⟩:∃ E:Int,((if i<0 then 1 else 3:Nat):Int)=E:=⟨_,rfl⟩
 rw [hE] at ED ⊢;clear hE hi hr hx;clear B0 kz h hsz g G;unfold edG at ED;go_enter Tryz.func22,Tryz.ntmps22;go_wp2_with fail
 refine ED.out.mono ?_;rintro e w2 ⟨rfl,q,S2,h2,t2,st2⟩;have hnb:¬ S w.heap.size:=H.out.lt (Nat.le_refl _);have BE:EdBox w2 w.heap.size 64 zE:=⟨B1.out.box.turned t2 hnb⟩
 have NB:=t2.notIn HSZ.out hnb;have ST:=zH st2;obtain ⟨d0,d1,d2,d3⟩:=BE.cells;obtain ⟨g0,g1,g2,g3⟩:=BE.free;have BE6:=BE.put x;have H7:=zH (h2.putE (b:=w.heap.size) H.out.base NB x);have T7:=zH (((Turns.of_keeps KZ.out).trans t2).putE_ (b:=w.heap.size) (Nat.le_refl _) x);clear hnb h2 t2 st2 ED B1 BE NB c0 c1 c2 c3;go_wp2_with fail
 change bodyPost _ _ _ _ _ (putEd w2 w.heap.size x)
 generalize putEd w2 w.heap.size x=W7 at *;obtain ⟨d0,d1,d2,d3⟩:=BE6.cells;exact bodyPost_ret (v:=.tuple #[edG x, .int .i64 E]) (by simp [results,Tryz.results22,go_sem,d0,d1,d2,d3,edG]) rfl ⟨rfl,q,S2,H7.out,T7.out,ST.out⟩
theorem zlc (PK:PageOk) (h:ExS K w0 B N Q A C p V ns S w) (hZ:K.Z w0) (hS:Sizes w0) (hN:N≤4096) (hQ:4*(A*C)+4≤Q) (g:GrAt w S B nE nR nV n gb bv bt bh) (G:GenV V nE nR nV a b vs) (v:Nat) (hv:v<4294967296) (hvn:v<n) (hn:n≤1000000) :
 Calls Tryz.prog 15 #[.pointer (some ⟨gb,0,none⟩), .int .u32 (v:Int)] w (zb3 K w0 B N Q A C p V ns S w (outE false v a)):=by
 have CK:=zH (zcj g v hv hn);rw [if_pos hvn] at CK;have EA:=zH (zkF PK h hZ hS hN hQ G.e G.oa G.ra g.t g.nt hv G.la);obtain ⟨c0,c1,c2,c3⟩:=g.cells;clear h hZ hS hN hQ g G hvn hn;go_enter Tryz.func15,Tryz.ntmps15;go_wp2_with fail
 refine CK.out.mono ?_;rintro e w2 ⟨rfl,rfl⟩;go_wp2_with fail
 refine EA.out.mono ?_;rintro e w2 ⟨u,q,S2,rfl,o2,f2,h2,t2,st2⟩;have R:=zH (show zb3 K w0 B N Q A C p V ns S w (outE false v a) (.returned (.tuple #[u, .int .i64 0])) w2 from ⟨u,q,S2,rfl,o2,f2,h2,t2,st2⟩);clear o2 f2 h2 t2 st2 c0 c1 c2 c3 CK EA;go_wp2;go_returns;exact R.out
theorem zst (g:GrAt w S B nE nR nV n gb bv bt bh) (v:Nat) (hv:v<4294967296) (hvn:¬ v<n) (hn:n≤1000000) :
 Calls Tryz.prog 15 #[.pointer (some ⟨gb,0,none⟩), .int .u32 (v:Int)] w fun e w'=>e = .returned (.tuple #[.slice none 0 0, .int .i64 13])∧w=w':=by
 have CK:=zH (zcj g v hv hn);rw [if_neg hvn] at CK;clear g hvn hn;go_enter Tryz.func15,Tryz.ntmps15;go_wp2_with fail
 refine CK.out.mono ?_;rintro e w2 ⟨rfl,rfl⟩;go_wp2;go_returns;exact ⟨rfl,rfl⟩
theorem zsu (PK:PageOk) (h:ExS K w0 B N Q A C p V ns S w) (hZ:K.Z w0) (hS:Sizes w0) (hN:N≤4096) (hQ:4*(A*C)+4≤Q) (g:GrAt w S B nE nR nV n gb bv bt bh) (G:GenV V nE nR nV a b vs) (v:Nat) (hv:v<4294967296) (hvn:v<n) (hn:n≤1000000) :
 Calls Tryz.prog 16 #[.pointer (some ⟨gb,0,none⟩), .int .u32 (v:Int)] w (zb3 K w0 B N Q A C p V ns S w (outE true v b)):=by
 have CK:=zH (zcj g v hv hn);rw [if_pos hvn] at CK;have EA:=zH (zmk PK h hZ hS hN hQ G.r G.ob G.rb g.h g.nh hv G.lb);obtain ⟨c0,c1,c2,c3⟩:=g.cells;clear h hZ hS hN hQ g G hvn hn;go_enter Tryz.func16,Tryz.ntmps16;go_wp2_with fail
 refine CK.out.mono ?_;rintro e w2 ⟨rfl,rfl⟩;go_wp2_with fail
 refine EA.out.mono ?_;rintro e w2 ⟨u,q,S2,rfl,o2,f2,h2,t2,st2⟩;have R:=zH (show zb3 K w0 B N Q A C p V ns S w (outE true v b) (.returned (.tuple #[u, .int .i64 0])) w2 from ⟨u,q,S2,rfl,o2,f2,h2,t2,st2⟩);clear o2 f2 h2 t2 st2 c0 c1 c2 c3 CK EA;go_wp2;go_returns;exact R.out
theorem in_no (g:GrAt w S B nE nR nV n gb bv bt bh) (v:Nat) (hv:v<4294967296) (hvn:¬ v<n) (hn:n≤1000000) :
 Calls Tryz.prog 16 #[.pointer (some ⟨gb,0,none⟩), .int .u32 (v:Int)] w fun e w'=>e = .returned (.tuple #[.slice none 0 0, .int .i64 13])∧w=w':=by
 have CK:=zH (zcj g v hv hn);rw [if_neg hvn] at CK;clear g hvn hn;go_enter Tryz.func16,Tryz.ntmps16;go_wp2_with fail
 refine CK.out.mono ?_;rintro e w2 ⟨rfl,rfl⟩;go_wp2;go_returns;exact ⟨rfl,rfl⟩
def vtG (x:Vt):Value:=.agg #[.int .u32 (x.r:Int), .int .u32 (x.l:Int), .int .u32 (x.g:Int)]
def zV:Vt:=⟨0,0,0⟩
def putVt (W:World) (b:Nat) (f:Vt):World:=((W.setCell ⟨b,0,none⟩ (.int .u32 (f.r:Int))).setCell ⟨b,1,none⟩ (.int .u32 (f.l:Int))).setCell ⟨b,2,none⟩ (.int .u32 (f.g:Int))
def VtBox (W:World) (b:Nat) (x:Vt):Prop:=Box W b 55 (vtA x)
theorem VtBox.cells {W:World} {b:Nat} {x:Vt} (h:VtBox W b x):W.cell? ⟨b,0,none⟩=some (.int .u32 (x.r:Int))∧W.cell? ⟨b,1,none⟩=some (.int .u32 (x.l:Int))∧W.cell? ⟨b,2,none⟩=some (.int .u32 (x.g:Int)):=⟨Box.cell h 0 rfl,Box.cell h 1 rfl,Box.cell h 2 rfl⟩
theorem VtBox.free {W:World} {b:Nat} {x:Vt} (h:VtBox W b x):W.frozen? ⟨b,0,none⟩=false∧W.frozen? ⟨b,1,none⟩=false∧W.frozen? ⟨b,2,none⟩=false:=⟨Box.frozen h 0,Box.frozen h 1,Box.frozen h 2⟩
theorem VtBox.put {W:World} {b:Nat} {x:Vt} (h:VtBox W b x) (f:Vt):VtBox (putVt W b f) b f:=by
 have:=((Box.set h 0 (.int .u32 (f.r:Int))).set 1 (.int .u32 (f.l:Int))).set 2 (.int .u32 (f.g:Int));simpa [VtBox,vtA,putVt] using this
theorem VtBox.new (W:World) (x:Vt):VtBox (W.alloc (.cells #[.int .u32 (x.r:Int), .int .u32 (x.l:Int), .int .u32 (x.g:Int)] 55)) W.heap.size x:=Box.new _ _ _
theorem ExS.putV (h:ExS K w0 B N Q A C p V ns S w) {i:Nat} (h1:w0.heap.size≤i) (h2:¬ S i) (x:Vt):ExS K w0 B N Q A C p V ns S (putVt w i x):=
 ((h.put ⟨i,0,none⟩ _ h1 h2).put ⟨i,1,none⟩ _ h1 h2).put ⟨i,2,none⟩ _ h1 h2
theorem Turns.putV_ (t:Turns w w' S S') {i:Nat} (hb:w.heap.size≤i) (x:Vt):Turns w (putVt w' i x) S S':=
 ((t.put10 ⟨i,0,none⟩ _ hb).put10 ⟨i,1,none⟩ _ hb).put10 ⟨i,2,none⟩ _ hb
theorem zqf (PK:PageOk) (h:ExS K w0 B N Q A C p V ns S w) (hZ:K.Z w0) (hS:Sizes w0) (hN:N≤4096) (hQ:4*(A*C)+4≤Q) (g:GrAt w S B nE nR nV n gb bv bt bh) (G:GenV V nE nR nV a b vs) (v:Nat) (hv:v<4294967296) (hn:n=vs.length) {x:Vt} (hx:vs[v]? = some x) :
 Calls Tryz.prog 17 #[.pointer (some ⟨gb,0,none⟩), .int .u32 (v:Int)] w fun e w'=>e = .returned (.tuple #[vtG x, .int .i64 0])∧Stays K w0 B N Q A C p V ns S w w':=by
 have kz:=zA w (.cells #[.int .u32 0, .int .u32 0, .int .u32 0] 55);have B1:=zH (show VtBox (w.alloc (.cells #[.int .u32 0, .int .u32 0, .int .u32 0] 55)) w.heap.size zV from VtBox.new w zV);have hsz:w.heap.size<(w.alloc (.cells #[.int .u32 0, .int .u32 0, .int .u32 0] 55)).heap.size:=by simp
 have hvn:=(zI9.1 hx).1;have CK:=zH (zcj (g.keep kz) v hv (by have:=G.lv;omega));rw [if_pos (by omega)] at CK;have GT:=zH (y_get PK (h.keep kz) hZ hS hN hQ (g.keep kz).v g.nv G.v v ⟨by omega,by omega⟩ (r:=vtB x) (by rw [List.getElem?_map,hx];rfl));obtain ⟨c0,c1,c2,c3⟩:=(g.keep kz).cells;have OKX:=zH (G.ov x (List.mem_of_getElem? hx));have H:=zH h;have KZ:=zH kz;have HSZ:=zH hsz;have hv1:(v:Int)<4294967296:=by omega
 clear kz h hsz g G hn hx hvn hv;go_enter Tryz.func17,Tryz.ntmps17;go_wp2_with fail
 refine CK.out.mono ?_;rintro e w2 ⟨rfl,rfl⟩;go_wp2_with fail
 refine GT.out.mono ?_;rintro e w2 ⟨u,rfl,o2,q,S2,h2,t2,st2⟩;obtain ⟨A2,cc2,rfl,hc2,-,-,-⟩:=o2.form;have hnb:¬ S w.heap.size:=H.out.lt (Nat.le_refl _);have BE:=zH (show VtBox w2 w.heap.size zV from Box.turned B1.out t2 hnb);have NB:=zH (t2.notIn HSZ.out hnb);have T2:=zH ((Turns.of_keeps KZ.out).trans t2);have H2:=zH h2;have ST:=zH st2;have el:(vtB x).length=12:=zcN x;rw [el] at hc2;have RD:=zH (zi0 A2 cc2 (vtB x) _ (Own.at_ o2) el hc2);obtain ⟨n0,n1,n2⟩:=zp8 OKX.out;rw [n0,n1,n2] at RD;rw [el];clear hnb h2 t2 st2 o2 n0 n1 n2 el hc2 GT B1 CK c0 c1 c2 c3;go_wp2_with fail
 refine RD.out.mono ?_;rintro e w5 ⟨rfl,k5⟩;have BE5:VtBox w5 w.heap.size zV:=Box.keep BE.out k5;obtain ⟨d0,d1,d2⟩:=BE5.cells;obtain ⟨g0,g1,g2⟩:=BE5.free;have BE6:=BE5.put x;have H7:=zH ((H2.out.keep k5).putV (i:=w.heap.size) H.out.base NB.out x);have T7:=zH ((T2.out.trans (Turns.of_keeps k5)).putV_ (i:=w.heap.size) (Nat.le_refl _) x);clear k5 BE5;go_wp2_with fail
 change bodyPost _ _ _ _ _ (putVt w5 w.heap.size x)
 generalize putVt w5 w.heap.size x=W7 at *;obtain ⟨d0,d1,d2⟩:=BE6.cells;exact bodyPost_ret (v:=.tuple #[vtG x, .int .i64 0]) (by simp [results,Tryz.results17,go_sem,d0,d1,d2,vtG]) rfl ⟨rfl,q,S2,H7.out,T7.out,ST.out⟩
theorem zry (g:GrAt w S B nE nR nV n gb bv bt bh) (v:Nat) (hv:v<4294967296) (hvn:¬ v<n) (hn:n≤1000000):Calls Tryz.prog 17 #[.pointer (some ⟨gb,0,none⟩), .int .u32 (v:Int)] w fun e w'=>e = .returned (.tuple #[vtG zV, .int .i64 13])∧Keeps w w':=by
 have kz:=zA w (.cells #[.int .u32 0, .int .u32 0, .int .u32 0] 55);have B1:VtBox (w.alloc (.cells #[.int .u32 0, .int .u32 0, .int .u32 0] 55)) w.heap.size zV:=VtBox.new w zV;have CK:=zH (zcj (g.keep kz) v hv hn);rw [if_neg hvn] at CK;clear g hvn hn;obtain ⟨d0,d1,d2⟩:=B1.cells;obtain ⟨g0,g1,g2⟩:=B1.free;have K7:=zH kz;clear B1 kz;go_enter Tryz.func17,Tryz.ntmps17;go_wp2_with fail
 refine CK.out.mono ?_;rintro e w2 ⟨rfl,rfl⟩;go_wp2_with fail
 exact bodyPost_ret (v:=.tuple #[vtG zV, .int .i64 13]) (by simp [results,Tryz.results17,go_sem,d0,d1,d2,vtG]) rfl ⟨rfl,K7.out⟩
end
end Go.Proofs.YtjpldnjldindkaaGreatDoor
