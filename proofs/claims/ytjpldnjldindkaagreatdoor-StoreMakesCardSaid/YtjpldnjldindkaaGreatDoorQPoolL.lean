/- Package pool: save. -/
import Derived.Test.YtjpldnjldindkaaGreatDoorQPoolH
set_option linter.all false
set_option maxHeartbeats 0
set_option maxRecDepth 100000
namespace Go.Proofs.YtjpldnjldindkaaGreatDoor
open Go.RowKit
theorem zpp {l:List Nat} (h:l.Pairwise (· < ·)) {k:Nat} (hk:k∈l) (n:Nat):saved l n k=(l.drop (below (l.take (below l k)) n)).take (below l k+1-below (l.take (below l k)) n):=by
 have h1:=(zcE h).1 hk;obtain ⟨hi,he⟩:=zI9.1 h1;have hb:below (l.take (below l k)) n≤below l k:=by
  have:=zdr (l.take (below l k)) n;rw [List.length_take] at this;omega
 unfold saved;generalize below (l.take (below l k)) n=b at *;generalize below l k=e at *;apply List.ext_getElem?;intro i;rw [List.getElem?_take,List.getElem?_drop];have hl:((l.take e).drop b).length=e-b:=by rw [List.length_drop,List.length_take];omega
 rcases Nat.lt_trichotomy i (e-b) with h2|h2|h2
 ·rw [List.getElem?_append_left (by omega),List.getElem?_drop,List.getElem?_take,if_pos (by omega),if_pos (by omega)]
 ·rw [List.getElem?_append_right (by omega),hl,if_pos (by omega),show i-(e-b)=0 by omega,show b+i=e by omega,zG9 hi,he];rfl
 ·rw [List.getElem?_append_right (by omega),hl,if_neg (by omega)];rw [List.getElem?_eq_none];simp;omega
section
variable {K:DiskOk} {w0 w w':World} {B:PB} {X X':PX} {Fd Fp Fd' Fp':Nat→Prop} {sl sl':List (Option Fx)} {p p':Pst}
theorem PHave.frames (h:PHave K w0 w B Fd Fp X sl p) (nm:List UInt8):∀ ks:List Nat,(∀ k∈ks,k∈zaa p.dl nm)→ks.Pairwise (· < ·)→
 ∃ fs:List Fx,WbIn sl p fs∧fs.length=ks.length∧(fs.map fun x=>Value.pointer (some ⟨x.blk,0,none⟩))=zan X nm ks∧fs.map Fx.f=ks.filterMap (frmOf p.fr nm)∧∀ x∈fs,x.f.name=nm∧x.f.k∈ks:=by
 intro ks;induction ks with
 | nil=>exact fun _ _=>⟨[],⟨by simp,by simp,by simp⟩,rfl,rfl,rfl,by simp⟩
 | cons k ks ih=>
  intro hk hp;obtain ⟨hp1,hp2⟩:=List.pairwise_cons.1 hp;obtain ⟨fs,h1,h2,h3,h4,h5⟩:=ih (fun k' hk'=>hk k' (List.mem_cons_of_mem _ hk')) hp2;obtain ⟨i,x,hx,e1,e2,e3⟩:=h.I.dfr (hk k List.mem_cons_self);have hf:frmOf p.fr nm k=some x.f:=by
   rw [←e1,←e2];exact zo3 h.ok.one' (i:=i) (by rw [h.fr];exact zaH hx)
  refine ⟨x::fs,⟨fun y hy=>?_,fun y hy=>?_,List.pairwise_cons.2 ⟨fun y hy e=>?_,h1.once⟩⟩,by simp [h2],?_,?_,fun y hy=>?_⟩
  ·rcases List.mem_cons.1 hy with rfl|hy
   ·exact ⟨i,hx⟩
   ·exact h1.inS y hy
  ·rcases List.mem_cons.1 hy with rfl|hy
   ·rw [e1,e2];exact hk k List.mem_cons_self
   ·exact h1.dirty y hy
  ·have:=hp1 _ (h5 y hy).2;have:=e.2;omega
  ·rw [List.map_cons,h3];unfold zan;rw [List.map_cons,e3];rfl
  ·rw [List.map_cons,h4,List.filterMap_cons,hf]
  ·rcases List.mem_cons.1 hy with rfl|hy
   ·exact ⟨e1,by rw [e2];exact List.mem_cons_self⟩
   ·exact ⟨(h5 y hy).1,List.mem_cons_of_mem _ (h5 y hy).2⟩
theorem PIn.searchTake {dl:List (List UInt8×List Nat)} {t:PT} (h:PIn w B X Fp sl dl t) (nm:List UInt8) (k m:Nat) {A:Option Addr} {n c:Nat} (hv:PRow w (.slice A n c) (zan X nm (zaa dl nm))) (hm:m≤(zaa dl nm).length) (V:World) (hV:Keeps w V) :
 Calls Tryz.prog 193 #[.slice A m c, .int .i64 (k:Int)] V fun e w'=>e = .returned (.tuple #[.int .i64 (below ((zaa dl nm).take m) k:Int), .bool (decide (k∈(zaa dl nm).take m))])∧V=w':=by
 have hO:=Own.of_row hv;have hll:(zan X nm (zaa dl nm)).length=(zaa dl nm).length:=List.length_map _;rw [hll] at hO;obtain ⟨A',c',hv',-⟩:=hO.form;injection hv' with a1 a2 a3;subst a1;subst a3;rw [a2] at hO;have e1:(((zaa dl nm).take m).map fun k=>(X.bk nm k,k)).map (·.2)=(zaa dl nm).take m:=by rw [List.map_map];exact List.map_id _
 have e2:(((zaa dl nm).take m).map fun k=>(X.bk nm k,k)).map (fun x=>Value.pointer (some ⟨x.1,0,none⟩))=(zan X nm (zaa dl nm)).take m:=by rw [List.map_map];unfold zan;rw [List.map_take];rfl
 have:=zgE A m c (((zaa dl nm).take m).map fun k=>(X.bk nm k,k)) k V (by rw [e2];exact (hO.keep hV).at_.take m) (by rw [List.length_map,List.length_take];omega) (by have:=h.dlen nm;have:=h.most;omega) (fun x hx=>by
  obtain ⟨k',hk',rfl⟩:=List.mem_map.1 hx;obtain ⟨i,y,hy,h1,h2,h3⟩:=h.dfr (List.mem_of_mem_take hk');have:V.cell? ⟨y.blk,1,none⟩=some (.int .i64 (y.f.k:Int)):=((h.fr i y hy).box.keep hV).cell 1 rfl;rw [h2] at this;simp only;rw [h3];exact this) (by rw [e1];exact (h.dlok.rise_of nm).sublist (List.take_sublist _ _))
 rwa [e1] at this
theorem zpq (PK:PageOk) (h:PHave K w0 w B Fd Fp X sl p) (hZ:K.Z w0) (hS:Sizes w0) {i:Nat} {x:Fx} (hx:sl[i]? = some (some x)) {M:Nat} (hb:Bnd M p.fr) (hM:M≤1000000000000) {p':Pst} {E:Nat} (hs:saveS p x.f=(p',E)) :
 Calls Tryz.prog 213 #[.pointer (some ⟨B.pb,0,none⟩), .pointer (some ⟨x.blk,0,none⟩)] w (Got K w0 w B (Both Fd Fp) sl p' (.int .i64 (E:Int))):=by
 have F:=h.I.fr i x hx;have p3:w.cell? ⟨B.pb,3,none⟩=some (.map (some B.dm)):=h.I.box.cell 3 rfl;have q0:w.cell? ⟨x.blk,0,none⟩=some (.string (str x.f.name)):=F.box.cell 0 rfl;have q1:w.cell? ⟨x.blk,1,none⟩=some (.int .i64 (x.f.k:Int)):=F.box.cell 1 rfl;have q2:w.cell? ⟨x.blk,2,none⟩=some (.pointer (some ⟨x.fb,0,none⟩)):=F.box.cell 2 rfl;obtain ⟨v,hl,hr,ho⟩:=h.I.dval x.f.name;have lk:=hl w.drew rfl;have SR:=zH (h.I.search x.f.name x.f.k hr w.drew (zD w));unfold saveS at hs;by_cases hk:x.f.k∈zaa p.dl x.f.name
 ·rw [if_pos hk] at hs;rw [decide_eq_true hk] at SR;have hnm:x.f.name.length≤24:=h.ok.names _ (by rw [h.fr];exact mem_keys.2 ⟨i,x.f,zaH hx,rfl,rfl⟩);obtain ⟨n0,E0,hz⟩:∃ n0 E0,sizeS p.d x.f.name=(n0,E0):=⟨_,_,rfl⟩
  have hn0:n0≤16777216:=by have:=zdZ (K.ok h.D.D) x.f.name;rw [hz] at this;exact this
  have PG:=zH (zcT (h.D.keep (zD w)) hZ (F.file.keep (zD w)) (by unfold maxLen;omega) hz hn0);unfold zas at hs;rw [hz] at hs;simp only at hs;by_cases hE0:E0=0
  ·subst hE0;rw [if_neg (by simp)] at hs;obtain ⟨n,hn⟩:∃ n,n0/256=n:=(⟨_,rfl⟩);rw [hn] at hs PG;have hrise:=h.I.dlok.rise_of x.f.name;have hlen:=zbV X x.f.name (zaa p.dl x.f.name);have hend:below (zaa p.dl x.f.name) x.f.k<(zaa p.dl x.f.name).length:=(zI9.1 ((zcE hrise).1 hk)).1;rw [zpp hrise hk n] at hs;rcases hr.form with ⟨-,h0⟩|⟨g,cur,rfl,-,hnc,hcm,-⟩
   ·exfalso;rw [h0] at hlen;simp at hlen;omega
   rw [hlen] at hr lk SR hnc;have hdl:=h.I.dlen x.f.name;have hmost:=h.I.most;have hb2:below ((zaa p.dl x.f.name).take (below (zaa p.dl x.f.name) x.f.k)) n≤below (zaa p.dl x.f.name) x.f.k:=by
    have:=zdr ((zaa p.dl x.f.name).take (below (zaa p.dl x.f.name) x.f.k)) n;rw [List.length_take] at this;omega
   have ST:=zH (fun (V:World) (kk:Keeps w V)=>h.I.searchTake x.f.name n (below (zaa p.dl x.f.name) x.f.k) hr (Nat.le_of_lt hend) V kk);obtain ⟨fs,f1,f2,f3,f4,-⟩:=h.frames x.f.name (((zaa p.dl x.f.name).drop (below ((zaa p.dl x.f.name).take (below (zaa p.dl x.f.name) x.f.k)) n)).take (below (zaa p.dl x.f.name) x.f.k+1-below ((zaa p.dl x.f.name).take (below (zaa p.dl x.f.name) x.f.k)) n)) (fun k' hk'=>List.mem_of_mem_drop (List.mem_of_mem_take hk')) (hrise.sublist ((List.take_sublist _ _).trans (List.drop_sublist _ _)));rw [←f4] at hs;have f2':fs.length=below (zaa p.dl x.f.name) x.f.k+1-below ((zaa p.dl x.f.name).take (below (zaa p.dl x.f.name) x.f.k)) n:=by
    rw [f2,List.length_take,List.length_drop];omega
   have f3':(fs.map fun x=>Value.pointer (some ⟨x.blk,0,none⟩))=((zan X x.f.name (zaa p.dl x.f.name)).drop (below ((zaa p.dl x.f.name).take (below (zaa p.dl x.f.name) x.f.k)) n)).take (below (zaa p.dl x.f.name) x.f.k+1-below ((zaa p.dl x.f.name).take (below (zaa p.dl x.f.name) x.f.k)) n):=by
    rw [f3];unfold zan;rw [List.map_take,List.map_drop]
   have hO:=Own.of_row hr;rw [hlen] at hO;obtain ⟨e,he⟩:∃ e,below (zaa p.dl x.f.name) x.f.k=e:=(⟨_,rfl⟩);rw [he] at ST SR f2' f3' hb2 hend;obtain ⟨b,hbb⟩:∃ b,below ((zaa p.dl x.f.name).take e) n=b:=(⟨_,rfl⟩);rw [hbb] at ST f2' f3' hb2;obtain ⟨N,hN⟩:∃ N,(zaa p.dl x.f.name).length=N:=(⟨_,rfl⟩);rw [hN] at hend hnc hdl SR lk hO hr;obtain ⟨c,hc⟩:∃ c,cur.size=c:=(⟨_,rfl⟩);rw [hc] at hnc hcm ST SR lk hO hr;obtain ⟨m,hm⟩:∃ m,e+1-b=m:=(⟨_,rfl⟩);rw [hm] at f2' f3';obtain ⟨e1,he1⟩:∃ e1,e+1=e1:=(⟨_,rfl⟩);have hem:e1-b=m:=by omega
   have hei:(e:Int)+1=(e1:Int):=(by omega);have heb:(e:Int)≤4096:=by omega
   have hbi:(b:Int)≤(e1:Int):=(by omega);have hec:(e1:Int)≤(c:Int):=by omega
   have hec2:(e:Int)≤(c:Int):=(by omega);have heN:(e1:Int)≤(N:Int):=by omega
   have heN2:(e:Int)≤(N:Int):=(by omega);have hcb:¬ (c=b):=by omega
   have hci:(c:Int)≤9223372036854775807:=by unfold maxLen at hcm;omega
   have CLO:=zH (fun (V:World) (kk:Keeps w V)=>by
    refine zgG (some ⟨g,b,none⟩) m (c-b) (fs.map fun x=>Value.pointer (some ⟨x.blk,0,none⟩)) V ?_ (by rw [List.length_map,f2']) (fun h=>by cases h) (by omega) (fun u hu=>by obtain ⟨y,-,rfl⟩:=List.mem_map.1 hu;rfl);rw [f3'];have:=((hO.keep kk).at_.drop b).take m;rw [Addr.add_lit,Nat.zero_add] at this;exact this)
   have WB:=zH (fun (V V2:World) (kk:Keeps w V) (k2:Keeps V V2) (v':Value) (o:Own V2 V.heap.size 194 1 v' m (fs.map fun x=>Value.pointer (some ⟨x.blk,0,none⟩)))=>show ∃ A' c',v' = .slice A' m c'∧Calls Tryz.prog 163 #[.pointer (some ⟨B.pb,0,none⟩), .slice A' m c'] V2 (Got K w0 V2 B (Both Fd Fp) sl p' (.int .i64 (E:Int))) from by
    obtain ⟨A',c',rfl,-,-,-,hbk⟩:=o.form;refine ⟨A',c',rfl,zeI PK (h.keep (zK kk k2)) hZ hS f1 A' m c' f2'.symm o.at_ (fun ad ha hB=>?_) hb hM (by omega) hs⟩;have h1:=(hbk ad ha).2.1;have h2:=kk.size;rcases hB with hB|hB
    ·have:=K.lt h.D.D _ hB;omega
    ·have:=h.I.lt _ hB;omega)
   have H:=zH h;clear h F hr hx hk ho hl hs hb hz hn0 hnm hO f1 f2 f3 f4 f2' f3' hrise hlen hnc hdl hmost hb2 hbb he hN hc hn hend he1 hm hcm;generalize fs.map (fun x=>Value.pointer (some ⟨x.blk,0,none⟩))=ys at *;generalize str x.f.name=sv at *;generalize x.f.k=k at *;generalize x.blk=xb at *;generalize x.fb=fb at *;go_enter Tryz.func213,Tryz.ntmps213;go_wp2;go_region
   go_wp2_with fail
   refine SR.out.mono ?_;rintro e w1 ⟨rfl,rfl⟩;go_wp2_with fail
   refine PG.out.mono ?_;rintro e w2 ⟨rfl,k2⟩;have K2:=zH (zK (zD w) k2);clear k2;go_wp2_with fail
   refine (ST.out _ K2.out).mono ?_;rintro e w1 ⟨rfl,rfl⟩;go_wp2_with fail
   refine (CLO.out _ K2.out).mono ?_;rintro e w3 ⟨v',rfl,o3,k3⟩;obtain ⟨A',c',rfl,WC⟩:=WB.out _ _ K2.out k3 _ o3;have K3:=zH (zK K2.out k3);clear o3 k3;go_wp2_with fail
   refine WC.mono ?_;rintro e w4 ⟨rfl,Fd4,Fp4,X4,H4,T4⟩;go_wp2;go_ret;exact ⟨rfl,Fd4,Fp4,X4,H4,(Turns.of_keeps K3.out).trans T4⟩
  ·rw [if_pos hE0] at hs;obtain ⟨rfl,rfl⟩:=Prod.mk.inj hs;have hne:((E0:Int) != 0)=true:=by rw [bne_iff_ne];omega
   have H:=zH h;generalize below (zaa p.dl x.f.name) x.f.k=bl at *;generalize n0/256=n at *;generalize str x.f.name=sv at *;generalize x.f.k=k at *;generalize x.blk=xb at *;generalize x.fb=fb at *;clear h F hr hx hk ho hl hs hb hz hn0 hnm;go_enter Tryz.func213,Tryz.ntmps213;go_wp2;go_region
   go_wp2_with fail
   refine SR.out.mono ?_;rintro e w1 ⟨rfl,rfl⟩;go_wp2_with fail
   refine PG.out.mono ?_;rintro e w2 ⟨rfl,k2⟩;go_wp2;go_ret;exact ⟨rfl,Fd,Fp,X,H.out.keep (zK (zD w) k2),Turns.of_keeps (zK (zD w) k2)⟩
 ·rw [if_neg hk] at hs;obtain ⟨rfl,rfl⟩:=Prod.mk.inj hs;rw [decide_eq_false hk] at SR;have H:=zH h;generalize below (zaa p.dl x.f.name) x.f.k=bl at *;generalize str x.f.name=sv at *;generalize x.f.k=k at *;generalize x.blk=xb at *;generalize x.fb=fb at *;clear h F hr hx hk ho hl hs hb;go_enter Tryz.func213,Tryz.ntmps213;go_wp2;go_region
  go_wp2_with fail
  refine SR.out.mono ?_;rintro e w1 ⟨rfl,rfl⟩;go_wp2;go_ret;exact ⟨rfl,Fd,Fp,X,H.out.keep (zD w),Turns.of_keeps (zD w)⟩
end
section
variable {w w':World} {B:PB} {X:PX} {Fp Fp':Nat→Prop} {sl sl':List (Option Fx)} {dl:List (List UInt8×List Nat)} {t t':PT}
theorem PIn.slots (h:PIn w B X Fp sl dl t) (hO:∀ i,Fp i→i=B.dm∨((∃ c,w.heap[i]? = some (.cells c 194 (0,0)))∧i≠B.gr)→w'.heap[i]? = w.heap[i]?) (hF:∀ i,Fp i→Fp' i) (hlt:∀ i,Fp' i→i<w'.heap.size)
 (box:Box w' B.pb 156 (plC B sl'.length t')) (row:Box w' B.gr 194 (rowC sl').toArray) (fr:∀ (i:Nat) (x:Fx),sl'[i]? = some (some x)→FxAt w' B.db x)
 (apart:∀ (i j:Nat) (x y:Fx),sl'[i]? = some (some x)→sl'[j]? = some (some y)→x.blk=y.blk→i=j) {bk:List UInt8→Nat→Nat} (hbk:∀ (i:Nat) (x:Fx),sl'[i]? = some (some x)→bk x.f.name x.f.k=x.blk)
 (bkd:∀ nm ks,(nm,ks)∈dl→∀ k∈ks,bk nm k=X.bk nm k) {W:List ((List UInt8×Nat)×Nat)} (wher:MapW plV dpt w' B.wb W) (look:∀ nm k,lookM W (nm,k)=if some (nm,k)∈zac (frs sl') then some (bk nm k) else none)
 (held:∀ nm k,k∈zaa dl nm→some (nm,k)∈zac (frs sl')) (one:One (frs sl')) (inf:∀ (i:Nat) (x:Fx),sl'[i]? = some (some x)→Fp' x.blk∧Fp' x.fb∧(∀ g,x.tb=some g→Fp' g)) (most:sl'.length≤4096) :
 PIn w' B ⟨X.R,bk,W⟩ Fp' sl' dl t':=by
 refine ⟨box,row,fr,apart,hbk,wher,look,?_,fun nm ks he=>?_,h.rowne,h.rowap,held,h.dlok,one,⟨hF _ h.inP.pb,hF _ h.inP.gr,hF _ h.inP.wb,hF _ h.inP.dm,inf,fun nm ks he g hg=>hF _ (h.inP.row nm ks he g hg)⟩,hlt,most,h.two⟩
 ·exact h.dirt.same (hO _ h.inP.dm (.inl rfl))
 ·have e:zan ⟨X.R,bk,W⟩ nm ks=zan X nm ks:=by
   unfold zan;exact List.map_congr_left fun k hk=>by rw [show (PX.mk X.R bk W).bk nm k=bk nm k from rfl,bkd nm ks he k hk]
  rw [e];refine (h.rows nm ks he).same (fun g hg=>?_);rw [zbw] at hg;obtain ⟨c,hc⟩:=h.rowcell he hg;exact hO g (h.inP.row nm ks he g hg) (.inr ⟨⟨c,hc⟩,fun e=>h.rowne nm ks he (by rw [←e];exact hg)⟩)
theorem znr {dl:List (List UInt8×List Nat)} (hd:DlOk dl) {nm:List UInt8} {ks:List Nat} (h:(nm,ks)∈dl):zaa dl nm=ks:=by
 unfold zaa;rw [zeY hd.once h];rfl
theorem PIn.numbers (h:PIn w B X Fp sl dl t) (box:Box w' B.pb 156 (plC B sl.length t')) (ho:Only w w' (fun c=>c=B.pb)):PIn w' B X Fp sl dl t':=by
 have sm:∀ {i:Nat},Fp i→i≠B.pb→w'.heap[i]? = w.heap[i]?:=fun hi hne=>ho.block _ (h.lt _ hi) hne
 have nb:∀ {i:Nat} {c:Array Value} {T:TypeId} {f:Nat×Nat},w.heap[i]? = some (.cells c T f)→T≠156→i≠B.pb:=fun hi hT=>zal hi h.box hT
 refine h.slots (fun i hi h1=>sm hi (fun e=>by
  rcases h1 with h1|⟨⟨c,hc⟩,-⟩
  ·exact h.notdm h.box (e.symm.trans h1)
  ·exact zal hc h.box (by decide) e)) (fun _ h=>h) (fun i hi=>Nat.lt_of_lt_of_le (h.lt i hi) ho.size) box ((sm h.inP.gr (nb h.row (by decide))).trans h.row) (fun i x hx=>?_) h.apart h.bk (fun _ _ _ _ _=>rfl) (h.wher.same (sm h.inP.wb (fun e=>h.notwb h.box e.symm))) h.look h.held h.one h.inP.fr h.most
 obtain ⟨p1,p2,p3⟩:=h.inP.fr i x hx;have F:=h.fr i x hx;exact F.same (sm p1 (nb F.box (by decide))) (sm p2 (nb F.file (by decide))) (fun g hg=>by
  obtain ⟨c,f,hc⟩:=F.text.cells hg;exact sm (p3 g hg) (nb hc (by decide)))
theorem zet (sl:List (Option Fx)) (i:Nat) (o:Option Fx):rowC (sl.set i o)=(rowC sl).set i (ptrO (o.map Fx.blk)):=List.map_set
theorem zpr (sl:List (Option Fx)):(rowC sl).length=sl.length:=List.length_map _
theorem zbx {sl:List (Option Fx)} {i:Nat} {o:Option Fx} (h:sl[i]? = some o):(rowC sl).toArray[i]? = some (ptrO (o.map Fx.blk)):=by
 unfold rowC;rw [List.getElem?_toArray,List.getElem?_map,h];rfl
theorem PIn.frame (h:PIn w B X Fp sl dl t) {i:Nat} {x x':Fx} (hx:sl[i]? = some (some x)) (h1:x'.blk=x.blk) (h2:x'.f.name=x.f.name) (h3:x'.f.k=x.f.k) (hF:∀ i,Fp i→Fp' i) (hlt:∀ i,Fp' i→i<w'.heap.size)
 (ho:Only w w' (fun c=>c=x.blk)) (hf:FxAt w' B.db x') (hin:Fp' x'.fb∧∀ g,x'.tb=some g→Fp' g):PIn w' B X Fp' (sl.set i (some x')) dl t:=by
 have F0:=h.fr i x hx;have sm:∀ {j:Nat},Fp j→j≠x.blk→w'.heap[j]? = w.heap[j]?:=fun hj hne=>ho.block _ (h.lt _ hj) hne
 have nb:∀ {j:Nat} {c:Array Value} {T:TypeId} {f:Nat×Nat},w.heap[j]? = some (.cells c T f)→T≠196→j≠x.blk:=fun hj hT=>zal hj F0.box hT
 have hil:=(zI9.1 hx).1;have hk:zac (frs (sl.set i (some x')))=zac (frs sl):=by
  rw [zbp,zb9];apply List.ext_getElem?;intro j;rw [List.getElem?_set];split
  ·rename_i e;subst e;rw [if_pos (by rw [zaV,zdg];exact hil),zbA (zaH hx)];simp [h2,h3]
  ·rfl
 have hr:rowC (sl.set i (some x'))=rowC sl:=by
  rw [zet];apply List.ext_getElem?;intro j;rw [List.getElem?_set];split
  ·rename_i e;subst e;rw [if_pos (by rw [zpr];exact hil)];unfold rowC;rw [List.getElem?_map,hx];simp [h1]
  ·rfl
 have at_:∀ (j:Nat) (y:Fx),(sl.set i (some x'))[j]? = some (some y)→(j=i∧y=x')∨(j≠i∧sl[j]? = some (some y)):=fun j y hy=>by
  rw [List.getElem?_set] at hy;split at hy
  ·rename_i e;exact .inl ⟨e.symm,(Option.some.inj (Option.some.inj hy)).symm⟩
  ·rename_i e;exact .inr ⟨fun e2=>e e2.symm,hy⟩
 refine h.slots (fun j hj h4=>sm hj (fun e=>by
  rcases h4 with h4|⟨⟨c,hc⟩,-⟩
  ·exact h.notdm F0.box (e.symm.trans h4)
  ·exact zal hc F0.box (by decide) e)) hF hlt (by rw [List.length_set];exact (sm h.inP.pb (nb h.box (by decide))).trans h.box) (by rw [hr];exact (sm h.inP.gr (nb h.row (by decide))).trans h.row) (fun j y hy=>?_) (fun j k y z hy hz e=>?_) (fun j y hy=>?_) (fun _ _ _ _ _=>rfl) (h.wher.same (sm h.inP.wb (fun e=>h.notwb F0.box e.symm))) (by rw [hk];exact h.look) (by rw [hk];exact h.held) (by unfold One;rw [hk];exact h.one) (fun j y hy=>?_) (by rw [List.length_set];exact h.most)
 ·rcases at_ j y hy with ⟨-,rfl⟩|⟨hne,hy⟩
  ·exact hf
  ·obtain ⟨p1,p2,p3⟩:=h.inP.fr j y hy;have F:=h.fr j y hy;exact F.same (sm p1 (fun e=>hne (h.apart j i y x hy hx e))) (sm p2 (nb F.file (by decide))) (fun g hg=>by
    obtain ⟨c,f,hc⟩:=F.text.cells hg;exact sm (p3 g hg) (nb hc (by decide)))
 ·rcases at_ j y hy with ⟨q1,q2⟩|⟨-,hy2⟩
  ·rcases at_ k z hz with ⟨q3,-⟩|⟨-,hz2⟩
   ·rw [q1,q3]
   ·rw [q1];exact h.apart _ _ _ _ hx hz2 (by rw [←h1,←q2];exact e)
  ·rcases at_ k z hz with ⟨q3,q4⟩|⟨-,hz2⟩
   ·rw [q3];exact h.apart _ _ _ _ hy2 hx (by rw [e,q4,h1])
   ·exact h.apart _ _ _ _ hy2 hz2 e
 ·rcases at_ j y hy with ⟨-,rfl⟩|⟨hne,hy⟩
  ·rw [h2,h3,h1];exact h.bk i x hx
  ·exact h.bk j y hy
 ·rcases at_ j y hy with ⟨-,rfl⟩|⟨hne,hy⟩
  ·rw [h1];exact ⟨hF _ (h.inP.fr i x hx).1,hin.1,hin.2⟩
  ·obtain ⟨p1,p2,p3⟩:=h.inP.fr j y hy;exact ⟨hF _ p1,hF _ p2,fun g hg=>hF _ (p3 g hg)⟩
end
section
variable {w w':World} {B:PB} {X:PX} {Fp Fp':Nat→Prop} {sl sl':List (Option Fx)} {dl:List (List UInt8×List Nat)} {t t':PT}
theorem Turns.only_in {S F:Nat→Prop} (h:Only w w' S) (hS:∀ i,S i→F i):Turns w w' F F:=⟨h.more hS,fun _ h=>.inl h⟩
theorem ze7 {b:Nat} {T:TypeId} {cs:Array Value} (h:Box w b T cs) (i:Nat) (u:Value):Box (w.drew.setCell ⟨b,i,none⟩ u) b T (cs.setIfInBounds i u):=Box.set (w:=w.drew) h i u
theorem zc3 (w:World) (b i:Nat) (u:Value):Only w (w.drew.setCell ⟨b,i,none⟩ u) (fun c=>c=b):=⟨rfl,rfl,rfl,by simp [World.setCell],fun k _ hn=>Below.heap_setCell w.drew ⟨b,i,none⟩ _ k hn⟩
theorem zf3 (h:PIn w B X Fp sl dl t) (hh:t.hand<sl.length) :
 Calls Tryz.prog 214 #[.pointer (some ⟨B.pb,0,none⟩)] w fun e w'=>e = .returned (.tuple #[])∧PIn w' B X Fp sl dl {t with hand:=(t.hand+1)%sl.length}∧Turns w w' Fp Fp:=by
 have p1:w.cell? ⟨B.pb,1,none⟩=some (.slice (some ⟨B.gr,0,none⟩) sl.length sl.length):=h.box.cell 1 rfl;have p4:w.cell? ⟨B.pb,4,none⟩=some (.int .i64 (t.hand:Int)):=h.box.cell 4 rfl;have f4:=h.box.frozen 4;have hm:=h.most;obtain ⟨m,hm2⟩:∃ m,(t.hand+1)%sl.length=m:=⟨_,rfl⟩
 rw [hm2];have UP:=zH (show PIn (w.drew.setCell ⟨B.pb,4,none⟩ (.int .i64 (m:Int))) B X Fp sl dl {t with hand:=m} from h.numbers (ze7 h.box 4 _) (zc3 _ _ _ _));have TT:=zH (show Turns w (w.drew.setCell ⟨B.pb,4,none⟩ (.int .i64 (m:Int))) Fp Fp from Turns.only_in (zc3 _ _ _ _) (fun i e=>by rw [e];exact h.inP.pb));obtain ⟨n,hn⟩:∃ n,sl.length=n:=⟨_,rfl⟩
 rw [hn] at p1 hh hm2 hm;obtain ⟨a,ha⟩:∃ a,t.hand+1=a:=⟨_,rfl⟩
 rw [ha] at hm2;have hi:IntKind.i64.wrap ((t.hand:Int)+1)=(a:Int):=by rw [IntWalk.i64_in _ (by omega)];omega
 have hi2:(t.hand:Int)+1=(a:Int):=by omega
 have hr:(a:Int).tmod (n:Int)=(m:Int):=by
  rw [Int.tmod_eq_emod_of_nonneg (by omega),←hm2];exact (Int.natCast_emod _ _).symm
 have hn0:¬ ((n:Int)=0):=by omega
 have hmn:m<n:=by rw [←hm2];exact Nat.mod_lt _ (by omega)
 have hw:IntKind.i64.wrap (m:Int)=(m:Int):=IntWalk.i64_in _ (by omega);have hwa:wrap64 (a:Int)=(a:Int):=by unfold wrap64;omega
 clear h hm2 ha hn hm hh hmn;go_enter Tryz.func214,Tryz.ntmps214;go_wp2;go_region
 go_wp2;go_returns;exact ⟨rfl,UP.out,TT.out⟩
theorem PIn.emptied (h:PIn w B X Fp sl dl t) {i:Nat} {x:Fx} (hx:sl[i]? = some (some x)) (hd:x.f.k∉zaa dl x.f.name)
 (ho:Only w w' (fun c=>c=B.pb∨c=B.gr∨c=B.wb)) (box:Box w' B.pb 156 (plC B sl.length t')) (row:Box w' B.gr 194 ((rowC sl).toArray.setIfInBounds i (.pointer none))) (wher:MapW plV dpt w' B.wb (delM X.W (x.f.name,x.f.k))) :
 PIn w' B ⟨X.R,X.bk,delM X.W (x.f.name,x.f.k)⟩ Fp (sl.set i none) dl t':=by
 have hil:=(zI9.1 hx).1;have sm:∀ {j:Nat},Fp j→j≠B.pb→j≠B.gr→j≠B.wb→w'.heap[j]? = w.heap[j]?:=fun hj h1 h2 h3=>ho.block _ (h.lt _ hj) (fun e=>by rcases e with e|e|e;exact h1 e;exact h2 e;exact h3 e)
 have at_:∀ (j:Nat) (y:Fx),(sl.set i none)[j]? = some (some y)→j≠i∧sl[j]? = some (some y):=fun j y hy=>by
  rw [List.getElem?_set] at hy;split at hy
  ·simp at hy
  ·rename_i e;exact ⟨fun e2=>e e2.symm,hy⟩
 have kx:∀ nm k,some (nm,k)∈zac (frs (sl.set i none))↔some (nm,k)∈zac (frs sl)∧(nm,k)≠(x.f.name,x.f.k):=fun nm k=>by
  rw [zbp];constructor
  ·intro hm;refine ⟨zb5 hm,fun e=>?_⟩;obtain ⟨j,f,hf,e1,e2⟩:=mem_keys.1 hm;rw [←zbp] at hf;obtain ⟨y,hy,rfl⟩:=zbO hf;obtain ⟨hne,hy⟩:=at_ j y hy;obtain ⟨e3,e4⟩:=Prod.mk.inj e;refine hne (h.one j i (nm,k) ?_ ?_)
   ·rw [zbA (zaH hy),e1,e2]
   ·rw [zbA (zaH hx),e3,e4]
  ·rintro ⟨h1,h2⟩;exact zcG (zaH hx) none h1 h2
 refine h.slots (fun j hj h1=>?_) (fun _ h=>h) (fun j hj=>Nat.lt_of_lt_of_le (h.lt j hj) ho.size) (by rw [List.length_set];exact box) ?_ (fun j y hy=>?_) (fun j k y z hy hz e=>h.apart j k y z (at_ j y hy).2 (at_ k z hz).2 e) (fun j y hy=>h.bk j y (at_ j y hy).2) (fun _ _ _ _ _=>rfl) wher (fun nm k=>?_) (fun nm k hk=>?_) ?_ (fun j y hy=>h.inP.fr j y (at_ j y hy).2) (by rw [List.length_set];exact h.most)
 ·rcases h1 with rfl|⟨⟨c,hc⟩,hg⟩
  ·exact sm hj (fun e=>h.notdm h.box e.symm) (fun e=>h.notdm h.row e.symm) (fun e=>h.two e.symm)
  ·exact sm hj (fun e=>zal hc h.box (by decide) e) hg (h.notwb hc)
 ·rw [zet];show Box w' B.gr _ ((rowC sl).set i (.pointer none)).toArray;rw [←List.setIfInBounds_toArray];exact row
 ·obtain ⟨-,hy⟩:=at_ j y hy;obtain ⟨p1,p2,p3⟩:=h.inP.fr j y hy;have F:=h.fr j y hy;refine F.same (sm p1 (zal F.box h.box (by decide)) (zal F.box h.row (by decide)) (h.notwb F.box)) (sm p2 (zal F.file h.box (by decide)) (zal F.file h.row (by decide)) (h.notwb F.file)) (fun g hg=>?_);obtain ⟨c,f,hc⟩:=F.text.cells hg;exact sm (p3 g hg) (zal hc h.box (by decide)) (zal hc h.row (by decide)) (h.notwb hc)
 ·rw [zeW,h.look];by_cases e:(nm,k)=(x.f.name,x.f.k)
  ·rw [if_pos e,if_neg (fun hm=>((kx nm k).1 hm).2 e)]
  ·rw [if_neg e];by_cases e2:some (nm,k)∈zac (frs sl)
   ·rw [if_pos e2,if_pos ((kx nm k).2 ⟨e2,e⟩)]
   ·rw [if_neg e2,if_neg (fun hm=>e2 ((kx nm k).1 hm).1)]
 ·refine (kx nm k).2 ⟨h.held nm k hk,fun e=>?_⟩;obtain ⟨rfl,rfl⟩:=Prod.mk.inj e;exact hd hk
 ·rw [zbp];exact zdt h.one i
theorem zns (h:PIn w B X Fp sl dl t) {i:Nat} {x:Fx} (hx:sl[i]? = some (some x)) (hd:x.f.k∉zaa dl x.f.name) {rn:Nat} (hrn:t.rn=rn+1) (hrm:t.rn≤t.rm) (hbig:t.rm≤1000000) :
 Calls Tryz.prog 123 #[.pointer (some ⟨B.pb,0,none⟩), .int .i64 (i:Int)] w fun e w'=>e = .returned (.tuple #[])∧(∃ X',PIn w' B X' Fp (sl.set i none) dl {t with rn:=rn})∧Turns w w' Fp Fp:=by
 have F:=h.fr i x hx;have hil:=(zI9.1 hx).1;have p1:w.cell? ⟨B.pb,1,none⟩=some (.slice (some ⟨B.gr,0,none⟩) sl.length sl.length):=h.box.cell 1 rfl;have p2:w.cell? ⟨B.pb,2,none⟩=some (.map (some B.wb)):=h.box.cell 2 rfl;have r1:w.cell? ⟨B.gr,i,none⟩=some (.pointer (some ⟨x.blk,0,none⟩)):=h.row.cell i (zbx hx);have q0:w.cell? ⟨x.blk,0,none⟩=some (.string (str x.f.name)):=F.box.cell 0 rfl;have q1:w.cell? ⟨x.blk,1,none⟩=some (.int .i64 (x.f.k:Int)):=F.box.cell 1 rfl;obtain ⟨w1,d1,M1,O1⟩:=zdq (P:=Tryz.prog) zd8 (h.wher.keep (zD w)) (x.f.name,x.f.k) 0;have b1:Box w1 B.pb 156 (plC B sl.length t):=(O1.block _ h.box.lt (fun e=>h.notwb h.box e)).trans h.box;have g1:Box w1 B.gr 194 (rowC sl).toArray:=(O1.block _ h.row.lt (fun e=>h.notwb h.row e)).trans h.row;have P1:w1.cell? ⟨B.pb,1,none⟩=some (.slice (some ⟨B.gr,0,none⟩) sl.length sl.length):=b1.cell 1 rfl;have fg:=g1.frozen i;have rc:w1.cell? ⟨B.gr,i,none⟩=some (.pointer (some ⟨x.blk,0,none⟩)):=g1.cell i (zbx hx);have b2:Box (w1.setCell ⟨B.gr,i,none⟩ (.pointer none)) B.pb 156 (plC B sl.length t):=b1.far (p:=⟨B.gr,i,none⟩) (show B.pb≠B.gr from zal h.box h.row (by decide)) _;have AD:=zH (zhp (w1.setCell ⟨B.gr,i,none⟩ (.pointer none)) B.pb 5 t.rn t.rm rn (-1) (plC B sl.length t) (by decide) b2 rfl rfl (by omega) (by omega));have hmx:max t.rm rn=t.rm:=by omega
 rw [hmx] at AD;have UP:=zH (fun (w3:World) (hb:Box w3 B.pb 156 (((plC B sl.length t).setIfInBounds 5 (.int .i64 (rn:Int))).setIfInBounds (5+1) (.int .i64 (t.rm:Int)))) (ho:Only (w1.setCell ⟨B.gr,i,none⟩ (.pointer none)) w3 (fun c=>c=B.pb))=>show (∃ X',PIn w3 B X' Fp (sl.set i none) dl {t with rn:=rn})∧Turns w w3 Fp Fp from by
  have hO:Only w w3 (fun c=>c=B.pb∨c=B.gr∨c=B.wb):=
   (((show Only w w1 (fun c=>c=B.wb) from ⟨O1.os,O1.tape,O1.output,O1.size,O1.block⟩).more (fun _ e=>.inr (.inr e))).trans (za7 w1 ⟨B.gr,i,none⟩ (.pointer none)) (fun i e=>.inl (.inr (.inl e)))).trans ho (fun i e=>.inl (.inl e))
  have hg2:B.gr≠B.pb:=zal h.row h.box (by decide);have hrow:Box w3 B.gr 194 ((rowC sl).toArray.setIfInBounds i (.pointer none)):=(ho.block _ (by simpa using g1.lt) hg2).trans (g1.set i (.pointer none));have hwb:B.wb≠B.pb:=fun e=>h.notwb h.box e.symm
  have hwb2:B.wb≠B.gr:=fun e=>h.notwb h.row e.symm
  have M2:MapW plV dpt w3 B.wb (delM X.W (x.f.name,x.f.k)):=(M1.same (w':=w1.setCell ⟨B.gr,i,none⟩ (.pointer none)) (Below.heap_setCell _ _ _ _ hwb2)).same (ho.block _ (by simpa using M1.lt) hwb);exact ⟨⟨_,h.emptied (t':={t with rn:=rn}) hx hd hO hb hrow M2⟩,Turns.only_in hO (fun j e=>by rcases e with rfl|rfl|rfl;exact h.inP.pb;exact h.inP.gr;exact h.inP.wb)⟩)
 have hii:(i:Int)<(sl.length:Int):=by omega
 have hni:(sl.length:Int)≤4096:=by have:=h.most;omega
 unfold plV at d1;simp only at d1;generalize sl.length=n at *;generalize str x.f.name=sv at *;generalize hkk:x.f.k=k at *;generalize x.blk=xb at *;clear h F hx hd hrn hrm hmx O1 M1 b1 g1 b2;go_enter Tryz.func123,Tryz.ntmps123;go_wp2;go_region
 go_wp2_with fail
 refine AD.out.mono ?_;rintro e w3 ⟨rfl,hb3,ho3⟩;obtain ⟨U1,U2⟩:=UP.out _ hb3 ho3;go_wp2;go_returns;exact ⟨rfl,U1,U2⟩
end
end Go.Proofs.YtjpldnjldindkaaGreatDoor
