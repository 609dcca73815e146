/- Package stream: how a stream lies; fit, isWhole, read, last. -/
import Derived.Test.YtjpldnjldindkaaGreatDoorQStreamMath
set_option linter.all false
set_option maxHeartbeats 0
set_option maxRecDepth 100000
namespace Go.Proofs.YtjpldnjldindkaaGreatDoor
open Go.RowKit
def StrAt (w:World) (sb pb:Nat) (nm:List UInt8) (size:Nat):Prop:=Box w sb 144 #[.pointer (some ⟨pb,0,none⟩), .string (str nm), .int .i64 (size:Int)]
section
variable {w w':World} {sb pb size:Nat} {nm:List UInt8} {S S':Nat→Prop}
theorem StrAt.lt (h:StrAt w sb pb nm size):sb<w.heap.size:=Box.lt h
theorem StrAt.keep (h:StrAt w sb pb nm size) (k:Keeps w w'):StrAt w' sb pb nm size:=Box.keep h k
theorem StrAt.turn (h:StrAt w sb pb nm size) (t:Turns w w' S S') (n:¬ S sb):StrAt w' sb pb nm size:=Box.turned h t n
theorem StrAt.cells (h:StrAt w sb pb nm size):w.cell? ⟨sb,0,none⟩=some (.pointer (some ⟨pb,0,none⟩))∧w.cell? ⟨sb,1,none⟩=some (.string (str nm))∧w.cell? ⟨sb,2,none⟩=some (.int .i64 (size:Int)):=
 ⟨Box.cell h 0 rfl,Box.cell h 1 rfl,Box.cell h 2 rfl⟩
theorem zjC (h:StrAt w sb pb nm size) (hs:1≤size∧size≤240) :
 Calls Tryz.prog 79 #[.pointer (some ⟨sb,0,none⟩)] w fun e w'=>e = .returned (.int .i64 ((240/size:Nat):Int))∧w=w':=by
 obtain ⟨-,-,c2⟩:=h.cells;obtain ⟨per,hper⟩:∃ per,240/size=per:=⟨_,rfl⟩
 have hq:Int.tdiv 240 (size:Int)=(per:Int):=by rw [←hper];exact (Int.ofNat_tdiv 240 size).symm
 have hp2:(per:Int)≤240:=by have:=Nat.div_le_self 240 size;omega
 have h0:((size:Int) == 0)=false:=by rw [beq_eq_false_iff_ne];omega
 have h1:(size:Int)≠0:=by omega
 have hs1:(1:Int)≤(size:Int):=by omega
 have hs2:(size:Int)≤240:=by omega
 rw [hper];clear h hper hs;go_enter Tryz.func79,Tryz.ntmps79;go_wp2;go_ret;exact ⟨rfl,rfl⟩
theorem zib (h:StrAt w sb pb nm size) (hs:1≤size∧size≤240) (k:Int) (A:Option Addr) (n c:Nat) :
 Calls Tryz.prog 78 #[.pointer (some ⟨sb,0,none⟩), .agg #[.int .i64 k, .slice A n c]] w fun e w'=>e = .returned (.bool (decide (n%size=0)))∧Keeps w w':=by
 have kA:=zA w (.cells #[.int .i64 k, .slice A n c] 140);obtain ⟨-,-,c2⟩:=(h.keep kA).cells;have x1:=(Box.new w 140 #[.int .i64 k, .slice A n c]).cell 1 rfl;obtain ⟨r,hr⟩:∃ r,n%size=r:=⟨_,rfl⟩
 have hq:Int.tmod (n:Int) (size:Int)=(r:Int):=by rw [←hr];exact (Int.ofNat_tmod n size).symm
 have h0:((size:Int) == 0)=false:=by rw [beq_eq_false_iff_ne];omega
 have h1:(size:Int)≠0:=by omega
 have hs1:(1:Int)≤(size:Int):=by omega
 have hs2:(size:Int)≤240:=by omega
 have KA:=zH kA;rw [hr];clear h hr hs kA;by_cases e:r=0
 ·subst e;have hq:Int.tmod (n:Int) (size:Int)=0:=by rw [hq];rfl
  rw [decide_eq_true rfl];go_enter Tryz.func78,Tryz.ntmps78;go_wp2;go_quiet (fail)
  go_wp2;go_ret;exact ⟨by simp,zK KA.out (zam _ _)⟩
 ·have e0:((r:Int) == 0)=false:=by rw [beq_eq_false_iff_ne];omega
  have e1:decide ((r:Int)=0)=false:=decide_eq_false (by omega);have e2:decide (r=0)=false:=decide_eq_false e;rw [decide_eq_false e];go_enter Tryz.func78,Tryz.ntmps78;go_wp2;go_quiet (fail)
  go_wp2;go_ret;exact ⟨by simp [e],zK KA.out (zam _ _)⟩
end
section
variable {K:DiskOk} {w0 w w' W w2:World} {B:PB} {S S':Nat→Prop} {p q:Pst} {sb size:Nat} {nm:List UInt8}
theorem PJ.put_ (h:PJ K w0 B p S w) (a:Addr) (v:Value) (h1:w0.heap.size≤a.block) (h2:¬ S a.block):PJ K w0 B p S (w.setCell a v):=
 (zdG K w0 B p).turn (T:=fun i=>i=a.block) h (za7 w a v) (fun i hi=>by rw [show i=a.block from hi];exact ⟨h1,h2⟩)
def PageV (K:DiskOk) (w0 w:World) (B:PB) (S:Nat→Prop) (q:Pst) (k:Int) (l:List UInt8) (E:Nat) (e:Ending) (w':World):Prop:=
 ∃ v,e = .returned (.tuple #[.agg #[.int .i64 k,v], .int .i64 (E:Int)])∧Own w' w.heap.size 5 1 v l.length (cel l)∧∃ S',PJ K w0 B q S' w'∧Turns w w' S S'∧(∀ g,v.ownBlock=some g→¬ S' g)
theorem zf4 (h:PJ K w0 B q S' w2) (hL:∀ i,S i→i<w.heap.size) (hw0:w0.heap.size≤w.heap.size) (kW:Keeps w W) (hW:w.heap.size<W.heap.size) (t:Turns W w2 S S') (v1 v2:Value) :
 PJ K w0 B q S' ((w2.setCell ⟨w.heap.size,0,none⟩ v1).setCell ⟨w.heap.size,1,none⟩ v2)∧Turns w ((w2.setCell ⟨w.heap.size,0,none⟩ v1).setCell ⟨w.heap.size,1,none⟩ v2) S S'∧
  (∀ {base ty sz n:Nat} {v:Value} {xs:List Value},w.heap.size<base→Own w2 base ty sz v n xs→Own ((w2.setCell ⟨w.heap.size,0,none⟩ v1).setCell ⟨w.heap.size,1,none⟩ v2) w.heap.size ty sz v n xs):=by
 have hn:¬ S' w.heap.size:=t.notIn hW (fun e=>Nat.lt_irrefl _ (hL _ e));refine ⟨(h.put_ ⟨w.heap.size,0,none⟩ v1 hw0 hn).put_ ⟨w.heap.size,1,none⟩ v2 hw0 hn,(((Turns.of_keeps kW).trans t).put10 ⟨w.heap.size,0,none⟩ v1 (Nat.le_refl _)).put10 ⟨w.heap.size,1,none⟩ v2 (Nat.le_refl _),?_⟩;intro base ty sz n v xs hb o;have hne:∀ g,v.ownBlock=some g→g≠w.heap.size:=fun g hg=>by have:=(o.lt g hg).1;omega
 refine ((o.same (fun g hg=>Below.heap_setCell w2 ⟨w.heap.size,0,none⟩ v1 g (hne g hg))).same (fun g hg=>Below.heap_setCell _ ⟨w.heap.size,1,none⟩ v2 g (hne g hg))).base_le (Nat.le_of_lt hb)
theorem zic (PK:PageOk) (h:PJ K w0 B p S w) (hZ:K.Z w0) (hS:Sizes w0) {N j:Nat} (R:Runs p N j) (hN:N≤4096) (hj:j≤100000) (b:StrAt w sb B.pb nm size) (hb:¬ S sb) (hnm:nm.length≤maxLen) (k:Int) (hk:IsI k) :
 Calls Tryz.prog 106 #[.pointer (some ⟨sb,0,none⟩), .int .i64 k] w (PageV K w0 w B S (zai p nm k).1 k (zai p nm k).2.1 (zai p nm k).2.2):=by
 have kA:=zA w (.cells #[.int .i64 0, .slice none 0 0] 140);have kB:=zK kA (zD _);have RD:=zH (zrh PK (h.keep kB) hZ hS R hN hj nm hnm k hk);obtain ⟨s0,s1,-⟩:=(b.keep kA).cells;have hlt:=h.lt;have hsz:w.heap.size<((w.alloc (.cells #[.int .i64 0, .slice none 0 0] 140)).drew).heap.size:=by simp
 have SK:=zH (fun (V:World) (kk:Keeps (w.alloc (.cells #[.int .i64 0, .slice none 0 0] 140)) V)=>And.intro ((b.keep kA).keep kk).cells.1 ((b.keep kA).keep kk).cells.2.1);have SN:=zH (fun (V:World) (T:Nat→Prop) (t:Turns ((w.alloc (.cells #[.int .i64 0, .slice none 0 0] 140)).drew) V S T)=>And.intro ((b.keep kB).turn t hb).cells.1 ((b.keep kB).turn t hb).cells.2.1);have X:=zH ((Box.new w 140 #[.int .i64 0, .slice none 0 0]).keep (zD _));have FIN:=zH (fun (w2:World) (q:Pst) (T:Nat→Prop) (hq:PJ K w0 B q T w2) (t:Turns ((w.alloc (.cells #[.int .i64 0, .slice none 0 0] 140)).drew) w2 S T)=>zf4 hq hlt h.kp.size kB hsz t);have NS:=zH (show ¬ S w.heap.size from fun e=>Nat.lt_irrefl _ (hlt _ e));have HSZ:=zH hsz;generalize zai p nm k=r at *;obtain ⟨q,l,E⟩:=r;simp only at RD ⊢;clear h b hlt kA kB hsz hZ hS R hk;generalize str nm=sv at *;go_enter Tryz.func106,Tryz.ntmps106;go_wp2_with fail
 go_region_held3 (fun V=>V.cell? ⟨sb,0,none⟩=some (.pointer (some ⟨B.pb,0,none⟩))∧V.cell? ⟨sb,1,none⟩=some (.string sv)) (first|assumption|exact SK.out _ (zD _)) (first
  | (go_at_call 143;refine RD.out.mono ?_;rintro ee w2 ⟨v,rfl,o2,T,h2,t2,n2⟩;have s2:=SN.out _ _ t2;have H2:=zH h2;have T2:=zH t2;have O2:=zH o2;have N2:=zH n2;obtain ⟨A2,c2,rfl,-⟩:=o2.form;clear h2 t2 o2 n2))
 clear s2;have X2:=X.out.turned T2.out NS.out;have x0:=X2.cell 0 rfl;have x1:=X2.cell 1 rfl;have f0:=X2.frozen 0;have f1:=X2.frozen 1;have XB:=zH ((X2.set 0 (.int .i64 k)).set 1 (.slice A2 l.length c2));obtain ⟨g1,g2,g3⟩:=FIN.out w2 q T H2.out T2.out (.int .i64 k) (.slice A2 l.length c2);have G1:=zH g1;have G2:=zH g2;have G3:=zH (g3 HSZ.out O2.out);clear X2 g1 g2 g3;go_wp2_with fail
 have d0:=XB.out.cell 0 rfl;have d1:=XB.out.cell 1 rfl;refine bodyPost_ret (v:=.tuple #[.agg #[.int .i64 k, .slice A2 l.length c2], .int .i64 (E:Int)]) (by simp [results,Tryz.results106,go_sem,d0,d1]) rfl ?_;exact ⟨_,rfl,G3.out,T,G1.out,G2.out,N2.out⟩
end
section
variable {K:DiskOk} {w0 w w' W w2:World} {B:PB} {S S':Nat→Prop} {p q:Pst} {sb size:Nat} {nm:List UInt8}
theorem zid (PK:PageOk) (h:PJ K w0 B p S w) (hZ:K.Z w0) (hS:Sizes w0) {N j:Nat} (R:Runs p N j) (hN:N≤4096) (hj:j≤100000) (b:StrAt w sb B.pb nm size) (hb:¬ S sb) (hnm:nm.length≤maxLen) (hn:(findP p nm).1≤1000000) :
 Calls Tryz.prog 77 #[.pointer (some ⟨sb,0,none⟩)] w (PageV K w0 w B S (lastT p nm).1 (lastT p nm).2.1 (lastT p nm).2.2.1 (lastT p nm).2.2.2):=by
 have kA:=zA w (.cells #[.int .i64 0, .slice none 0 0] 140);have kB:=zK kA (zD _);have PG:=zH (zjy (h.keep kB) hZ R hj nm hnm);obtain ⟨s0,s1,-⟩:=(b.keep kA).cells;have hlt:=h.lt;have hsz:w.heap.size<((w.alloc (.cells #[.int .i64 0, .slice none 0 0] 140)).drew).heap.size:=by simp
 have SK:=zH (fun (V:World) (kk:Keeps (w.alloc (.cells #[.int .i64 0, .slice none 0 0] 140)) V)=>And.intro ((b.keep kA).keep kk).cells.1 ((b.keep kA).keep kk).cells.2.1);have SR:=zH (fun (V:World) (kk:Keeps w V) (k:Int) (hk:IsI k)=>zic PK (h.keep kk) hZ hS R hN hj (b.keep kk) hb hnm k hk);have X:=zH ((Box.new w 140 #[.int .i64 0, .slice none 0 0]).keep (zD _));have FIN:=zH (fun (V w2:World) (q:Pst) (T:Nat→Prop) (hq:PJ K w0 B q T w2) (kk:Keeps w V) (hV:w.heap.size<V.heap.size) (t:Turns V w2 S T)=>zf4 hq hlt h.kp.size kk hV t);have NS:=zH (show ¬ S w.heap.size from fun e=>Nat.lt_irrefl _ (hlt _ e));have HSZ:=zH hsz;have KB:=zH kB;have H:=zH h;unfold lastT;obtain ⟨n,E,hf⟩:∃ n E,findP p nm=(n,E):=⟨_,_,rfl⟩
 rw [hf] at PG hn ⊢;simp only at PG hn ⊢;clear h b hlt kA kB hsz hZ hS R hf;by_cases hE:E=0
 ·subst hE;rw [if_pos rfl] at PG;rw [if_neg (by simp)];by_cases h0:n=0
  ·subst h0;rw [if_pos rfl];simp only;generalize str nm=sv at *;go_enter Tryz.func77,Tryz.ntmps77;go_wp2_with fail
   go_region_held3 (fun V=>V.cell? ⟨sb,0,none⟩=some (.pointer (some ⟨B.pb,0,none⟩))∧V.cell? ⟨sb,1,none⟩=some (.string sv)) (first|assumption|exact SK.out _ (zD _)) (first
   | (go_at_call 83;refine PG.out.mono ?_;rintro ee w2 ⟨rfl,k2⟩;have s2:=SK.out _ (zK (zD _) k2);have K2:=zH k2;clear k2))
   clear s2;have kk:=zK KB.out K2.out;have X2:=X.out.keep K2.out;have x0:=X2.cell 0 rfl;have x1:=X2.cell 1 rfl;have f0:=X2.frozen 0;have f1:=X2.frozen 1;have XB:=zH ((X2.set 0 (.int .i64 (-1))).set 1 (.slice none 0 0));obtain ⟨g1,g2,g3⟩:=FIN.out w2 w2 p S (PJ.keep H.out kk) kk (Nat.lt_of_lt_of_le HSZ.out K2.out.size) (Turns.refl _ _) (.int .i64 (-1)) (.slice none 0 0);have G1:=zH g1;have G2:=zH g2;clear X2 g1 g2 g3 kk;go_wp2_with fail
   have d0:=XB.out.cell 0 rfl;have d1:=XB.out.cell 1 rfl;refine bodyPost_ret (v:=.tuple #[.agg #[.int .i64 (-1), .slice none 0 0], .int .i64 0]) (by simp [results,Tryz.results77,go_sem,d0,d1]) rfl ?_;exact ⟨_,rfl,Own.nil _ _ _ _,S,G1.out,G2.out,fun g hg=>by cases hg⟩
  ·rw [if_neg h0];obtain ⟨m,rfl⟩:∃ m,n=m+1:=(⟨n-1,by omega⟩);rw [Nat.add_sub_cancel];have hm:(((m+1:Nat):Int))-1=(m:Int):=(by omega);obtain ⟨N1,hN1⟩:∃ N1:Int,((m+1:Nat):Int)=N1:=⟨_,rfl⟩
   have SRm:=zH (fun (V:World) (kk:Keeps w V)=>SR.out V kk (m:Int) ⟨by omega,by omega⟩);have hn1:(N1 == 0)=false:=by rw [beq_eq_false_iff_ne];omega
   have hn2:N1≤1000000:=(by omega);have hn3:1≤N1:=by omega
   rw [hN1] at PG hm;clear hN1 hn h0 SR;generalize zai p nm (m:Int)=r at *;obtain ⟨q,l,E⟩:=r;simp only at SRm ⊢;generalize str nm=sv at *;go_enter Tryz.func77,Tryz.ntmps77;go_wp2_with fail
   go_region_held3 (fun V=>V.cell? ⟨sb,0,none⟩=some (.pointer (some ⟨B.pb,0,none⟩))∧V.cell? ⟨sb,1,none⟩=some (.string sv)) (first|assumption|exact SK.out _ (zD _)) (first
    | (go_at_call 83;refine PG.out.mono ?_;rintro ee w2 ⟨rfl,k2⟩;have s2:=SK.out _ (zK (zD _) k2);have K2:=zH k2;clear k2))
   clear s2;have kk:=zK KB.out K2.out;have KK:=zH kk;go_wp2_with fail
   refine (SRm.out w2 kk).mono ?_;rintro e w3 ⟨v,rfl,o3,T,h3,t3,n3⟩;have sz2:w.heap.size<w2.heap.size:=Nat.lt_of_lt_of_le HSZ.out K2.out.size;have SZ2:=zH sz2;have X3:=(X.out.keep K2.out).turned t3 NS.out;have O3:=zH o3;have N3:=zH n3;obtain ⟨A3,c3,rfl,-⟩:=o3.form;obtain ⟨g1,g2,g3⟩:=FIN.out w2 w3 q T h3 kk sz2 t3 (.int .i64 (m:Int)) (.slice A3 l.length c3);have x0:=X3.cell 0 rfl;have x1:=X3.cell 1 rfl;have f0:=X3.frozen 0;have f1:=X3.frozen 1;have XB:=zH ((X3.set 0 (.int .i64 (m:Int))).set 1 (.slice A3 l.length c3));have G1:=zH g1;have G2:=zH g2;have G3:=zH (g3 sz2 o3);clear X3 g1 g2 g3 kk h3 t3 o3 n3 sz2;go_wp2_with fail
   have d0:=XB.out.cell 0 rfl;have d1:=XB.out.cell 1 rfl;refine bodyPost_ret (v:=.tuple #[.agg #[.int .i64 (m:Int), .slice A3 l.length c3], .int .i64 (E:Int)]) (by simp [results,Tryz.results77,go_sem,d0,d1]) rfl ?_;exact ⟨_,rfl,G3.out,T,G1.out,G2.out,N3.out⟩
 ·rw [if_pos hE];rw [if_neg hE] at PG;have hne:((E:Int) != 0)=true:=by rw [bne_iff_ne];omega
  simp only;generalize str nm=sv at *;go_enter Tryz.func77,Tryz.ntmps77;go_wp2_with fail
  go_region_held3 (fun V=>V.cell? ⟨sb,0,none⟩=some (.pointer (some ⟨B.pb,0,none⟩))∧V.cell? ⟨sb,1,none⟩=some (.string sv)) (first|assumption|exact SK.out _ (zD _)) (first
   | (go_at_call 83;refine PG.out.mono ?_;rintro ee w2 ⟨rfl,k2⟩;have s2:=SK.out _ (zK (zD _) k2);have K2:=zH k2;clear k2))
  clear s2;have kk:=zK KB.out K2.out;have X2:=X.out.keep K2.out;have x0:=X2.cell 0 rfl;have x1:=X2.cell 1 rfl;have f0:=X2.frozen 0;have f1:=X2.frozen 1;have XB:=zH ((X2.set 0 (.int .i64 (-1))).set 1 (.slice none 0 0));obtain ⟨g1,g2,g3⟩:=FIN.out w2 w2 p S (PJ.keep H.out kk) kk (Nat.lt_of_lt_of_le HSZ.out K2.out.size) (Turns.refl _ _) (.int .i64 (-1)) (.slice none 0 0);have G1:=zH g1;have G2:=zH g2;clear X2 g1 g2 g3 kk;go_wp2_with fail
  have d0:=XB.out.cell 0 rfl;have d1:=XB.out.cell 1 rfl;refine bodyPost_ret (v:=.tuple #[.agg #[.int .i64 (-1), .slice none 0 0], .int .i64 (E:Int)]) (by simp [results,Tryz.results77,go_sem,d0,d1]) rfl ?_;exact ⟨_,rfl,Own.nil _ _ _ _,S,G1.out,G2.out,fun g hg=>by cases hg⟩
end
section
variable {K:DiskOk} {w0 w w' W w2:World} {B:PB} {S S':Nat→Prop} {p q:Pst} {sb size:Nat} {nm:List UInt8}
def SeatV (K:DiskOk) (w0 w:World) (B:PB) (S:Nat→Prop) (q:Pst) (k:Int) (l:List UInt8) (bg E:Nat) (e:Ending) (w':World):Prop:=
 ∃ v,e = .returned (.tuple #[.agg #[.int .i64 k,v], .int .i64 (bg:Int), .int .i64 (E:Int)])∧Own w' w.heap.size 5 1 v l.length (cel l)∧∃ S',PJ K w0 B q S' w'∧Turns w w' S S'∧(∀ g,v.ownBlock=some g→¬ S' g)
theorem znJ (PK:PageOk) (h:PJ K w0 B p S w) (hZ:K.Z w0) (hS:Sizes w0) {N j:Nat} (R:Runs p N j) (hN:N≤4096) (hj:j≤100000) (b:StrAt w sb B.pb nm size) (hb:¬ S sb) (hnm:nm.length≤maxLen) (hsz:1≤size∧size≤240) (i:Int) (hi:IsI i) :
 Calls Tryz.prog 75 #[.pointer (some ⟨sb,0,none⟩), .int .i64 i] w (SeatV K w0 w B S (seatT p nm size i).1 (if (seatT p nm size i).2.2.2=0 then ((i.toNat/(240/size):Nat):Int) else 0) (seatT p nm size i).2.1 (seatT p nm size i).2.2.1 (seatT p nm size i).2.2.2):=by
 have kA:=zA w (.cells #[.int .i64 0, .slice none 0 0] 140);have hlt:=h.lt;have hsz1:w.heap.size<(w.alloc (.cells #[.int .i64 0, .slice none 0 0] 140)).heap.size:=by simp
 have X:=zH (Box.new w 140 #[.int .i64 0, .slice none 0 0]);have FIN:=zH (fun (w2:World) (q:Pst) (T:Nat→Prop) (hq:PJ K w0 B q T w2) (t:Turns (w.alloc (.cells #[.int .i64 0, .slice none 0 0] 140)) w2 S T)=>zf4 hq hlt h.kp.size kA hsz1 t);have NS:=zH (show ¬ S w.heap.size from fun e=>Nat.lt_irrefl _ (hlt _ e));unfold seatT;by_cases h0:i<0
 ·rw [if_pos h0];simp only;rw [if_neg (by decide)];have J1:=zH (h.keep kA);have KAH:=zH kA;clear h b hlt kA hsz1 hZ hS R hi;go_enter Tryz.func75,Tryz.ntmps75;have XB:=zH (X.out);have G1:=zH (J1.out);have G2:=zH (Turns.of_keeps (S:=S) KAH.out);go_wp2_with fail
  have d0:=XB.out.cell 0 rfl;have d1:=XB.out.cell 1 rfl;refine bodyPost_ret (v:=.tuple #[.agg #[.int .i64 0, .slice none 0 0], .int .i64 0, .int .i64 1]) (by simp [results,Tryz.results75,go_sem,d0,d1]) rfl ?_;exact ⟨_,rfl,Own.nil _ _ _ _,S,G1.out,G2.out,fun g hg=>by cases hg⟩
 ·rw [if_neg h0];obtain ⟨m,rfl⟩:∃ m:Nat,i=(m:Int):=(⟨i.toNat,by omega⟩);simp only [Int.toNat_natCast];obtain ⟨per,hper⟩:∃ per,240/size=per:=(⟨_,rfl⟩);have hp1:0<per:=by rw [←hper];exact zbG hsz
  have hp2:per*size≤240:=by rw [←hper];exact zsj size
  have hp3:per≤240:=by rw [←hper];exact Nat.div_le_self 240 size
  rw [hper];obtain ⟨k,hk⟩:∃ k,m/per=k:=(⟨_,rfl⟩);obtain ⟨r,hr⟩:∃ r,m%per=r:=⟨_,rfl⟩
  have hkm:k≤m:=by rw [←hk];exact Nat.div_le_self m per
  have hrp:r<per:=by rw [←hr];exact Nat.mod_lt _ hp1
  obtain ⟨bg,hbg⟩:∃ bg,r*size=bg:=(⟨_,rfl⟩);have hbl:bg≤240:=by
   rw [←hbg];exact Nat.le_trans (Nat.mul_le_mul_right _ (Nat.le_of_lt hrp)) hp2
  have q1:Int.tdiv (m:Int) (per:Int)=(k:Int):=by rw [←hk];exact (Int.ofNat_tdiv m per).symm
  have q2:Int.tmod (m:Int) (per:Int)=(r:Int):=by rw [←hr];exact (Int.ofNat_tmod m per).symm
  have q3:(r:Int)*(size:Int)=(bg:Int):=by rw [←hbg];exact (Int.natCast_mul r size).symm
  rw [hk,hr,hbg];have FT:=zH (fun (V:World) (s:StrAt V sb B.pb nm size)=>zjC s hsz);rw [hper] at FT;have FW:=zH (fun (V:World) (s:StrAt V sb B.pb nm size) (k:Int) (A:Option Addr) (n c:Nat)=>zib s hsz k A n c);have SR:=zH (zic PK (h.keep kA) hZ hS R hN hj (b.keep kA) hb hnm (k:Int) ⟨by omega,by have:=hi.2;omega⟩);have SB:=zH (b.keep kA);have h2:=zH hb;have p0:((per:Int) == 0)=false:=by rw [beq_eq_false_iff_ne];omega
  have p1:(per:Int)≠0:=(by omega);have p2:(1:Int)≤(per:Int):=by omega
  have p3:(per:Int)≤240:=(by omega);have m0:(0:Int)≤(m:Int):=by omega
  have m1:(m:Int)≤9223372036854775807:=hi.2;have km:(k:Int)≤9223372036854775807:=(by omega);have r0:(r:Int)≤240:=by omega
  have b0:(bg:Int)≤240:=(by omega);have s0:(size:Int)≤240:=by omega
  have hm0:decide ((m:Int)<0)=false:=decide_eq_false h0;generalize zai p nm (k:Int)=rr at *;obtain ⟨q,l,E⟩:=rr;simp only at SR ⊢;obtain ⟨RS,hRS⟩:∃ RS,(if E≠0 then (q,[],0,E) else if l.length%size≠0 then (q,[],0,7) else if l.length≤bg then (q,[],0,3) else (q,l,bg,0):Pst×List UInt8×Nat×Nat)=RS:=(⟨_,rfl⟩);rw [hRS];obtain ⟨num,hnum⟩:∃ num,(if RS.2.2.2=0 then (k:Int) else 0)=num:=(⟨_,rfl⟩);rw [hnum];obtain ⟨q',l',bg',E'⟩:=RS;simp only at hnum ⊢;have HR:=zH hRS;have HNUM:=zH hnum;clear h b hb hlt kA hZ hS R hi hper hk hr hbg h0 hkm hrp hbl hp1 hp2 hp3 hsz hRS hnum;go_enter Tryz.func75,Tryz.ntmps75;go_wp2_with fail
  refine (FT.out _ SB.out).mono ?_;rintro e w2 ⟨rfl,rfl⟩;go_wp2_with fail
  refine SR.out.mono ?_;rintro e w2 ⟨v,rfl,o2,T,j2,t2,n2⟩;obtain ⟨A2,c2,rfl,hc2,hcm2,-⟩:=o2.form;have kC:=zA w2 (.cells #[.int .i64 (k:Int), .slice A2 l.length c2] 140);have J3:=zH (j2.keep kC);have T3:=zH (t2.trans (Turns.of_keeps kC));have Y3:=zH (Box.new w2 140 #[.int .i64 (k:Int), .slice A2 l.length c2]);have O3:=zH (o2.keep kC);have S3:=zH (SB.out.turn T3.out h2.out);have N2:=zH n2;have C2:=zH (And.intro hc2 hcm2);clear o2 j2 t2 n2 kC hc2 hcm2;go_wp2_with fail
  generalize w2.alloc (.cells #[.int .i64 (k:Int), .slice A2 l.length c2] 140)=w3 at *;generalize w2.heap.size=g7 at *;have u2:=S3.out.cells.2.2;go_quiet (exact Calls.quiet_of_same ((FT.out _ (S3.out.keep (by first|exact zab _|exact zD _|exact zam _ _))).mono fun _ _ h=>⟨h.1,h.2.symm⟩))
  have k4:=zam w3 nq;have J4:=zH (J3.out.keep k4);have T4:=zH (T3.out.trans (Turns.of_keeps k4));have Y4:=zH (Y3.out.keep k4);have O4:=zH (O3.out.keep k4);have S4:=zH (S3.out.keep k4);clear u2 k4 J3 T3 Y3 O3 S3;generalize w3.drewN nq=w4 at *;by_cases hE:E=0
  ·subst hE;have v0:=Y4.out.cell 0 rfl;have v1:=Y4.out.cell 1 rfl;have WH:=zH (FW.out w4 S4.out (k:Int) A2 l.length c2);go_wp2_with fail
   refine WH.out.mono ?_;rintro e w5 ⟨rfl,k5⟩;have J5:=zH (J4.out.keep k5);have T5:=zH (T4.out.trans (Turns.of_keeps k5));have Y5:=zH (Y4.out.keep k5);have O5:=zH (O4.out.keep k5);clear k5 v0 v1 J4 T4 Y4 O4;have v0:=Y5.out.cell 0 rfl;have v1:=Y5.out.cell 1 rfl;by_cases hw:l.length%size=0
   ·rw [decide_eq_true hw];by_cases hbl:l.length≤bg
    ·have hbi:(l.length:Int)≤(bg:Int):=(by omega);have X9:=X.out.turned T5.out NS.out;have x0:=X9.cell 0 rfl;have x1:=X9.cell 1 rfl;have f0:=X9.frozen 0;have f1:=X9.frozen 1;have XB:=zH ((X9.set 0 (.int .i64 0)).set 1 (.slice none 0 0));obtain ⟨g1,g2,g3⟩:=FIN.out w5 q T J5.out T5.out (.int .i64 0) (.slice none 0 0);have G1:=zH g1;have G2:=zH g2;have G3:=zH trivial;clear X9 g1 g2 g3;go_wp2_with fail
     have d0:=XB.out.cell 0 rfl;have d1:=XB.out.cell 1 rfl;refine bodyPost_ret (v:=.tuple #[.agg #[.int .i64 0, .slice none 0 0], .int .i64 0, .int .i64 3]) (by simp [results,Tryz.results75,go_sem,d0,d1]) rfl ?_;have e:=HR.out;rw [if_neg (by simp),if_neg (by omega),if_pos hbl] at e;injection e with e1 e2;injection e2 with e2 e3;injection e3 with e3 e4;subst e1;subst e2;subst e3;subst e4;have en:=HNUM.out;rw [if_neg (by decide)] at en;subst en;exact ⟨_,rfl,Own.nil _ _ _ _,T,G1.out,G2.out,fun g hg=>by cases hg⟩
    ·have hbi:(bg:Int)<(l.length:Int):=(by omega);have hbj:decide ((l.length:Int)≤(bg:Int))=false:=decide_eq_false (by omega);have hbk:decide (l.length≤bg)=false:=decide_eq_false hbl;have X9:=X.out.turned T5.out NS.out;have x0:=X9.cell 0 rfl;have x1:=X9.cell 1 rfl;have f0:=X9.frozen 0;have f1:=X9.frozen 1;have XB:=zH ((X9.set 0 (.int .i64 (k:Int))).set 1 (.slice A2 l.length c2));obtain ⟨g1,g2,g3⟩:=FIN.out w5 q T J5.out T5.out (.int .i64 (k:Int)) (.slice A2 l.length c2);have G1:=zH g1;have G2:=zH g2;have G3:=zH (g3 (by simp) O5.out);clear X9 g1 g2 g3;go_wp2_with fail
     have d0:=XB.out.cell 0 rfl;have d1:=XB.out.cell 1 rfl;refine bodyPost_ret (v:=.tuple #[.agg #[.int .i64 (k:Int), .slice A2 l.length c2], .int .i64 (bg:Int), .int .i64 0]) (by simp [results,Tryz.results75,go_sem,d0,d1]) rfl ?_;have e:=HR.out;rw [if_neg (by simp),if_neg (by omega),if_neg hbl] at e;injection e with e1 e2;injection e2 with e2 e3;injection e3 with e3 e4;subst e1;subst e2;subst e3;subst e4;have en:=HNUM.out;rw [if_pos rfl] at en;subst en;exact ⟨_,rfl,G3.out,T,G1.out,G2.out,N2.out⟩
   ·rw [decide_eq_false hw];have X9:=X.out.turned T5.out NS.out;have x0:=X9.cell 0 rfl;have x1:=X9.cell 1 rfl;have f0:=X9.frozen 0;have f1:=X9.frozen 1;have XB:=zH ((X9.set 0 (.int .i64 0)).set 1 (.slice none 0 0));obtain ⟨g1,g2,g3⟩:=FIN.out w5 q T J5.out T5.out (.int .i64 0) (.slice none 0 0);have G1:=zH g1;have G2:=zH g2;have G3:=zH trivial;clear X9 g1 g2 g3;go_wp2_with fail
    have d0:=XB.out.cell 0 rfl;have d1:=XB.out.cell 1 rfl;refine bodyPost_ret (v:=.tuple #[.agg #[.int .i64 0, .slice none 0 0], .int .i64 0, .int .i64 7]) (by simp [results,Tryz.results75,go_sem,d0,d1]) rfl ?_;have e:=HR.out;rw [if_neg (by simp),if_pos hw] at e;injection e with e1 e2;injection e2 with e2 e3;injection e3 with e3 e4;subst e1;subst e2;subst e3;subst e4;have en:=HNUM.out;rw [if_neg (by decide)] at en;subst en;exact ⟨_,rfl,Own.nil _ _ _ _,T,G1.out,G2.out,fun g hg=>by cases hg⟩
  ·have hne:((E:Int) != 0)=true:=by rw [bne_iff_ne];omega
   have X9:=X.out.turned T4.out NS.out;have x0:=X9.cell 0 rfl;have x1:=X9.cell 1 rfl;have f0:=X9.frozen 0;have f1:=X9.frozen 1;have XB:=zH ((X9.set 0 (.int .i64 0)).set 1 (.slice none 0 0));obtain ⟨g1,g2,g3⟩:=FIN.out w4 q T J4.out T4.out (.int .i64 0) (.slice none 0 0);have G1:=zH g1;have G2:=zH g2;have G3:=zH trivial;clear X9 g1 g2 g3;go_wp2_with fail
   have d0:=XB.out.cell 0 rfl;have d1:=XB.out.cell 1 rfl;refine bodyPost_ret (v:=.tuple #[.agg #[.int .i64 0, .slice none 0 0], .int .i64 0, .int .i64 (E:Int)]) (by simp [results,Tryz.results75,go_sem,d0,d1]) rfl ?_;have e:=HR.out;rw [if_pos hE] at e;injection e with e1 e2;injection e2 with e2 e3;injection e3 with e3 e4;subst e1;subst e2;subst e3;subst e4;have en:=HNUM.out;rw [if_neg hE] at en;subst en;exact ⟨_,rfl,Own.nil _ _ _ _,T,G1.out,G2.out,fun g hg=>by cases hg⟩
end
section
variable {p:Pst} {nm:List UInt8} {size:Nat}
theorem zjD (hd:DsOk p.d) (ht:Txt p.fr) (nm:List UInt8) (k:Int):(zai p nm k).2.1.length≤16777216:=by
 have h1:=zfr hd ht nm k;unfold zai;simp only;split
 ·simp
 ·exact znz h1 _
theorem zjE (hd:DsOk p.d) (ht:Txt p.fr) (nm:List UInt8):(lastT p nm).2.2.1.length≤16777216:=by
 unfold lastT;split
 ·simp
 ·split
  ·simp
  ·exact zjD hd ht nm _
theorem zjF (p:Pst) (nm:List UInt8):(lastT p nm).2.1≤((findP p nm).1:Int):=by
 unfold lastT;split
 ·simp only;omega
 ·split
  ·simp only;omega
  ·simp only;omega
theorem zpS (hd:DsOk p.d) (ht:Txt p.fr) (nm:List UInt8) (size:Nat) (i:Int):(seatT p nm size i).2.1.length≤16777216:=by
 unfold seatT;split
 ·simp
 ·simp only;split
  ·simp
  ·split
   ·simp
   ·split
    ·simp
    ·exact zjD hd ht nm _
end
section
variable {K:DiskOk} {w0 w w' W w2:World} {B:PB} {S S':Nat→Prop} {p q:Pst} {sb size:Nat} {nm:List UInt8}
def OpenS (w:World) (pb:Nat) (nm:List UInt8) (sz:Int) (E:Nat) (e:Ending) (w':World):Prop:=Keeps w w'∧
 ((E=0∧1≤sz∧sz≤240∧∃ sb,e = .returned (.tuple #[.pointer (some ⟨sb,0,none⟩), .int .i64 0])∧StrAt w' sb pb nm sz.toNat∧w.heap.size≤sb)∨(E≠0∧e = .returned (.tuple #[.pointer none, .int .i64 (E:Int)])))
theorem zcZ (h:PJ K w0 B p S w) (hZ:K.Z w0) {N j:Nat} (R:Runs p N j) (hj:j≤100000) (hnm:nm.length≤maxLen) (sz:Int) :
 Calls Tryz.prog 48 #[.pointer (some ⟨B.pb,0,none⟩), .string (str nm), .int .i64 sz] w (OpenS w B.pb nm sz (openT p nm sz)):=by
 have PG:=zH (zjy h hZ R hj nm hnm);unfold openT;by_cases h1:sz<1
 ·rw [if_pos (.inl h1)];clear h hZ R hnm PG;generalize str nm=sv at *;go_enter Tryz.func48,Tryz.ntmps48;go_wp2;go_returns;exact ⟨zab _, .inr ⟨by decide,rfl⟩⟩
 ·have h1b:decide (sz<1)=false:=decide_eq_false h1;by_cases h2:240<sz
  ·rw [if_pos (.inr h2)];clear h hZ R hnm PG;generalize str nm=sv at *;go_enter Tryz.func48,Tryz.ntmps48;go_wp2;go_returns;exact ⟨zab _, .inr ⟨by decide,rfl⟩⟩
  ·have h2b:decide (240<sz)=false:=decide_eq_false h2;rw [if_neg (by omega)];obtain ⟨n,E,hf⟩:∃ n E,findP p nm=(n,E):=(⟨_,_,rfl⟩);rw [hf] at PG ⊢;simp only at PG ⊢;generalize (if E=0 then n else 0)=nn at *;clear h hZ R hnm hf;by_cases hE:E=0
   ·subst hE;have SV:=zH (show ∀ (V:World),StrAt (V.alloc (.cells #[.pointer (some ⟨B.pb,0,none⟩), .string (str nm), .int .i64 sz] 144)) V.heap.size B.pb nm sz.toNat from fun V=>by
     unfold StrAt;have e:((sz.toNat:Nat):Int)=sz:=(by omega);rw [e];exact Box.new V _ _)
    have LO:=zH (show 1≤sz∧sz≤240 from ⟨by omega,by omega⟩);generalize str nm=sv at *;go_enter Tryz.func48,Tryz.ntmps48;go_wp2_with fail
    refine PG.out.mono ?_;rintro e w2 ⟨rfl,k2⟩;have K2:=zH k2;clear k2;go_wp2;go_returns;exact ⟨zK K2.out (zA _ _), .inl ⟨rfl,LO.out.1,LO.out.2,w2.heap.size,rfl,SV.out w2,K2.out.size⟩⟩
   ·have hne:((E:Int) != 0)=true:=by rw [bne_iff_ne];omega
    generalize str nm=sv at *;go_enter Tryz.func48,Tryz.ntmps48;go_wp2_with fail
    refine PG.out.mono ?_;rintro e w2 ⟨rfl,k2⟩;have K2:=zH k2;clear k2;go_wp2;go_returns;exact ⟨K2.out, .inr ⟨hE,rfl⟩⟩
theorem zpT (PK:PageOk) (h:PJ K w0 B p S w) (hZ:K.Z w0) (hS:Sizes w0) {N j:Nat} (R:Runs p N j) (hN:N≤4096) (hj:j≤100000) (b:StrAt w sb B.pb nm size) (hb:¬ S sb) (hnm:nm.length≤maxLen) (hsz:1≤size∧size≤240) (hn:(findP p nm).1≤1000000) :
 Calls Tryz.prog 43 #[.pointer (some ⟨sb,0,none⟩)] w fun e w'=>e = .returned (.tuple #[.int .i64 ((lenT p nm size).2.1:Int), .int .i64 ((lenT p nm size).2.2:Int)])∧∃ S',PJ K w0 B (lenT p nm size).1 S' w'∧Turns w w' S S':=by
 have LA:=zH (zid PK h hZ hS R hN hj b hb hnm hn);have hll:=zjE h.dok R.t nm;have hnn:(lastT p nm).2.1≤1000000:=by have:=zjF p nm;omega
 have SB:=zH b;have NS:=zH hb;have FT:=zH (fun (V:World) (s:StrAt V sb B.pb nm size)=>zjC s hsz);have FW:=zH (fun (V:World) (s:StrAt V sb B.pb nm size) (k:Int) (A:Option Addr) (n c:Nat)=>zib s hsz k A n c);unfold lenT;generalize lastT p nm=rr at *;obtain ⟨q,num,l,E⟩:=rr;simp only at LA hll hnn ⊢;obtain ⟨per,hper⟩:∃ per,240/size=per:=⟨_,rfl⟩
 have hp3:per≤240:=by rw [←hper];exact Nat.div_le_self 240 size
 rw [hper] at FT ⊢;obtain ⟨RS,hRS⟩:∃ RS,(if E≠0 then (q,0,E) else if num<0 then (q,0,0) else if l.length=0∨l.length%size≠0 then (q,0,7) else (q,num.toNat*per+l.length/size,0):Pst×Nat×Nat)=RS:=⟨_,rfl⟩
 rw [hRS];obtain ⟨q',n',E'⟩:=RS;have HR:=zH hRS;simp only;have z0:((size:Int) == 0)=false:=by rw [beq_eq_false_iff_ne];omega
 have z1:(size:Int)≠0:=by omega
 have z2:(1:Int)≤(size:Int):=by omega
 have z3:(size:Int)≤240:=by omega
 have z4:(per:Int)≤240:=by omega
 have SZ:=zH hsz;clear h hZ hS R b hb hn hper hp3 hsz hRS;go_enter Tryz.func43,Tryz.ntmps43;go_wp2_with fail
 refine LA.out.mono ?_;rintro e w2 ⟨v,rfl,o2,T,j2,t2,n2⟩;obtain ⟨A2,c2,rfl,hc2,hcm2,hz2,-⟩:=o2.form;obtain ⟨L,hL⟩:∃ L,l.length=L:=⟨_,rfl⟩
 rw [hL] at o2 n2 hc2 hz2 hll HR ⊢;have kC:=zA w2 (.cells #[.int .i64 num, .slice A2 L c2] 140);have J3:=zH (j2.keep kC);have T3:=zH (t2.trans (Turns.of_keeps kC));have Y3:=zH (Box.new w2 140 #[.int .i64 num, .slice A2 L c2]);have O3:=zH (o2.keep kC);have S3:=zH (SB.out.turn T3.out NS.out);have N2:=zH n2;have C2:=zH (And.intro hc2 (And.intro hcm2 hz2));clear o2 j2 t2 n2 kC hc2 hcm2 hz2;clear hL;have hnum0:=zH (show num<0∨0≤num by omega);by_cases hE:E=0
 ·subst hE;by_cases hnum:num<0
  ·have HNM:=zH hnum;have v0:=Y3.out.cell 0 rfl;have v1:=Y3.out.cell 1 rfl;go_wp2_with fail
   generalize w2.alloc (.cells #[.int .i64 num, .slice A2 L c2] 140)=w3 at *;generalize w2.heap.size=g7 at *;go_returns;have e:=HR.out;rw [if_neg (by simp),if_pos HNM.out] at e;injection e with e1 e2;injection e2 with e2 e3;subst e1;subst e2;subst e3;exact ⟨rfl,T,J3.out,T3.out⟩
  ·have hnb:decide (num<0)=false:=decide_eq_false hnum;obtain ⟨m,rfl⟩:∃ m:Nat,num=(m:Int):=(⟨num.toNat,by omega⟩);rw [Int.toNat_natCast] at HR;by_cases hL0:L=0
   ·subst hL0;have v0:=Y3.out.cell 0 rfl;have v1:=Y3.out.cell 1 rfl;go_wp2_with fail
    generalize w2.alloc (.cells #[.int .i64 (m:Int), .slice A2 0 c2] 140)=w3 at *;generalize w2.heap.size=g7 at *;go_returns;have e:=HR.out;rw [if_neg (by simp),if_neg (by omega),if_pos (.inl (by first|trivial|rfl))] at e;injection e with e1 e2;injection e2 with e2 e3;subst e1;subst e2;subst e3;exact ⟨rfl,T,J3.out,T3.out⟩
   ·have l0:((L:Int) == 0)=false:=by rw [beq_eq_false_iff_ne];omega
    have HL0:=zH hL0;have v0:=Y3.out.cell 0 rfl;have v1:=Y3.out.cell 1 rfl;go_wp2_with fail
    generalize w2.alloc (.cells #[.int .i64 (m:Int), .slice A2 L c2] 140)=w3 at *;generalize w2.heap.size=g7 at *;have WH:=zH (FW.out w3 S3.out (m:Int) A2 L c2);refine WH.out.mono ?_;rintro e w4 ⟨rfl,k4⟩;have J4:=zH (J3.out.keep k4);have T4:=zH (T3.out.trans (Turns.of_keeps k4));have Y4:=zH (Y3.out.keep k4);have S4:=zH (S3.out.keep k4);clear k4 v0 v1 WH J3 T3 Y3 O3 S3;by_cases hw:L%size=0
    ·rw [decide_eq_true hw];have HR:=zH (show (q,m*per+L/size,0)=(q',n',E') by have e:=HR.out;rw [if_neg (by simp),if_neg (by omega),if_neg (by have:=HL0.out;omega)] at e;exact e);have v0:=Y4.out.cell 0 rfl;have v1:=Y4.out.cell 1 rfl;have u2:=S4.out.cells.2.2;obtain ⟨d,hd⟩:∃ d,L/size=d:=⟨_,rfl⟩
     have hdl:d≤L:=by rw [←hd];exact Nat.div_le_self L size
     have q1:Int.tdiv (L:Int) (size:Int)=(d:Int):=by rw [←hd];exact (Int.ofNat_tdiv L size).symm
     obtain ⟨mp,hmp⟩:∃ mp,m*per=mp:=(⟨_,rfl⟩);have q2:(m:Int)*(per:Int)=(mp:Int):=by rw [←hmp];exact (Int.natCast_mul m per).symm
     have hmb:mp≤240000000:=by
      rw [←hmp];exact Nat.le_trans (Nat.mul_le_mul (show m≤1000000 by omega) (show per≤240 by omega)) (by decide)
     have q3:(mp:Int)≤240000000:=(by omega);have q4:(d:Int)≤16777216:=by omega
     have q5:(L:Int)≤16777216:=(by omega);have q6:(mp:Int)+(d:Int)=((mp+d:Nat):Int):=by omega
     have FIN:=zH (show ∀ V,Keeps w4 V→∃ S',PJ K w0 B q S' V∧Turns w V S S' from fun V k=>⟨T,J4.out.keep k,T4.out.trans (Turns.of_keeps k)⟩);rw [hd,hmp] at HR;have e6:=zH q6;clear hd hmp hw hL0 hmb hdl hnum hll hnn q6;go_wp2;go_quiet (exact Calls.quiet_of_same ((FT.out _ (S4.out.keep (by first|exact zab _|exact zD _|exact zam _ _))).mono fun _ _ h=>⟨h.1,h.2.symm⟩))
     go_wp2;go_returns;have e:=HR.out;injection e with e1 e2;injection e2 with e2 e3;subst e1;subst e2;subst e3;exact ⟨by first|(rw [←e6.out];rfl)|(rw [e6.out];rfl)|rfl,FIN.out _ (zam _ _)⟩
    ·rw [decide_eq_false hw];have HW:=zH hw;go_wp2;go_returns;have e:=HR.out;rw [if_neg (by simp),if_neg (by omega),if_pos (.inr HW.out)] at e;injection e with e1 e2;injection e2 with e2 e3;subst e1;subst e2;subst e3;exact ⟨rfl,T,J4.out,T4.out⟩
 ·have hne:((E:Int) != 0)=true:=by rw [bne_iff_ne];omega
  have v0:=Y3.out.cell 0 rfl;have v1:=Y3.out.cell 1 rfl;go_wp2_with fail
  generalize w2.alloc (.cells #[.int .i64 num, .slice A2 L c2] 140)=w3 at *;generalize w2.heap.size=g7 at *;go_returns;have e:=HR.out;rw [if_pos hE] at e;injection e with e1 e2;injection e2 with e2 e3;subst e1;subst e2;subst e3;exact ⟨rfl,T,J3.out,T3.out⟩
theorem zjG (PK:PageOk) (h:PJ K w0 B p S w) (hZ:K.Z w0) (hS:Sizes w0) {N j:Nat} (R:Runs p N j) (hN:N≤4096) (hj:j≤100000) (b:StrAt w sb B.pb nm size) (hb:¬ S sb) (hnm:nm.length≤maxLen) (hsz:1≤size∧size≤240) (i:Int) (hi:IsI i) :
 Calls Tryz.prog 41 #[.pointer (some ⟨sb,0,none⟩), .int .i64 i] w (TextJ K w0 w B S (getT p nm size i).1 (getT p nm size i).2.1 (getT p nm size i).2.2):=by
 have LA:=zH (znJ PK h hZ hS R hN hj b hb hnm hsz i hi);have hll:=zpS h.dok R.t nm size i;have hfit:=znI (p:=p) (nm:=nm) (size:=size) (i:=i) (by omega);have SB:=zH b;have NS:=zH hb;have HL:=zH h.lt;unfold getT;generalize seatT p nm size i=rr at *;obtain ⟨q,l,bg,E⟩:=rr;simp only at LA hll hfit ⊢;generalize (if E=0 then ((i.toNat/(240/size):Nat):Int) else 0)=num at *;obtain ⟨RS,hRS⟩:∃ RS,(if E≠0 then (q,[],E) else (q,(l.drop bg).take size,0):Pst×List UInt8×Nat)=RS:=⟨_,rfl⟩
 rw [hRS];obtain ⟨q',l',E'⟩:=RS;have HR:=zH hRS;simp only;have s0:(size:Int)≤240:=by omega
 clear h hZ hS R b hb hsz hi hRS;go_enter Tryz.func41,Tryz.ntmps41;go_wp2_with fail
 refine LA.out.mono ?_;rintro e w2 ⟨v,rfl,o2,T,j2,t2,n2⟩;obtain ⟨A2,c2,rfl,hc2,hcm2,hz2,-⟩:=o2.form;obtain ⟨L,hL⟩:∃ L,l.length=L:=⟨_,rfl⟩
 rw [hL] at o2 n2 hc2 hz2 hll hfit ⊢;have kC:=zA w2 (.cells #[.int .i64 num, .slice A2 L c2] 140);have J3:=zH (j2.keep kC);have T3:=zH (t2.trans (Turns.of_keeps kC));have Y3:=zH (Box.new w2 140 #[.int .i64 num, .slice A2 L c2]);have O3:=zH (o2.keep kC);have S3:=zH (SB.out.turn T3.out NS.out);have N2:=zH n2;have C2:=zH (And.intro hc2 (And.intro hcm2 hz2));clear o2 j2 t2 n2 kC hc2 hcm2 hz2;by_cases hE:E=0
 ·subst hE;have hfit:=hfit rfl;have HR:=zH (show (q,(l.drop bg).take size,0)=(q',l',E') by have e:=HR.out;rw [if_neg (by simp)] at e;exact e);have v0:=Y3.out.cell 0 rfl;have v1:=Y3.out.cell 1 rfl;go_wp2_with fail
  generalize w2.alloc (.cells #[.int .i64 num, .slice A2 L c2] 140)=w3 at *;generalize w2.heap.size=g7 at *;have v1:=Y3.out.cell 1 rfl;have u2:=S3.out.cells.2.2;obtain ⟨en,hen⟩:∃ en,bg+size=en:=⟨_,rfl⟩
  have hensz:en-bg=size:=(by omega);have hie:(bg:Int)+(size:Int)=(en:Int):=by omega
  have hii:(en:Int)≤16777216:=(by omega);have hii2:(bg:Int)≤16777216:=by omega
  have hi3:(bg:Int)≤(en:Int):=(by omega);have hi4:(en:Int)≤(c2:Int):=by have:=C2.out.1;omega
  have hi5:IntKind.i64.wrap ((bg:Int)+(size:Int))=(bg:Int)+(size:Int):=IntWalk.i64_in _ (by omega);have hi6:(bg:Int)+(size:Int)≤(c2:Int):=by have:=C2.out.1;omega
  have hsl:=zoL (P:=Tryz.prog) 39 5 Tryz.underlying39 (by kernel_rfl) A2 L c2 bg en (by omega) (by have:=C2.out.1;omega);rw [hensz,←hie] at hsl;have CL:=zH (fun (V:World) (kk:Keeps w3 V)=>zbN (dropA A2 c2 bg) size (c2-bg) ((l.drop bg).take size) V (by
   have h1:=At.lohi (show Bs V A2 l from ((O3.out.keep kk).at_:At _ _ _ _)) (by rw [hL];exact C2.out.1) bg en;rw [List.drop_take,hensz] at h1;exact h1) (by rw [List.length_take,List.length_drop];omega) (fun e=>by
    have:A2=none:=by
     unfold dropA at e;split at e
     ·exact e
     ·cases A2 with
      | none=>rfl
      | some a=>cases e
    have:=(C2.out.2.2 this).2;omega) (by omega))
  have SK:=zH (fun (V:World) (kk:Keeps w3 V)=>And.intro (S3.out.keep kk).cells.2.2 ((Y3.out.keep kk).cell 1 rfl));have FIN:=zH (show ∀ V,Keeps w3 V→PJ K w0 B q T V∧Turns w V S T from fun V k=>⟨J3.out.keep k,T3.out.trans (Turns.of_keeps k)⟩);have SZ:=zH (show w.heap.size≤w3.heap.size from T3.out.only.size);have TL:=zH (J3.out.lt);generalize dropA A2 c2 bg=DA at *;generalize c2-bg=dc at *;generalize (l.drop bg).take size=r at *;clear hL hfit hll hen hensz hie hii hi3 hi4;go_region_held3 (fun V=>V.cell? ⟨sb,2,none⟩=some (.int .i64 (size:Int))∧V.cell? ⟨g7,1,none⟩=some (.slice A2 L c2)) (first|assumption|exact SK.out _ (by first|exact zD _|exact zam _ _)) (first
   | (go_at_call 32;refine (CL.out _ (by first|exact zD _|exact zam _ _)).mono ?_;rintro ee w5 ⟨v5,rfl,o5,k5⟩;have k35:=zK (zD w3) k5;have s5:=SK.out _ k35;have K5:=zH k35;have O5:=zH o5;obtain ⟨A5,c5,rfl,-⟩:=o5.form;clear k5 k35 o5))
  go_wp2;go_returns;obtain ⟨g1,g2⟩:=FIN.out _ K5.out;have e:=HR.out;injection e with e1 e2;injection e2 with e2 e3;subst e1;subst e2;subst e3;exact ⟨_,rfl,O5.out.base_le (Nat.le_trans SZ.out (by simp)),T,g1,g2,fun g hg hs=>by
   have h1:=(O5.out.lt g hg).1;have h2:=TL.out g hs;simp at h1;omega⟩
 ·have hne:((E:Int) != 0)=true:=by rw [bne_iff_ne];omega
  have v0:=Y3.out.cell 0 rfl;have v1:=Y3.out.cell 1 rfl;go_wp2_with fail
  generalize w2.alloc (.cells #[.int .i64 num, .slice A2 L c2] 140)=w3 at *;generalize w2.heap.size=g7 at *;go_returns;have e:=HR.out;rw [if_pos hE] at e;injection e with e1 e2;injection e2 with e2 e3;subst e1;subst e2;subst e3;exact ⟨_,rfl,Own.nil _ _ _ _,T,J3.out,T3.out,fun g hg=>by cases hg⟩
end
end Go.Proofs.YtjpldnjldindkaaGreatDoor
