/- The contracts of package octet: rows of numbers, written. -/
import Derived.Test.YtjpldnjldindkaaGreatDoorQCrcMath
import Derived.Test.YtjpldnjldindkaaGreatDoorQRefA
import Derived.Laws.BitsAllLaws
set_option linter.all false
set_option maxHeartbeats 0
set_option maxRecDepth 100000
namespace Go.Proofs.YtjpldnjldindkaaGreatDoor
open Go.RowKit
def edgeB (t h x m:Nat):List UInt8:=nb 4 t++nb 4 h++nb 8 x++nb 4 m
def vertB (r l g:Nat):List UInt8:=nb 4 r++nb 4 l++nb 4 g
def zsV (v h n d:Nat):List UInt8:=nb 4 v++nb 4 h++nb 4 n++nb 8 d
theorem ziZ (r l g:Nat):(vertB r l g).length=12:=by simp [vertB,zad]
theorem zbI (a b c:List UInt8) (k s:Nat) (hk:k=a.length) (hs:s=b.length):numAt (a++(b++c)) k s=le b:=by
 subst hk;subst hs;simp [numAt]
theorem zdX (x:Nat) (h:x<4294967296):le (nb 4 x)=x:=by rw [le_nb];exact Nat.mod_eq_of_lt (by omega)
theorem zr7 (x:Nat) (h:x<18446744073709551616):le (nb 8 x)=x:=by rw [le_nb];exact Nat.mod_eq_of_lt (by omega)
theorem zqJ (t h x m:Nat) (ht:t<4294967296):numAt (edgeB t h x m) 0 4=t:=by
 rw [edgeB,List.append_assoc,List.append_assoc,←List.nil_append (nb 4 t++_),zbI [] _ _ 0 4 rfl (zad _ _).symm,zdX t ht]
theorem zqK (t h x m:Nat) (ht:h<4294967296):numAt (edgeB t h x m) 4 4=h:=by
 rw [edgeB,List.append_assoc,List.append_assoc,zbI _ _ _ 4 4 (zad _ _).symm (zad _ _).symm,zdX h ht]
theorem zqL (t h x m:Nat) (ht:x<18446744073709551616):numAt (edgeB t h x m) 8 8=x:=by
 rw [edgeB,List.append_assoc,zbI _ _ _ 8 8 (by simp [zad]) (zad _ _).symm,zr7 x ht]
theorem zoR (t h x m:Nat) (ht:m<4294967296):numAt (edgeB t h x m) 16 4=m:=by
 rw [edgeB,←List.append_nil (nb 4 m),zbI _ _ _ 16 4 (by simp [zad]) (zad _ _).symm,zdX m ht]
theorem zqM (r l g:Nat) (h:r<4294967296):numAt (vertB r l g) 0 4=r:=by
 rw [vertB,List.append_assoc,←List.nil_append (nb 4 r++_),zbI [] _ _ 0 4 rfl (zad _ _).symm,zdX r h]
theorem zqN (r l g:Nat) (h:l<4294967296):numAt (vertB r l g) 4 4=l:=by
 rw [vertB,List.append_assoc,zbI _ _ _ 4 4 (zad _ _).symm (zad _ _).symm,zdX l h]
theorem zqO (r l g:Nat) (h:g<4294967296):numAt (vertB r l g) 8 4=g:=by
 rw [vertB,←List.append_nil (nb 4 g),zbI _ _ _ 8 4 (by simp [zad]) (zad _ _).symm,zdX g h]
structure Going (w:World) (W:World) (l:List UInt8) (v:Value) (wr:World):Prop where
 own:Own wr (w.heap.size+1) 5 1 v l.length (cel l)
 kept:Below (w.heap.size+1) W wr
theorem Going.start {w:World} {cs:Array Value} {e:TypeId} {v:Value} {w1:World} {row:Option Nat} (h:w1.ownsRow (w.heap.size+1) 5 1 v 0 []) (hg:(w.alloc (.cells cs e)).grownBy w1 none) :
 Going w (w.alloc (.cells cs e)) [] v w1:=⟨Own.of_row h,zcS hg _ (by simp) (fun _ h=>by cases h)⟩
theorem Going.next {w W wr w':World} {l:List UInt8} {v v':Value} {s x:Nat} (h:Going w W l v wr) (hW:w.heap.size+1≤W.heap.size) (o:Own w' (w.heap.size+1) 5 1 v' (l.length+s) (cel (l++nb s x))) (n:Onto wr v.ownBlock w' v'):Going w W (l++nb s x) v' w':=
 ⟨by rw [List.length_append,zad];exact o,Below.grown h.kept n.1 (Nat.le_trans hW h.kept.size) (fun g hg=>(h.own.lt g hg).1)⟩
theorem Going.cell {w W wr:World} {l:List UInt8} {v:Value} (h:Going w W l v wr) (j:Nat):wr.cell? ⟨w.heap.size,j,none⟩=W.cell? ⟨w.heap.size,j,none⟩:=h.kept.cell (p:=⟨w.heap.size,j,none⟩) (by simp)
theorem Going.made {w:World} {cs:Array Value} {e:TypeId} {l:List UInt8} {v:Value} {wr:World} (h:Going w (w.alloc (.cells cs e)) l v wr):Made w l (.returned v) wr:=
 ⟨v,rfl,h.own.base_le (by omega),zK (zA w (.cells cs e)) (h.kept.mono (by simp))⟩
theorem Going.size {w:World} {cs:Array Value} {e:TypeId} {l:List UInt8} {v:Value} {wr:World} (h:Going w (w.alloc (.cells cs e)) l v wr):w.heap.size+1≤wr.heap.size:=by have:=h.kept.size;simpa using this
theorem zoS (t h x m:Nat) (ht:t<4294967296) (hh:h<4294967296) (hx:x<18446744073709551616) (hm:m<4294967296) (w:World) :
 Calls Tryz.prog 198 #[.agg #[.int .u32 t, .int .u32 h, .int .u64 x, .int .u32 m]] w (Made w (edgeB t h x m)):=by
 obtain ⟨i0,hi,hz0,hz1,hz2⟩:=info_parts zbB;have C:∀ j:Nat,(w.alloc (.cells #[.int .u32 t, .int .u32 h, .int .u64 x, .int .u32 m] 64)).cell? ⟨w.heap.size,j,none⟩=(#[.int .u32 t, .int .u32 h, .int .u64 x, .int .u32 m]:Array Value)[j]?:=fun j=>cell_of_row _ _ j _ _ _ (heap_alloc_new w _)
 have HC:=zH C;clear C;go_enter Tryz.func198,Tryz.ntmps198;go_wp2_with (at_make;refine wpList_make_own _ rfl _ _ 39 rfl (w.heap.size+1) 5 i0 (.int .u8 0) 1 Tryz.underlying39 hi hz0 hz1 .i64 .i64 _ 20 rfl rfl (by omega) (by rw [hz2];omega) (by unfold maxLen;omega) (by simp) ?_;intro w1 hown1 hg1;have g1:=Going.start (row:=none) (by simpa using hown1) hg1;have c1:=(g1.cell 0).trans (HC.out 0);simp only [List.getElem?_toArray,List.getElem?_cons_zero,List.getElem?_cons_succ] at c1)
 refine (zbm (w.heap.size+1) _ _ 4 t (by omega) ht _ g1.own g1.size (by simp [zad])).mono ?_;rintro e w2 ⟨v2,rfl,o,n⟩;have g2:=g1.next (by simp) o n;clear o n;have c2:=(g2.cell 1).trans (HC.out 1);simp only [List.getElem?_toArray,List.getElem?_cons_zero,List.getElem?_cons_succ] at c2;go_wp2_with fail
 refine (zbm (w.heap.size+1) _ _ 4 h (by omega) hh _ g2.own g2.size (by simp [zad])).mono ?_;rintro e w3 ⟨v3,rfl,o,n⟩;have g3:=g2.next (by simp) o n;clear o n;have c3:=(g3.cell 2).trans (HC.out 2);simp only [List.getElem?_toArray,List.getElem?_cons_zero,List.getElem?_cons_succ] at c3;go_wp2_with fail
 refine (zdl (w.heap.size+1) _ _ 8 x (by omega) hx _ g3.own g3.size (by simp [zad])).mono ?_;rintro e w4 ⟨v4,rfl,o,n⟩;have g4:=g3.next (by simp) o n;clear o n;have c4:=(g4.cell 3).trans (HC.out 3);simp only [List.getElem?_toArray,List.getElem?_cons_zero,List.getElem?_cons_succ] at c4;go_wp2_with fail
 refine (zbm (w.heap.size+1) _ _ 4 m (by omega) hm _ g4.own g4.size (by simp [zad])).mono ?_;rintro e w5 ⟨v5,rfl,o,n⟩;have g5:=g4.next (by simp) o n;clear o n;go_wp2;go_ret;have M:=g5.made;simpa [edgeB] using M
theorem zoT (r l g:Nat) (hr:r<4294967296) (hl:l<4294967296) (hg:g<4294967296) (w:World) :
 Calls Tryz.prog 122 #[.agg #[.int .u32 r, .int .u32 l, .int .u32 g]] w (Made w (vertB r l g)):=by
 obtain ⟨i0,hi,hz0,hz1,hz2⟩:=info_parts zbB;have C:∀ j:Nat,(w.alloc (.cells #[.int .u32 r, .int .u32 l, .int .u32 g] 55)).cell? ⟨w.heap.size,j,none⟩=(#[.int .u32 r, .int .u32 l, .int .u32 g]:Array Value)[j]?:=fun j=>cell_of_row _ _ j _ _ _ (heap_alloc_new w _)
 have HC:=zH C;clear C;go_enter Tryz.func122,Tryz.ntmps122;go_wp2_with (at_make;refine wpList_make_own _ rfl _ _ 39 rfl (w.heap.size+1) 5 i0 (.int .u8 0) 1 Tryz.underlying39 hi hz0 hz1 .i64 .i64 _ 12 rfl rfl (by omega) (by rw [hz2];omega) (by unfold maxLen;omega) (by simp) ?_;intro w1 hown1 hg1;have g1:=Going.start (row:=none) (by simpa using hown1) hg1;have c1:=(g1.cell 0).trans (HC.out 0);simp only [List.getElem?_toArray,List.getElem?_cons_zero,List.getElem?_cons_succ] at c1)
 refine (zbm (w.heap.size+1) _ _ 4 r (by omega) hr _ g1.own g1.size (by simp [zad])).mono ?_;rintro e w2 ⟨v2,rfl,o,n⟩;have g2:=g1.next (by simp) o n;clear o n;have c2:=(g2.cell 1).trans (HC.out 1);simp only [List.getElem?_toArray,List.getElem?_cons_zero,List.getElem?_cons_succ] at c2;go_wp2_with fail
 refine (zbm (w.heap.size+1) _ _ 4 l (by omega) hl _ g2.own g2.size (by simp [zad])).mono ?_;rintro e w3 ⟨v3,rfl,o,n⟩;have g3:=g2.next (by simp) o n;clear o n;have c3:=(g3.cell 2).trans (HC.out 2);simp only [List.getElem?_toArray,List.getElem?_cons_zero,List.getElem?_cons_succ] at c3;go_wp2_with fail
 refine (zbm (w.heap.size+1) _ _ 4 g (by omega) hg _ g3.own g3.size (by simp [zad])).mono ?_;rintro e w4 ⟨v4,rfl,o,n⟩;have g4:=g3.next (by simp) o n;clear o n;go_wp2;go_ret;have M:=g4.made;simpa [vertB] using M
theorem flip_ {P:Program} {f:FuncId} {args:Array Value} {w:World} {v:Value} (h:Calls P f args w fun e w'=>e = .returned v∧w=w'):Calls P f args w fun e w'=>e = .returned v∧w'=w:=
 h.mono fun _ _ h=>⟨h.1,h.2.symm⟩
def Read2 (w:World) (T:Value) (e:Ending) (w':World):Prop:=e = .returned T∧Keeps w w'
theorem Bs.drewAlloc {w:World} {A:Option Addr} {l:List UInt8} (h:Bs w A l) (o:Obj):Bs (w.alloc o).drew A l:=h.keep (zK (zA w o) (zD _))
theorem zeT (A:Option Addr) (c:Nat) (l:List UInt8) (w:World) (hB:Bs w A l) (hl:l.length=20) (hc:20≤c) :
 Calls Tryz.prog 80 #[.slice A 20 c] w (Read2 w (.tuple #[.agg #[.int .u32 (numAt l 0 4), .int .u32 (numAt l 4 4), .int .u64 (numAt l 8 8), .int .u32 (numAt l 16 4)], .int .i64 0])):=by
 obtain ⟨ad,rfl⟩:=hB.some_ (by omega);have hW:=hB.drewAlloc (.cells #[.int .u32 0, .int .u32 0, .int .u64 0, .int .u32 0] 64);have hlen:∀ k s,k+s≤20→((l.drop k).take s).length=s:=fun k s h=>by rw [List.length_take,List.length_drop];omega
 have F0:=(hW.drop 0).take 4;rw [Addr.add_zero' ad] at F0;have G0:=zH F0;clear F0;have F4:=(hW.drop 4).take 4;rw [Addr.add_succ' ad 3] at F4;have G4:=zH F4;clear F4;have F8:=(hW.drop 8).take 8;rw [Addr.add_succ' ad 7] at F8;have G8:=zH F8;clear F8;have F16:=(hW.drop 16).take 4;rw [Addr.add_succ' ad 15] at F16;have G16:=zH F16;clear F16;have HL:=zH hlen;clear hB hW hlen;have b4:(4:Int)≤(c:Int):=by omega
 have b8:(8:Int)≤(c:Int):=by omega
 have m4:¬ c=4:=by omega
 have b16:(16:Int)≤(c:Int):=by omega
 have m8:¬ c=8:=by omega
 have b20:(20:Int)≤(c:Int):=by omega
 have m16:¬ c=16:=by omega
 go_enter Tryz.func80,Tryz.ntmps80;go_wp2
 refine wp_region_still_tail 13 (by kernel_rfl) (by kernel_rfl) ?_
 change wpStill _ _ (World.drew (w.alloc (.cells #[.int .u32 0, .int .u32 0, .int .u64 0, .int .u32 0] 64))) _ _ _
 simp only [List.take_succ_cons,List.take_zero,List.drop_succ_cons,List.drop_zero]
 still_step
 still_step
 still_call (flip_ (zbR _ _ _ _ G0.out (by rw [HL.out _ _ (by omega)];omega) _ (HL.out _ _ (by omega)).symm))
 still_step
 still_step
 still_call (flip_ (zbR _ _ _ _ G4.out (by rw [HL.out _ _ (by omega)];omega) _ (HL.out _ _ (by omega)).symm))
 still_step
 still_step
 still_call (flip_ (zgm _ _ _ _ G8.out (by rw [HL.out _ _ (by omega)];omega) _ (HL.out _ _ (by omega)).symm))
 still_step
 still_step
 still_call (flip_ (zbR _ _ _ _ G16.out (by rw [HL.out _ _ (by omega)];omega) _ (HL.out _ _ (by omega)).symm))
 repeat still_step
 refine wpStill_nil ?_
 change wpList _ _ _ _ _ (World.drew (w.alloc (.cells #[.int .u32 0, .int .u32 0, .int .u64 0, .int .u32 0] 64)))
 go_wp2
 go_returns;exact ⟨by simp [numAt],zK (zA _ _) (zD _)⟩
theorem zi0 (A:Option Addr) (c:Nat) (l:List UInt8) (w:World) (hB:Bs w A l) (hl:l.length=12) (hc:12≤c) :
 Calls Tryz.prog 42 #[.slice A 12 c] w (Read2 w (.tuple #[.agg #[.int .u32 (numAt l 0 4), .int .u32 (numAt l 4 4), .int .u32 (numAt l 8 4)], .int .i64 0])):=by
 obtain ⟨ad,rfl⟩:=hB.some_ (by omega);have hW:=hB.drewAlloc (.cells #[.int .u32 0, .int .u32 0, .int .u32 0] 55);have hlen:∀ k s,k+s≤12→((l.drop k).take s).length=s:=fun k s h=>by rw [List.length_take,List.length_drop];omega
 have F0:=(hW.drop 0).take 4;rw [Addr.add_zero' ad] at F0;have G0:=zH F0;clear F0;have F4:=(hW.drop 4).take 4;rw [Addr.add_succ' ad 3] at F4;have G4:=zH F4;clear F4;have F8:=(hW.drop 8).take 4;rw [Addr.add_succ' ad 7] at F8;have G8:=zH F8;clear F8;have HL:=zH hlen;clear hB hW hlen;have b4:(4:Int)≤(c:Int):=by omega
 have b8:(8:Int)≤(c:Int):=by omega
 have m4:¬ c=4:=by omega
 have b12:(12:Int)≤(c:Int):=by omega
 have m8:¬ c=8:=by omega
 go_enter Tryz.func42,Tryz.ntmps42;go_wp2
 refine wp_region_still_tail 10 (by kernel_rfl) (by kernel_rfl) ?_
 change wpStill _ _ (World.drew (w.alloc (.cells #[.int .u32 0, .int .u32 0, .int .u32 0] 55))) _ _ _
 simp only [List.take_succ_cons,List.take_zero,List.drop_succ_cons,List.drop_zero]
 still_step
 still_step
 still_call (flip_ (zbR _ _ _ _ G0.out (by rw [HL.out _ _ (by omega)];omega) _ (HL.out _ _ (by omega)).symm))
 still_step
 still_step
 still_call (flip_ (zbR _ _ _ _ G4.out (by rw [HL.out _ _ (by omega)];omega) _ (HL.out _ _ (by omega)).symm))
 still_step
 still_step
 still_call (flip_ (zbR _ _ _ _ G8.out (by rw [HL.out _ _ (by omega)];omega) _ (HL.out _ _ (by omega)).symm))
 repeat still_step
 refine wpStill_nil ?_
 change wpList _ _ _ _ _ (World.drew (w.alloc (.cells #[.int .u32 0, .int .u32 0, .int .u32 0] 55)))
 go_wp2
 go_returns;exact ⟨by simp [numAt],zK (zA _ _) (zD _)⟩
theorem zhM (s:Int) (w:World):Calls Tryz.prog 112 #[.int .i64 s] w fun e w'=>e = .returned (.bool (isSz s))∧w=w':=by
 by_cases h1:s=1
 ·subst h1;go_enter Tryz.func112,Tryz.ntmps112;go_wp2
  go_ret;exact ⟨rfl,rfl⟩
 ·have g1:(s == 1)=false:=beq_eq_false_iff_ne.2 h1;by_cases h2:s=2
  ·subst h2;clear h1 g1;go_enter Tryz.func112,Tryz.ntmps112;go_wp2
   go_ret;exact ⟨rfl,rfl⟩
  ·have g2:(s == 2)=false:=beq_eq_false_iff_ne.2 h2;by_cases h3:s=4
   ·subst h3;clear h1 h2 g1 g2;go_enter Tryz.func112,Tryz.ntmps112;go_wp2
    go_ret;exact ⟨rfl,rfl⟩
   ·have g3:(s == 4)=false:=beq_eq_false_iff_ne.2 h3;have e:isSz s=(s == 8):=by
     unfold isSz;by_cases h4:s=8
     ·subst h4;rfl
     ·rw [beq_eq_false_iff_ne.2 h4];exact decide_eq_false (by omega)
    rw [e];clear h1 h2 h3 e;go_enter Tryz.func112,Tryz.ntmps112;go_wp2
    go_ret;exact ⟨rfl,rfl⟩
theorem zgo (A:Option Addr) (n c:Nat) (l:List UInt8) (x:Nat) (s:Int) (w:World) (hB:Bs w A l) (hnl:n=l.length) (hx:x<18446744073709551616) (hn:n≤140737488354000) :
 Calls Tryz.prog 86 #[.slice A n c, .int .u64 x, .int .i64 s] w (New w (l++if isSz s then nb s.toNat x else [])):=by
 obtain ⟨i0,hi,hz0,hz1,hz2⟩:=info_parts zbB;have hn':=hn;rw [hnl] at hn';have C:=zH (ziF A n c l w hB hnl (by unfold maxLen;omega));have HN:=zH hnl;clear hnl hB;cases hs:isSz s with
 | false=>
  have e0:(l++if false=true then nb s.toNat x else [])=l:=by simp
  rw [e0];by_cases h0:0<s
  all_goals
   go_enter Tryz.func86,Tryz.ntmps86;go_wp2_with (go_at_call 111;refine C.out.mono ?_;rintro e w1 ⟨v1,rfl,o1,k1⟩)
   refine wp_loop_rounds 1 ?_;rw [rounds_succ];go_wp2_with (go_at_call 112;refine (zhM _ _).mono ?_;rintro e w' ⟨rfl,rfl⟩)
   go_ret;exact ⟨_,rfl,o1,k1⟩
 | true=>
  have hsz:=zdz hs;obtain ⟨k0,rfl⟩:∃ k:Nat,s=(k:Int):=⟨s.toNat,by omega⟩
  have hk0:k0≤8:=by omega
  have e0:(l++if true=true then nb (k0:Int).toNat x else [])=l++nb k0 x:=by simp
  rw [e0];clear e0 hsz;go_enter Tryz.func86,Tryz.ntmps86;go_wp2_with (go_at_call 111;refine C.out.mono ?_;rintro e w1 ⟨v1,rfl,o1,k1⟩)
  go_loopw [1,7,8] (fun xv v i wr=>∃ k:Nat,k≤k0∧i = .int .i64 k∧xv = .int .u64 ((x/256^k:Nat):Int)∧Own wr w.heap.size 5 1 v (l.length+k) (cel (l++nb k x))∧Keeps w wr) (fun _ _ i _=>k0-(intOf i).toNat)
  case atStart=>exact ⟨0,Nat.zero_le _,rfl,by simp,by simpa [nb] using o1,k1⟩
  case round=>
   obtain ⟨k,hk,rfl,rfl,hr,hw⟩:=hrel;by_cases hlt:k<k0
   ·have hxk:x/256^k<18446744073709551616:=Nat.lt_of_le_of_lt (Nat.div_le_self _ _) hx;have hdd:x/256^(k+1)=x/256^k/256:=(by rw [Nat.pow_succ,Nat.div_div_eq_div_mul]);have hnb:cel (l++nb k x)++[.int .u8 ((UInt8.ofNat (x/256^k%256)).toNat:Int)]=cel (l++nb (k+1) x):=by
     rw [zhe,←List.append_assoc,zax (l++nb k x)];rfl
    have hby:(((x/256^k:Nat):Int)%256)=((UInt8.ofNat (x/256^k%256)).toNat:Int):=(by simp);have HD:=zH hdd;have HNB:=zH hnb;have HBY:=zH hby
    clear hdd hnb hby
    generalize x/256^k=y at *;have hS:=hw.size;have hL:l.length+k≤140737488354010:=by omega
    go_wp2_with (first
     | (go_at_call 112;refine (zhM _ _).mono ?_;rintro e w' ⟨rfl,rfl⟩)
     | (at_builtin;refine zaj _ rfl _ _ 39 rfl w.heap.size 5 i0 (.int .u8 0) 1 1 Tryz.underlying39 hi hz0 hz1 hz2 rfl (by decide) _ _ _ rfl (hr.keep (zA _ _)) (wr.heap.size+1) _ 1 1 [.int .u8 ((y:Int)%256)] rfl rfl (At.new _ _ _ _ (by omega)) (fun u hu=>by simp at hu;subst hu;rfl) (by unfold maxLen;omega) (by omega) (by simp;omega) ?_;intro v' w2 hown' hgrow hblk))
    have hown2:=hown';rw [HBY.out,HNB.out,Nat.add_assoc] at hown2;have hk2:Keeps w w2:=Below.grown (zK hw (zA wr _)) hgrow (by simp;omega) (fun g hg=>(hr.lt g hg).1);go_roundw
    case rel=>exact ⟨k+1,by omega,by go_num,by rw [HD.out];go_num,hown2,hk2⟩
    case measure=>simp [intOf];omega
   ·obtain rfl:k=k0:=(by omega);generalize x/256^k=y at *;go_wp2
    go_ret;exact ⟨_,rfl,by rw [List.length_append,zad];exact hr,hw⟩
theorem zmL {x:Nat} (h:x%2=1):st x=(x/2) ^^^ 2197175160:=by unfold st;rw [if_pos h];rfl
theorem zmM {x:Nat} (h:¬ x%2=1):st x=x/2:=by unfold st;rw [if_neg h,Nat.xor_zero]
theorem ziG (s:Nat) (hs:s<4294967296) (A:Option Addr) (n c:Nat) (l:List UInt8) (w:World) (hB:Bs w A l) (hn:n=l.length) (hlen:n≤9223372036854775000) :
 Calls Tryz.prog 127 #[.int .u32 s, .slice A n c] w fun e w'=>e = .returned (.int .u32 (extC s l))∧w=w':=by
 subst hn;have HB:=zH hB;clear hB;go_enter Tryz.func127,Tryz.ntmps127;go_wp2
 go_loop [5,6] (fun x i=>∃ k:Nat,k≤l.length∧i = .int .i64 k∧x = .int .u32 (runC (s ^^^ 4294967295) (l.take k))) (fun _ i=>l.length-(intOf i).toNat)
 case atStart=>exact ⟨0,Nat.zero_le _,rfl,congrArg (Value.int .u32) (u32_xor_nat s 4294967295 hs (by decide))⟩
 case round=>
  obtain ⟨k,hk,rfl,rfl⟩:=hrel;have hR:=zhg (not_lt hs) (l.take k);by_cases hlt:k<l.length
  ·obtain ⟨ad,rfl,hc⟩:=HB.out.at_ hlt;have hstep:runC (s ^^^ 4294967295) (l.take (k+1))=sts 8 (runC (s ^^^ 4294967295) (l.take k) ^^^ (l.getD k 0).toNat):=by
    rw [List.take_succ_eq_append_getElem hlt,zfA,zfm l hlt];rfl
   have hY:runC (s ^^^ 4294967295) (l.take k) ^^^ (l.getD k 0).toNat<4294967296:=Nat.xor_lt_two_pow (n:=32) hR (zkV _);have HS:=zH hstep;have hb:=(l.getD k 0).toNat_lt;clear hstep;generalize runC (s ^^^ 4294967295) (l.take k)=X at *;generalize (l.getD k 0).toNat=y at *;have hxy:=u32_xor_nat X y hR (by omega);go_wp2
   go_loop [5,7] (fun x i=>∃ j:Nat,j≤8∧i = .int .i64 j∧x = .int .u32 (sts j (X ^^^ y))) (fun _ i=>8-(intOf i).toNat)
   case atStart=>exact ⟨0,by omega,rfl,rfl⟩
   case round=>
    obtain ⟨j,hj,rfl,rfl⟩:=hrel;have hZ:=zdk j hY;have hZs:=zeh j (X ^^^ y);have hZ8:j=8→sts j (X ^^^ y)=sts 8 (X ^^^ y):=fun e=>by rw [e]
    have H8:=zH hZ8;have HZ:=zH hZs;clear hZ8 hZs;generalize sts j (X ^^^ y)=Z at *;by_cases hj8:j<8
    ·by_cases ho:Z%2=1
     ·have ho':(Z:Int)%2=1:=(by omega);have hx2:=u32_xor_nat (Z/2) 2197175160 (by omega) (by omega);rw [zmL ho] at HZ;clear ho;go_wp2
      go_round
      case rel=>
       refine ⟨j+1,by omega,by go_num,?_⟩;rw [HZ.out];exact congrArg (Value.int .u32) hx2
      case measure=>simp [intOf];omega
     ·have ho':(Z:Int)%2=0:=(by omega);rw [zmM ho] at HZ;clear ho;go_wp2
      go_round
      case rel=>
       refine ⟨j+1,by omega,by go_num,?_⟩;rw [HZ.out];rfl
      case measure=>simp [intOf];omega
    ·go_wp2
     go_round
     case rel=>
      obtain rfl:j=8:=(by omega);exact ⟨k+1,by omega,by go_num,by rw [HS.out,←H8.out rfl]⟩
     case measure=>simp [intOf];omega
  ·go_wp2
   go_ret;have e:=u32_xor_nat _ 4294967295 hR (by decide);refine ⟨?_,rfl⟩;obtain rfl:k=l.length:=by omega
   rw [List.take_length] at e;simp only [List.take_length];exact congrArg (fun z=>Ending.returned (Value.int .u32 z)) e
theorem zgp (A:Option Addr) (n c:Nat) (l:List UInt8) (w:World) (hB:Bs w A l) (hn:n=l.length) (hlen:n≤9223372036854775000) :
 Calls Tryz.prog 99 #[.slice A n c] w fun e w'=>e = .returned (.int .u32 (extC 0 l))∧w=w':=by
 have E:=zH (ziG 0 (by decide) A n c l w hB hn hlen);clear hB hn;go_enter Tryz.func99,Tryz.ntmps99;go_wp2_with (go_at_call 127;refine E.out.mono ?_;rintro e w' ⟨rfl,rfl⟩)
 go_ret;exact ⟨rfl,rfl⟩
theorem zb8 (A:Option Addr) (n c:Nat) (l:List UInt8) (x k:Nat) (s:Int) (hks:s=(k:Int)) (w:World) (hB:Bs w A l) (hnl:n=l.length) (hx:x<18446744073709551616) (hn:n≤140737488354000) (hk:isSz (k:Int)=true) :
 Calls Tryz.prog 86 #[.slice A n c, .int .u64 x, .int .i64 s] w (New w (l++nb k x)):=by
 subst hks;have h:=zgo A n c l x k w hB hnl hx hn;rw [if_pos hk,Int.toNat_natCast] at h;exact h
theorem zfB (t h x m:Nat) (ht:t<4294967296) (hh:h<4294967296) (hx:x<18446744073709551616) (hm:m<4294967296) (w:World) :
 Calls Tryz.prog 50 #[.agg #[.int .u32 t, .int .u32 h, .int .u64 x, .int .u32 m]] w (New w (edgeB t h x m)):=by
 have C:∀ j:Nat,(w.alloc (.cells #[.int .u32 t, .int .u32 h, .int .u64 x, .int .u32 m] 64)).cell? ⟨w.heap.size,j,none⟩=(#[.int .u32 t, .int .u32 h, .int .u64 x, .int .u32 m]:Array Value)[j]?:=fun j=>cell_of_row _ _ j _ _ _ (heap_alloc_new w _)
 have HC:=zH C;have k0:=zA w (.cells #[.int .u32 t, .int .u32 h, .int .u64 x, .int .u32 m] 64);have K0:=zab (w.alloc (.cells #[.int .u32 t, .int .u32 h, .int .u64 x, .int .u32 m] 64));have B0:Bs (w.alloc (.cells #[.int .u32 t, .int .u32 h, .int .u64 x, .int .u32 m] 64)) none []:=Bs.nil _ _;clear C;have gt:t<18446744073709551616:=by omega
 have gh:h<18446744073709551616:=by omega
 have gm:m<18446744073709551616:=by omega
 go_enter Tryz.func50,Tryz.ntmps50;go_wp2_with fail
 refine (zb8 _ _ _ _ t 4 4 rfl _ B0 (by simp [zad]) gt (by simp [zad]) rfl).mono ?_;rintro e w1 ⟨v1,rfl,o1,q1⟩;have K1:=zK K0 q1;obtain ⟨A1,c1,rfl,-,-,-,-⟩:=o1.form;have B1:Bs w1 A1 _:=Own.at_ o1;try simp only [List.length_append,zad,List.length_nil,Nat.zero_add,Nat.reduceAdd]
 clear o1 q1 B0 K0;have d1:=K1.cellOf (HC.out 1);try simp only [List.getElem?_toArray,List.getElem?_cons_zero,List.getElem?_cons_succ] at d1
 go_wp2_with fail
 refine (zb8 _ _ _ _ h 4 4 rfl _ B1 (by simp [zad]) gh (by simp [zad]) rfl).mono ?_;rintro e w2 ⟨v2,rfl,o2,q2⟩;have K2:=zK K1 q2;obtain ⟨A2,c2,rfl,-,-,-,-⟩:=o2.form;have B2:Bs w2 A2 _:=Own.at_ o2;try simp only [List.length_append,zad,List.length_nil,Nat.zero_add,Nat.reduceAdd]
 clear o2 q2 B1 K1;have d2:=K2.cellOf (HC.out 2);try simp only [List.getElem?_toArray,List.getElem?_cons_zero,List.getElem?_cons_succ] at d2
 go_wp2_with fail
 refine (zb8 _ _ _ _ x 8 8 rfl _ B2 (by simp [zad]) hx (by simp [zad]) rfl).mono ?_;rintro e w3 ⟨v3,rfl,o3,q3⟩;have K3:=zK K2 q3;obtain ⟨A3,c3,rfl,-,-,-,-⟩:=o3.form;have B3:Bs w3 A3 _:=Own.at_ o3;try simp only [List.length_append,zad,List.length_nil,Nat.zero_add,Nat.reduceAdd]
 clear o3 q3 B2 K2;have d3:=K3.cellOf (HC.out 3);try simp only [List.getElem?_toArray,List.getElem?_cons_zero,List.getElem?_cons_succ] at d3
 go_wp2_with fail
 refine (zb8 _ _ _ _ m 4 4 rfl _ B3 (by simp [zad]) gm (by simp [zad]) rfl).mono ?_;rintro e w4 ⟨v4,rfl,o4,q4⟩;have K4:=zK K3 q4;go_wp2;go_ret;refine ⟨_,rfl,?_,zK k0 K4⟩;have o:=o4.base_le (base':=w.heap.size) (Nat.le_trans k0.size K3.size);simpa [edgeB] using o
theorem zki (r l g:Nat) (hr:r<4294967296) (hl:l<4294967296) (hg:g<4294967296) (w:World) :
 Calls Tryz.prog 65 #[.agg #[.int .u32 r, .int .u32 l, .int .u32 g]] w (New w (vertB r l g)):=by
 have C:∀ j:Nat,(w.alloc (.cells #[.int .u32 r, .int .u32 l, .int .u32 g] 55)).cell? ⟨w.heap.size,j,none⟩=(#[.int .u32 r, .int .u32 l, .int .u32 g]:Array Value)[j]?:=fun j=>cell_of_row _ _ j _ _ _ (heap_alloc_new w _)
 have HC:=zH C;have k0:=zA w (.cells #[.int .u32 r, .int .u32 l, .int .u32 g] 55);have K0:=zab (w.alloc (.cells #[.int .u32 r, .int .u32 l, .int .u32 g] 55));have B0:Bs (w.alloc (.cells #[.int .u32 r, .int .u32 l, .int .u32 g] 55)) none []:=Bs.nil _ _;clear C;have gr:r<18446744073709551616:=by omega
 have gl:l<18446744073709551616:=by omega
 have gg:g<18446744073709551616:=by omega
 go_enter Tryz.func65,Tryz.ntmps65;go_wp2_with fail
 refine (zb8 _ _ _ _ r 4 4 rfl _ B0 (by simp [zad]) gr (by simp [zad]) rfl).mono ?_;rintro e w1 ⟨v1,rfl,o1,q1⟩;have K1:=zK K0 q1;obtain ⟨A1,c1,rfl,-,-,-,-⟩:=o1.form;have B1:Bs w1 A1 _:=Own.at_ o1;try simp only [List.length_append,zad,List.length_nil,Nat.zero_add,Nat.reduceAdd]
 clear o1 q1 B0 K0;have d1:=K1.cellOf (HC.out 1);try simp only [List.getElem?_toArray,List.getElem?_cons_zero,List.getElem?_cons_succ] at d1
 go_wp2_with fail
 refine (zb8 _ _ _ _ l 4 4 rfl _ B1 (by simp [zad]) gl (by simp [zad]) rfl).mono ?_;rintro e w2 ⟨v2,rfl,o2,q2⟩;have K2:=zK K1 q2;obtain ⟨A2,c2,rfl,-,-,-,-⟩:=o2.form;have B2:Bs w2 A2 _:=Own.at_ o2;try simp only [List.length_append,zad,List.length_nil,Nat.zero_add,Nat.reduceAdd]
 clear o2 q2 B1 K1;have d2:=K2.cellOf (HC.out 2);try simp only [List.getElem?_toArray,List.getElem?_cons_zero,List.getElem?_cons_succ] at d2
 go_wp2_with fail
 refine (zb8 _ _ _ _ g 4 4 rfl _ B2 (by simp [zad]) gg (by simp [zad]) rfl).mono ?_;rintro e w3 ⟨v3,rfl,o3,q3⟩;have K3:=zK K2 q3;go_wp2;go_ret;refine ⟨_,rfl,?_,zK k0 K3⟩;have o:=o3.base_le (base':=w.heap.size) (Nat.le_trans k0.size K2.size);simpa [vertB] using o
end Go.Proofs.YtjpldnjldindkaaGreatDoor
