/- The contracts of package octet: rows of numbers, written. -/
import Derived.Test.YtjmkagakdhhigaaGreatDoorQCrcMath
import Derived.Test.YtjmkagakdhhigaaGreatDoorQRefA
import Derived.Test.YtjmkagakdhhigaaGreatDoorProg
import Derived.Laws.BitsAllLaws
set_option linter.unusedVariables false
set_option linter.unusedSimpArgs false
set_option maxRecDepth 100000
namespace Go.Proofs.YtjmkagakdhhigaaGreatDoor
open Go.RowKit
def edgeB (t h x m:Nat):List UInt8:=nb 4 t++nb 4 h++nb 8 x++nb 4 m
def vertB (r l g:Nat):List UInt8:=nb 4 r++nb 4 l++nb 4 g
def labelB (v h n d:Nat):List UInt8:=nb 4 v++nb 4 h++nb 4 n++nb 8 d
theorem vertB_length (r l g:Nat):(vertB r l g).length=12:=by simp [vertB,nb_length]
theorem numAt_mid (a b c:List UInt8) (k s:Nat) (hk:k=a.length) (hs:s=b.length):numAt (a++(b++c)) k s=le b:=by
 subst hk;subst hs
 simp [numAt]
theorem le_nb4 (x:Nat) (h:x<4294967296):le (nb 4 x)=x:=by rw [le_nb];exact Nat.mod_eq_of_lt (by omega)
theorem le_nb8 (x:Nat) (h:x<18446744073709551616):le (nb 8 x)=x:=by rw [le_nb];exact Nat.mod_eq_of_lt (by omega)
theorem edgeB_0 (t h x m:Nat) (ht:t<4294967296):numAt (edgeB t h x m) 0 4=t:=by
 rw [edgeB,List.append_assoc,List.append_assoc,←List.nil_append (nb 4 t++_),numAt_mid [] _ _ 0 4 rfl (nb_length _ _).symm,le_nb4 t ht]
theorem edgeB_4 (t h x m:Nat) (ht:h<4294967296):numAt (edgeB t h x m) 4 4=h:=by
 rw [edgeB,List.append_assoc,List.append_assoc,numAt_mid _ _ _ 4 4 (nb_length _ _).symm (nb_length _ _).symm,le_nb4 h ht]
theorem edgeB_8 (t h x m:Nat) (ht:x<18446744073709551616):numAt (edgeB t h x m) 8 8=x:=by
 rw [edgeB,List.append_assoc,numAt_mid _ _ _ 8 8 (by simp [nb_length]) (nb_length _ _).symm,le_nb8 x ht]
theorem edgeB_16 (t h x m:Nat) (ht:m<4294967296):numAt (edgeB t h x m) 16 4=m:=by
 rw [edgeB,←List.append_nil (nb 4 m),numAt_mid _ _ _ 16 4 (by simp [nb_length]) (nb_length _ _).symm,le_nb4 m ht]
structure Going (w:World) (W:World) (l:List UInt8) (v:Value) (wr:World):Prop where
 own:Own wr (w.heap.size+1) 5 1 v l.length (cel l)
 kept:Below (w.heap.size+1) W wr
theorem Going.start {w:World} {cs:Array Value} {e:TypeId} {v:Value} {w1:World} {row:Option Nat} (h:w1.ownsRow (w.heap.size+1) 5 1 v 0 []) (hg:(w.alloc (.cells cs e)).grownBy w1 none) :
 Going w (w.alloc (.cells cs e)) [] v w1:=⟨Own.of_row h,keeps_grown hg _ (by simp) (fun _ h=>by cases h)⟩
theorem Going.next {w W wr w':World} {l:List UInt8} {v v':Value} {s x:Nat} (h:Going w W l v wr) (hW:w.heap.size+1≤W.heap.size) (o:Own w' (w.heap.size+1) 5 1 v' (l.length+s) (cel (l++nb s x))) (n:Onto wr v.ownBlock w' v'):Going w W (l++nb s x) v' w':=
 ⟨by rw [List.length_append,nb_length];exact o,Below.grown h.kept n.1 (Nat.le_trans hW h.kept.size) (fun g hg=>(h.own.lt g hg).1)⟩
theorem Going.cell {w W wr:World} {l:List UInt8} {v:Value} (h:Going w W l v wr) (j:Nat):wr.cell? ⟨w.heap.size,j,none⟩=W.cell? ⟨w.heap.size,j,none⟩:=h.kept.cell (p:=⟨w.heap.size,j,none⟩) (by simp)
theorem Going.made {w:World} {cs:Array Value} {e:TypeId} {l:List UInt8} {v:Value} {wr:World} (h:Going w (w.alloc (.cells cs e)) l v wr):Made w l (.returned v) wr:=
 ⟨v,rfl,h.own.base_le (by omega),zK (zA w (.cells cs e)) (h.kept.mono (by simp))⟩
theorem Going.size {w:World} {cs:Array Value} {e:TypeId} {l:List UInt8} {v:Value} {wr:World} (h:Going w (w.alloc (.cells cs e)) l v wr):w.heap.size+1≤wr.heap.size:=by have:=h.kept.size;simpa using this
set_option maxHeartbeats 400000 in
theorem edge_any (t h x m:Nat) (ht:t<4294967296) (hh:h<4294967296) (hx:x<18446744073709551616) (hm:m<4294967296) (w:World) :
 Calls Tryz.prog 174 #[.agg #[.int .u32 t, .int .u32 h, .int .u64 x, .int .u32 m]] w (Made w (edgeB t h x m)):=by
 obtain ⟨i0,hi,hz0,hz1,hz2⟩:=info_parts info_u8
 have C:∀ j:Nat,(w.alloc (.cells #[.int .u32 t, .int .u32 h, .int .u64 x, .int .u32 m] 42)).cell? ⟨w.heap.size,j,none⟩=(#[.int .u32 t, .int .u32 h, .int .u64 x, .int .u32 m]:Array Value)[j]?:=fun j=>cell_of_row _ _ j _ _ _ (heap_alloc_new w _)
 have HC:=zH C
 clear C
 go_enter Tryz.func174,Tryz.ntmps174
 go_wp2_with (at_make;refine wpList_make_own _ rfl _ _ 36 rfl (w.heap.size+1) 5 i0 (.int .u8 0) 1 Tryz.underlying36 hi hz0 hz1 .i64 .i64 _ 20 rfl rfl (by omega) (by rw [hz2];omega) (by unfold maxLen;omega) (by simp) ?_;intro w1 hown1 hg1;have g1:=Going.start (row:=none) (by simpa using hown1) hg1;have c1:=(g1.cell 0).trans (HC.out 0);simp only [List.getElem?_toArray,List.getElem?_cons_zero,List.getElem?_cons_succ] at c1)
 refine (append32_any (w.heap.size+1) _ _ 4 t (by omega) ht _ g1.own g1.size (by simp [nb_length])).mono ?_
 rintro e w2 ⟨v2,rfl,o,n⟩
 have g2:=g1.next (by simp) o n
 clear o n
 have c2:=(g2.cell 1).trans (HC.out 1)
 simp only [List.getElem?_toArray,List.getElem?_cons_zero,List.getElem?_cons_succ] at c2
 go_wp2_with fail
 refine (append32_any (w.heap.size+1) _ _ 4 h (by omega) hh _ g2.own g2.size (by simp [nb_length])).mono ?_
 rintro e w3 ⟨v3,rfl,o,n⟩
 have g3:=g2.next (by simp) o n
 clear o n
 have c3:=(g3.cell 2).trans (HC.out 2)
 simp only [List.getElem?_toArray,List.getElem?_cons_zero,List.getElem?_cons_succ] at c3
 go_wp2_with fail
 refine (append64_any (w.heap.size+1) _ _ 8 x (by omega) hx _ g3.own g3.size (by simp [nb_length])).mono ?_
 rintro e w4 ⟨v4,rfl,o,n⟩
 have g4:=g3.next (by simp) o n
 clear o n
 have c4:=(g4.cell 3).trans (HC.out 3)
 simp only [List.getElem?_toArray,List.getElem?_cons_zero,List.getElem?_cons_succ] at c4
 go_wp2_with fail
 refine (append32_any (w.heap.size+1) _ _ 4 m (by omega) hm _ g4.own g4.size (by simp [nb_length])).mono ?_
 rintro e w5 ⟨v5,rfl,o,n⟩
 have g5:=g4.next (by simp) o n
 clear o n
 go_wp2_with fail
 go_ret
 have M:=g5.made
 simpa [edgeB] using M
set_option maxHeartbeats 400000 in
theorem vert_any (r l g:Nat) (hr:r<4294967296) (hl:l<4294967296) (hg:g<4294967296) (w:World) :
 Calls Tryz.prog 156 #[.agg #[.int .u32 r, .int .u32 l, .int .u32 g]] w (Made w (vertB r l g)):=by
 obtain ⟨i0,hi,hz0,hz1,hz2⟩:=info_parts info_u8
 have C:∀ j:Nat,(w.alloc (.cells #[.int .u32 r, .int .u32 l, .int .u32 g] 74)).cell? ⟨w.heap.size,j,none⟩=(#[.int .u32 r, .int .u32 l, .int .u32 g]:Array Value)[j]?:=fun j=>cell_of_row _ _ j _ _ _ (heap_alloc_new w _)
 have HC:=zH C
 clear C
 go_enter Tryz.func156,Tryz.ntmps156
 go_wp2_with (at_make;refine wpList_make_own _ rfl _ _ 36 rfl (w.heap.size+1) 5 i0 (.int .u8 0) 1 Tryz.underlying36 hi hz0 hz1 .i64 .i64 _ 12 rfl rfl (by omega) (by rw [hz2];omega) (by unfold maxLen;omega) (by simp) ?_;intro w1 hown1 hg1;have g1:=Going.start (row:=none) (by simpa using hown1) hg1;have c1:=(g1.cell 0).trans (HC.out 0);simp only [List.getElem?_toArray,List.getElem?_cons_zero,List.getElem?_cons_succ] at c1)
 refine (append32_any (w.heap.size+1) _ _ 4 r (by omega) hr _ g1.own g1.size (by simp [nb_length])).mono ?_
 rintro e w2 ⟨v2,rfl,o,n⟩
 have g2:=g1.next (by simp) o n
 clear o n
 have c2:=(g2.cell 1).trans (HC.out 1)
 simp only [List.getElem?_toArray,List.getElem?_cons_zero,List.getElem?_cons_succ] at c2
 go_wp2_with fail
 refine (append32_any (w.heap.size+1) _ _ 4 l (by omega) hl _ g2.own g2.size (by simp [nb_length])).mono ?_
 rintro e w3 ⟨v3,rfl,o,n⟩
 have g3:=g2.next (by simp) o n
 clear o n
 have c3:=(g3.cell 2).trans (HC.out 2)
 simp only [List.getElem?_toArray,List.getElem?_cons_zero,List.getElem?_cons_succ] at c3
 go_wp2_with fail
 refine (append32_any (w.heap.size+1) _ _ 4 g (by omega) hg _ g3.own g3.size (by simp [nb_length])).mono ?_
 rintro e w4 ⟨v4,rfl,o,n⟩
 have g4:=g3.next (by simp) o n
 clear o n
 go_wp2_with fail
 go_ret
 have M:=g4.made
 simpa [vertB] using M
theorem flip_ {P:Program} {f:FuncId} {args:Array Value} {w:World} {v:Value} (h:Calls P f args w fun e w'=>e = .returned v∧w=w'):Calls P f args w fun e w'=>e = .returned v∧w'=w:=
 h.mono fun _ _ h=>⟨h.1,h.2.symm⟩
def Read2 (w:World) (T:Value) (e:Ending) (w':World):Prop:=e = .returned T∧Keeps w w'
theorem Bs.drewAlloc {w:World} {A:Option Addr} {l:List UInt8} (h:Bs w A l) (o:Obj):Bs (w.alloc o).drew A l:=h.keep (zK (zA w o) (zD _))
set_option maxHeartbeats 800000 in
theorem readEdge_yes (A:Option Addr) (c:Nat) (l:List UInt8) (w:World) (hB:Bs w A l) (hl:l.length=20) (hc:20≤c) :
 Calls Tryz.prog 16 #[.slice A 20 c] w (Read2 w (.tuple #[.agg #[.int .u32 (numAt l 0 4), .int .u32 (numAt l 4 4), .int .u64 (numAt l 8 8), .int .u32 (numAt l 16 4)], .int .i64 0])):=by
 obtain ⟨ad,rfl⟩:=hB.some_ (by omega)
 have hW:=hB.drewAlloc (.cells #[.int .u32 0, .int .u32 0, .int .u64 0, .int .u32 0] 42)
 have hlen:∀ k s,k+s≤20→((l.drop k).take s).length=s:=fun k s h=>by rw [List.length_take,List.length_drop];omega
 have F0:=(hW.drop 0).take 4
 rw [Addr.add_zero' ad] at F0
 have G0:=zH F0
 clear F0
 have F4:=(hW.drop 4).take 4
 rw [Addr.add_succ' ad 3] at F4
 have G4:=zH F4
 clear F4
 have F8:=(hW.drop 8).take 8
 rw [Addr.add_succ' ad 7] at F8
 have G8:=zH F8
 clear F8
 have F16:=(hW.drop 16).take 4
 rw [Addr.add_succ' ad 15] at F16
 have G16:=zH F16
 clear F16
 have HL:=zH hlen
 clear hB hW hlen
 have b4:(4:Int)≤(c:Int):=by omega
 have b8:(8:Int)≤(c:Int):=by omega
 have m4:¬ c=4:=by omega
 have b16:(16:Int)≤(c:Int):=by omega
 have m8:¬ c=8:=by omega
 have b20:(20:Int)≤(c:Int):=by omega
 have m16:¬ c=16:=by omega
 go_enter Tryz.func16,Tryz.ntmps16
 go_wp2
 refine wp_region_still_tail 13 (by kernel_rfl) (by kernel_rfl) ?_
 change wpStill _ _ (World.drew (w.alloc (.cells #[.int .u32 0, .int .u32 0, .int .u64 0, .int .u32 0] 42))) _ _ _
 simp only [List.take_succ_cons,List.take_zero,List.drop_succ_cons,List.drop_zero]
 still_step
 still_step
 still_call (flip_ (join32_any _ _ _ _ G0.out (by rw [HL.out _ _ (by omega)];omega) _ (HL.out _ _ (by omega)).symm))
 still_step
 still_step
 still_call (flip_ (join32_any _ _ _ _ G4.out (by rw [HL.out _ _ (by omega)];omega) _ (HL.out _ _ (by omega)).symm))
 still_step
 still_step
 still_call (flip_ (join64_any _ _ _ _ G8.out (by rw [HL.out _ _ (by omega)];omega) _ (HL.out _ _ (by omega)).symm))
 still_step
 still_step
 still_call (flip_ (join32_any _ _ _ _ G16.out (by rw [HL.out _ _ (by omega)];omega) _ (HL.out _ _ (by omega)).symm))
 repeat still_step
 refine wpStill_nil ?_
 change wpList _ _ _ _ _ (World.drew (w.alloc (.cells #[.int .u32 0, .int .u32 0, .int .u64 0, .int .u32 0] 42)))
 go_wp2
 go_returns
 exact ⟨by simp [numAt],zK (zA _ _) (zD _)⟩
set_option maxHeartbeats 400000 in
theorem sized_any (s:Int) (w:World):Calls Tryz.prog 125 #[.int .i64 s] w fun e w'=>e = .returned (.bool (isSz s))∧w=w':=by
 by_cases h1:s=1
 · subst h1
   go_enter Tryz.func125,Tryz.ntmps125
   go_wp2
   go_ret
   exact ⟨rfl,rfl⟩
 · have g1:(s == 1)=false:=beq_eq_false_iff_ne.2 h1
   by_cases h2:s=2
   · subst h2
     clear h1 g1
     go_enter Tryz.func125,Tryz.ntmps125
     go_wp2
     go_ret
     exact ⟨rfl,rfl⟩
   · have g2:(s == 2)=false:=beq_eq_false_iff_ne.2 h2
     by_cases h3:s=4
     · subst h3
       clear h1 h2 g1 g2
       go_enter Tryz.func125,Tryz.ntmps125
       go_wp2
       go_ret
       exact ⟨rfl,rfl⟩
     · have g3:(s == 4)=false:=beq_eq_false_iff_ne.2 h3
       have e:isSz s=(s == 8):=by
        unfold isSz
        by_cases h4:s=8
        · subst h4;rfl
        · rw [beq_eq_false_iff_ne.2 h4];exact decide_eq_false (by omega)
       rw [e]
       clear h1 h2 h3 e
       go_enter Tryz.func125,Tryz.ntmps125
       go_wp2
       go_ret
       exact ⟨rfl,rfl⟩
set_option maxHeartbeats 800000 in
theorem refPut_any (A:Option Addr) (n c:Nat) (l:List UInt8) (x:Nat) (s:Int) (w:World) (hB:Bs w A l) (hnl:n=l.length) (hx:x<18446744073709551616) (hn:n≤140737488354000) :
 Calls Tryz.prog 88 #[.slice A n c, .int .u64 x, .int .i64 s] w (New w (l++if isSz s then nb s.toNat x else [])):=by
 obtain ⟨i0,hi,hz0,hz1,hz2⟩:=info_parts info_u8
 have hn':=hn
 rw [hnl] at hn'
 have C:=zH (copyBytes_any A n c l w hB hnl (by unfold maxLen;omega))
 have HN:=zH hnl
 clear hnl hB
 cases hs:isSz s with
 | false=>
  have e0:(l++if false=true then nb s.toNat x else [])=l:=by simp
  rw [e0]
  by_cases h0:0<s
  all_goals
   go_enter Tryz.func88,Tryz.ntmps88
   go_wp2_with (go_at_call 124;refine C.out.mono ?_;rintro e w1 ⟨v1,rfl,o1,k1⟩)
   refine wp_loop_rounds 1 ?_
   rw [rounds_succ]
   go_wp2_with (go_at_call 125;refine (sized_any _ _).mono ?_;rintro e w' ⟨rfl,rfl⟩)
   go_ret
   exact ⟨_,rfl,o1,k1⟩
 | true=>
  have hsz:=isSz_true hs
  obtain ⟨k0,rfl⟩:∃ k:Nat,s=(k:Int):=⟨s.toNat,by omega⟩
  have hk0:k0≤8:=by omega
  have e0:(l++if true=true then nb (k0:Int).toNat x else [])=l++nb k0 x:=by simp
  rw [e0]
  clear e0 hsz
  go_enter Tryz.func88,Tryz.ntmps88
  go_wp2_with (go_at_call 124;refine C.out.mono ?_;rintro e w1 ⟨v1,rfl,o1,k1⟩)
  go_loopw [1,7,8] (fun xv v i wr=>∃ k:Nat,k≤k0∧i = .int .i64 k∧xv = .int .u64 ((x/256^k:Nat):Int)∧Own wr w.heap.size 5 1 v (l.length+k) (cel (l++nb k x))∧Keeps w wr) (fun _ _ i _=>k0-(intOf i).toNat)
  case atStart=>exact ⟨0,Nat.zero_le _,rfl,by simp,by simpa [nb] using o1,k1⟩
  case round=>
   obtain ⟨k,hk,rfl,rfl,hr,hw⟩:=hrel
   by_cases hlt:k<k0
   · have hxk:x/256^k<18446744073709551616:=Nat.lt_of_le_of_lt (Nat.div_le_self _ _) hx
     have hdd:x/256^(k+1)=x/256^k/256:=by rw [Nat.pow_succ,Nat.div_div_eq_div_mul]
     have hnb:cel (l++nb k x)++[.int .u8 ((UInt8.ofNat (x/256^k%256)).toNat:Int)]=cel (l++nb (k+1) x):=by
      rw [nb_succ,←List.append_assoc,cel_append (l++nb k x)];rfl
     have hby:(((x/256^k:Nat):Int)%256)=((UInt8.ofNat (x/256^k%256)).toNat:Int):=by simp
     have HD:=zH hdd
     have HNB:=zH hnb
     have HBY:=zH hby
     clear hdd hnb hby
     generalize x/256^k=y at *
     have hS:=hw.size
     have hL:l.length+k≤140737488354010:=by omega
     go_wp2_with (first
      | (go_at_call 125;refine (sized_any _ _).mono ?_;rintro e w' ⟨rfl,rfl⟩)
      | (at_builtin;refine wpList_app _ rfl _ _ 36 rfl w.heap.size 5 i0 (.int .u8 0) 1 1 Tryz.underlying36 hi hz0 hz1 hz2 rfl (by decide) _ _ _ rfl (hr.keep (zA _ _)) (wr.heap.size+1) _ 1 1 [.int .u8 ((y:Int)%256)] rfl rfl (At.new _ _ _ _ (by omega)) (fun u hu=>by simp at hu;subst hu;rfl) (by unfold maxLen;omega) (by omega) (by simp;omega) ?_;intro v' w2 hown' hgrow hblk))
     have hown2:=hown'
     rw [HBY.out,HNB.out,Nat.add_assoc] at hown2
     have hk2:Keeps w w2:=Below.grown (zK hw (zA wr _)) hgrow (by simp;omega) (fun g hg=>(hr.lt g hg).1)
     go_roundw
     case rel=>exact ⟨k+1,by omega,by go_num,by rw [HD.out];go_num,hown2,hk2⟩
     case measure=>simp [intOf];omega
   · obtain rfl:k=k0:=by omega
     generalize x/256^k=y at *
     go_wp2
     go_ret
     exact ⟨_,rfl,by rw [List.length_append,nb_length];exact hr,hw⟩
theorem st_odd {x:Nat} (h:x%2=1):st x=(x/2) ^^^ 2197175160:=by unfold st;rw [if_pos h];rfl
theorem st_evn {x:Nat} (h:¬ x%2=1):st x=x/2:=by unfold st;rw [if_neg h,Nat.xor_zero]
theorem refPut_k (A:Option Addr) (n c:Nat) (l:List UInt8) (x k:Nat) (s:Int) (hks:s=(k:Int)) (w:World) (hB:Bs w A l) (hnl:n=l.length) (hx:x<18446744073709551616) (hn:n≤140737488354000) (hk:isSz (k:Int)=true) :
 Calls Tryz.prog 88 #[.slice A n c, .int .u64 x, .int .i64 s] w (New w (l++nb k x)):=by
 subst hks
 have h:=refPut_any A n c l x k w hB hnl hx hn
 rw [if_pos hk,Int.toNat_natCast] at h
 exact h
set_option maxHeartbeats 800000 in
theorem refEdge_any (t h x m:Nat) (ht:t<4294967296) (hh:h<4294967296) (hx:x<18446744073709551616) (hm:m<4294967296) (w:World) :
 Calls Tryz.prog 45 #[.agg #[.int .u32 t, .int .u32 h, .int .u64 x, .int .u32 m]] w (New w (edgeB t h x m)):=by
 have C:∀ j:Nat,(w.alloc (.cells #[.int .u32 t, .int .u32 h, .int .u64 x, .int .u32 m] 42)).cell? ⟨w.heap.size,j,none⟩=(#[.int .u32 t, .int .u32 h, .int .u64 x, .int .u32 m]:Array Value)[j]?:=fun j=>cell_of_row _ _ j _ _ _ (heap_alloc_new w _)
 have HC:=zH C
 have k0:=zA w (.cells #[.int .u32 t, .int .u32 h, .int .u64 x, .int .u32 m] 42)
 have K0:=keeps_refl (w.alloc (.cells #[.int .u32 t, .int .u32 h, .int .u64 x, .int .u32 m] 42))
 have B0:Bs (w.alloc (.cells #[.int .u32 t, .int .u32 h, .int .u64 x, .int .u32 m] 42)) none []:=Bs.nil _ _
 clear C
 have gt:t<18446744073709551616:=by omega
 have gh:h<18446744073709551616:=by omega
 have gm:m<18446744073709551616:=by omega
 go_enter Tryz.func45,Tryz.ntmps45
 go_wp2_with fail
 refine (refPut_k _ _ _ _ t 4 4 rfl _ B0 (by simp [nb_length]) gt (by simp [nb_length]) rfl).mono ?_
 rintro e w1 ⟨v1,rfl,o1,q1⟩
 have K1:=zK K0 q1
 obtain ⟨A1,c1,rfl,-,-,-,-⟩:=o1.form
 have B1:Bs w1 A1 _:=Own.at_ o1
 try simp only [List.length_append,nb_length,List.length_nil,Nat.zero_add,Nat.reduceAdd]
 clear o1 q1 B0 K0
 have d1:=K1.cellOf (HC.out 1)
 try simp only [List.getElem?_toArray,List.getElem?_cons_zero,List.getElem?_cons_succ] at d1
 go_wp2_with fail
 refine (refPut_k _ _ _ _ h 4 4 rfl _ B1 (by simp [nb_length]) gh (by simp [nb_length]) rfl).mono ?_
 rintro e w2 ⟨v2,rfl,o2,q2⟩
 have K2:=zK K1 q2
 obtain ⟨A2,c2,rfl,-,-,-,-⟩:=o2.form
 have B2:Bs w2 A2 _:=Own.at_ o2
 try simp only [List.length_append,nb_length,List.length_nil,Nat.zero_add,Nat.reduceAdd]
 clear o2 q2 B1 K1
 have d2:=K2.cellOf (HC.out 2)
 try simp only [List.getElem?_toArray,List.getElem?_cons_zero,List.getElem?_cons_succ] at d2
 go_wp2_with fail
 refine (refPut_k _ _ _ _ x 8 8 rfl _ B2 (by simp [nb_length]) hx (by simp [nb_length]) rfl).mono ?_
 rintro e w3 ⟨v3,rfl,o3,q3⟩
 have K3:=zK K2 q3
 obtain ⟨A3,c3,rfl,-,-,-,-⟩:=o3.form
 have B3:Bs w3 A3 _:=Own.at_ o3
 try simp only [List.length_append,nb_length,List.length_nil,Nat.zero_add,Nat.reduceAdd]
 clear o3 q3 B2 K2
 have d3:=K3.cellOf (HC.out 3)
 try simp only [List.getElem?_toArray,List.getElem?_cons_zero,List.getElem?_cons_succ] at d3
 go_wp2_with fail
 refine (refPut_k _ _ _ _ m 4 4 rfl _ B3 (by simp [nb_length]) gm (by simp [nb_length]) rfl).mono ?_
 rintro e w4 ⟨v4,rfl,o4,q4⟩
 have K4:=zK K3 q4
 go_wp2_with fail
 go_ret
 refine ⟨_,rfl,?_,zK k0 K4⟩
 have o:=o4.base_le (base':=w.heap.size) (Nat.le_trans k0.size K3.size)
 simpa [edgeB] using o
end Go.Proofs.YtjmkagakdhhigaaGreatDoor
