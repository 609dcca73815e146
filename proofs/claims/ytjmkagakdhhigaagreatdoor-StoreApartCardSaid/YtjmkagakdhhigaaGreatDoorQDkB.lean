/- Rows of a call's own: cut, copied into, made longer by noughts; of no program. -/
import Derived.Test.YtjmkagakdhhigaaGreatDoorQBase
import Derived.Deep.RegionLaw
import Derived.Test.YtjmkagakdhhigaaGreatDoorQDkA
import Derived.Test.YtjmkagakdhhigaaGreatDoorQClone
set_option linter.unusedVariables false
set_option linter.unusedSimpArgs false
set_option maxRecDepth 100000
namespace Go.Proofs.YtjmkagakdhhigaaGreatDoor
open Go.RowKit
section
variable {w:World} {base:Nat} {e:TypeId} {A:Option Addr} {n cap:Nat} {xs:List Value}
theorem Own.cut1 (h:Own w base e 1 (.slice A n cap) n xs) {m:Nat} (hm:m≤n):Own w base e 1 (.slice A m cap) m (xs.take m):=by
 refine ⟨by rw [List.length_take,h.1];omega,?_⟩
 rcases h.2 with ⟨hv,h0⟩|⟨g',cap',cur,fz,hv,hb,hg,hz,h1,h2,h3,h4⟩
 · injection hv with hA hn hc
   obtain rfl:m=0:=by omega
   exact .inl ⟨by rw [hA,hc],rfl⟩
 · injection hv with hA hn hc
   subst hc
   refine .inr ⟨g',cap,cur,fz,by rw [hA],hb,hg,hz,by omega,h2,h3,?_⟩
   rw [←h4,List.take_take]
   congr 1
   omega
theorem Own.nil_len (h:Own w base e 1 (.slice none n cap) n xs):n=0∧cap=0:=by
 rcases h.2 with ⟨hv,h0⟩|⟨g',cap',cur,fz,hv,_⟩
 · injection hv with hA hn hc
   exact ⟨h0,hc⟩
 · injection hv with hA;cases hA
end
section
variable {P:Program} (w:World)
theorem step_appD {ops:Array Oper} {o:Oper} {a:Act} {K:Act→World→Prop} {Q:Exit→Act→World→Prop} {E:Prop} (hg:o.guard=none) (s x:Operand) (t:TypeId)
 (ho:o.op = .call {callee:=.builtin .append,args:=#[s,x],argTypes:=#[t,t]})
 (base:Nat) (e:TypeId) (i:TypeInfo) (z:Value) (size bytes:Nat) (ht:P.underlying t=some (.slice e)) (hi:P.info? e=some i) (hz:i.zero=some z)
 (hsize:i.size=size) (hby:i.bytes=bytes) (hzs:z.cells.size=size) (hsz:0<size)
 (v:Value) (n:Nat) (xs:List Value) (hs:a.eval s=v) (hown:Own w base e size v n xs)
 (B:Nat) (A:Option Addr) (m c:Nat) (news:List Value) (hx:a.eval x = .slice A m c) (hm:news.length=m*size) (hr:At w B A news) (h1:∀ u∈news,u.oneCell'=true)
 (h63:n+m≤maxLen) (hbytes:(n+m)*bytes≤140737488355328) (hbase:base≤w.heap.size)
 (hK:∀ v' w',Own w' base e size v' (n+m) (xs++news)→w.grownBy w' v.ownBlock→(v'.ownBlock=v.ownBlock∨v'.ownBlock=some w.heap.size)→K (a.put o.dst v') w') :
 if Region.wanted o (yielded ops a.tmps)=true then Oper.wp P o a w K Q else E:=by
 have hw:Region.wanted o (yielded ops a.tmps)=true:=by simp [Region.wanted,hg]
 rw [if_pos hw]
 exact wp_app w s x t ho base e i z size bytes ht hi hz hsize hby hzs hsz v n xs hs hown B A m c news hx hm hr h1 h63 hbytes hbase hK
end
theorem sizeU8k:(Tryz.prog.info? 5).map (·.size)=some 1:=by kernel_rfl
structure FileAt (w:World) (c:Nat→Prop) (k:Nat) (v1 v2:Value) (now lasts:List UInt8):Prop where
 box:Box w k 126 #[v1,v2]
 own1:Own w 0 5 1 v1 now.length (cel now)
 own2:Own w 0 5 1 v2 lasts.length (cel lasts)
 me:c k
 in1:∀ g,v1.ownBlock=some g→c g
 in2:∀ g,v2.ownBlock=some g→c g
 ne:v1.ownBlock=none∨v1.ownBlock≠v2.ownBlock
def more (w w':World) (c:Nat→Prop) (g:Nat):Prop:=c g∨(w.heap.size≤g∧g<w'.heap.size)
theorem Keeps.grown_ {w w':World} (k:Keeps w w') (row:Option Nat):w.grownBy w' row:=⟨k.os,k.tape,k.output,k.size,fun i hi _=>k.block i hi⟩
section
variable {w w':World} {c:Nat→Prop} {k:Nat} {v1 v2:Value} {now lasts:List UInt8}
theorem FileAt.same (h:FileAt w c k v1 v2 now lasts) (hs:∀ i,c i→w'.heap[i]? = w.heap[i]?):FileAt w' c k v1 v2 now lasts:=
 ⟨(hs k h.me).trans h.box,h.own1.same fun g hg=>hs g (h.in1 g hg),h.own2.same fun g hg=>hs g (h.in2 g hg),h.me,h.in1,h.in2,h.ne⟩
theorem FileAt.lt (h:FileAt w c k v1 v2 now lasts):k<w.heap.size:=h.box.lt
theorem FileAt.keep (h:FileAt w c k v1 v2 now lasts) (q:Keeps w w'):FileAt w' c k v1 v2 now lasts:=
 ⟨h.box.keep q,h.own1.keep q,h.own2.keep q,h.me,h.in1,h.in2,h.ne⟩
theorem FileAt.wide {d:Nat→Prop} (h:FileAt w c k v1 v2 now lasts) (hd:∀ i,c i→d i):FileAt w d k v1 v2 now lasts:=
 ⟨h.box,h.own1,h.own2,hd k h.me,fun g hg=>hd g (h.in1 g hg),fun g hg=>hd g (h.in2 g hg),h.ne⟩
theorem row_ne {b g:Nat} {cs cur:Array Value} {t e:TypeId} {fz fz':Nat×Nat} (h:w.heap[b]? = some (.cells cs t fz)) (h':w.heap[g]? = some (.cells cur e fz')) (hne:t≠e):b≠g:=by
 intro e'
 rw [e',h'] at h
 injection h with h
 injection h with _ q _
 exact hne q.symm
theorem Own.not_box {base:Nat} {e t:TypeId} {v:Value} {n:Nat} {xs:List Value} {b:Nat} {cs:Array Value} (h:Own w base e 1 v n xs) (hb:Box w b t cs) (hne:t≠e):v.ownBlock≠some b:=by
 intro hv
 rcases h.2 with ⟨rfl,_⟩|⟨g,cap,cur,fz,rfl,_,hg,_⟩
 · simp [Value.ownBlock] at hv
 · simp only [Value.ownBlock,Option.some.injEq] at hv
   subst hv
   exact row_ne hb hg hne rfl
theorem file_ne:126≠5:=by decide
theorem FileAt.put1 (h:FileAt w c k v1 v2 now lasts) {w3:World} (hg:w.grownBy w3 v1.ownBlock) {v':Value} {now':List UInt8} (ho:Own w3 0 5 1 v' now'.length (cel now')) (hb:v'.ownBlock=v1.ownBlock∨∃ g,v'.ownBlock=some g∧w.heap.size≤g) :
 FileAt (w3.setCell ⟨k,0,none⟩ v') (more w (w3.setCell ⟨k,0,none⟩ v') c) k v' v2 now' lasts∧Only w (w3.setCell ⟨k,0,none⟩ v') c:=by
 have hb3:Box w3 k 126 #[v1,v2]:=(hg.block k h.box.lt (fun e=>h.own1.not_box h.box file_ne e.symm)).trans h.box
 have hne2:v2.ownBlock=none∨v2.ownBlock≠v1.ownBlock:=by
  rcases h.ne with e|e
  · cases h2:v2.ownBlock with
    | none=>exact .inl rfl
    | some g=>right;rw [e];simp
  · exact .inr (fun q=>e q.symm)
 have o2:Own w3 0 5 1 v2 lasts.length (cel lasts):=h.own2.grown hg hne2
 have far:∀ {v:Value} {n:Nat} {xs:List Value},Own w3 0 5 1 v n xs→Own (w3.setCell ⟨k,0,none⟩ v') 0 5 1 v n xs:=fun o=>o.same fun g hgg=>Below.heap_setCell _ ⟨k,0,none⟩ _ g (fun e=>o.not_box hb3 file_ne (by rw [hgg,e]))
 have hsz:w.heap.size≤w3.heap.size:=hg.size
 refine ⟨⟨by simpa using hb3.set 0 v',far ho,far o2, .inl h.me,fun g hgg=>?_,fun g hgg=>.inl (h.in2 g hgg),?_⟩,⟨hg.os,hg.tape,hg.output,by simpa using hsz,fun i hi hn=>?_⟩⟩
 · rcases hb with e|⟨g',e,hge⟩
   · exact .inl (h.in1 g (by rw [←e];exact hgg))
   · rw [e] at hgg
     obtain rfl:=Option.some.inj hgg
     exact .inr ⟨hge,by simpa using (ho.lt g' e).2⟩
 · rcases hb with e|⟨g',e,hge⟩
   · rw [e];exact h.ne
   · right
     rw [e]
     intro e2
     have:=(h.own2.lt g' e2.symm).2
     omega
 · rw [Below.heap_setCell _ ⟨k,0,none⟩ _ i (fun e=>hn (by rw [e];exact h.me))]
   exact hg.block i hi (fun e=>hn (h.in1 i e.symm))
theorem FileAt.put2 (h:FileAt w c k v1 v2 now lasts) {w3:World} (hg:w.grownBy w3 v2.ownBlock) {v':Value} {lasts':List UInt8} (ho:Own w3 0 5 1 v' lasts'.length (cel lasts')) (hb:v'.ownBlock=v2.ownBlock∨∃ g,v'.ownBlock=some g∧w.heap.size≤g) :
 FileAt (w3.setCell ⟨k,1,none⟩ v') (more w (w3.setCell ⟨k,1,none⟩ v') c) k v1 v' now lasts'∧Only w (w3.setCell ⟨k,1,none⟩ v') c:=by
 have hb3:Box w3 k 126 #[v1,v2]:=(hg.block k h.box.lt (fun e=>h.own2.not_box h.box file_ne e.symm)).trans h.box
 have o1:Own w3 0 5 1 v1 now.length (cel now):=h.own1.grown hg h.ne
 have far:∀ {v:Value} {n:Nat} {xs:List Value},Own w3 0 5 1 v n xs→Own (w3.setCell ⟨k,1,none⟩ v') 0 5 1 v n xs:=fun o=>o.same fun g hgg=>Below.heap_setCell _ ⟨k,1,none⟩ _ g (fun e=>o.not_box hb3 file_ne (by rw [hgg,e]))
 have hsz:w.heap.size≤w3.heap.size:=hg.size
 refine ⟨⟨by simpa using hb3.set 1 v',far o1,far ho, .inl h.me,fun g hgg=>.inl (h.in1 g hgg),fun g hgg=>?_,?_⟩,⟨hg.os,hg.tape,hg.output,by simpa using hsz,fun i hi hn=>?_⟩⟩
 · rcases hb with e|⟨g',e,hge⟩
   · exact .inl (h.in2 g (by rw [←e];exact hgg))
   · rw [e] at hgg
     obtain rfl:=Option.some.inj hgg
     exact .inr ⟨hge,by simpa using (ho.lt g' e).2⟩
 · rcases hb with e|⟨g',e,hge⟩
   · rw [e];exact h.ne
   · right
     rw [e]
     intro e2
     have:=(h.own1.lt g' e2).2
     omega
 · rw [Below.heap_setCell _ ⟨k,1,none⟩ _ i (fun e=>hn (by rw [e];exact h.me))]
   exact hg.block i hi (fun e=>hn (h.in2 i e.symm))
end
theorem lay_parts (now b:List UInt8) (off:Nat) (h:off≤now.length):spliceL (cel now) off ((cel b).take (min b.length (now.length-off)))++cel (b.drop (min b.length (now.length-off)))=cel (layB now off b):=by
 unfold spliceL layB
 rw [←cel_take,←cel_take,cel_length,←cel_drop,←cel_append,←cel_append,←cel_append]
 congr 1
 by_cases hm:b.length≤now.length-off
 · rw [Nat.min_eq_left hm,List.take_length,List.drop_length,List.append_nil]
 · rw [Nat.min_eq_right (by omega),List.length_take,Nat.min_eq_left (by omega),List.drop_eq_nil_of_le (by omega),List.append_nil,List.append_assoc,List.take_append_drop,List.drop_eq_nil_of_le (by omega),List.append_nil]
set_option maxHeartbeats 8000000 in
theorem put_any {w:World} {c:Nat→Prop} {k:Nat} {v1 v2:Value} {now lasts:List UInt8} (h:FileAt w c k v1 v2 now lasts) (off:Nat) (hoff:off≤now.length) (hn:now.length≤16777216) (B:Option Addr) (m cc:Nat) (b:List UInt8) (hB:Bs w B b) (hm:m=b.length) (hc:m≤cc) (hmm:m≤70000) (hBc:∀ ad,B=some ad→¬ c ad.block) :
 Calls Tryz.prog 213 #[.pointer (some ⟨k,0,none⟩), .int .i64 (off:Int), .slice B m cc] w fun e w'=>e = .returned (.tuple #[])∧∃ v',FileAt w' (more w w' c) k v' v2 (layB now off b) lasts∧Only w w' c:=by
 obtain ⟨i0,hi,hz0,hz1,hz2⟩:=info_parts info_byte
 obtain ⟨A,cap,rfl,hcap,hcm,-⟩:=h.own1.form
 have c0:w.cell? ⟨k,0,none⟩=some (.slice A now.length cap):=h.box.cell 0 rfl
 have hsl:=run_from (P:=Tryz.prog) 36 5 Tryz.underlying36 sizeU8k A now.length cap off hoff
 obtain ⟨ov,hov⟩:∃ ov,ov=min m (now.length-off):=⟨_,rfl⟩
 have hsl2:=run_from (P:=Tryz.prog) 36 5 Tryz.underlying36 sizeU8k B m cc ov (by omega)
 have LAY:=zH (lay_parts now b off hoff)
 have H:=zH h
 have HB:=zH hB
 have HM:=zH hm
 have HBC:=zH hBc
 have HO:=zH hoff
 have HN:=zH hn
 have HC:=zH hc
 have HOV:=zH hov
 have HMM:=zH hmm
 have hkl:=h.lt
 rw [←hm,←hov] at LAY
 have e1:(cel b).length=m:=by rw [cel_length,hm]
 have hd:=hoff
 clear h hB hm hBc hoff hn hc hov hmm
 go_enter Tryz.func213,Tryz.ntmps213
 go_wp2_with (refine wpList_copyO _ rfl _ _ 36 rfl 0 5 i0 Tryz.underlying36 hi hz1 A now.length cap (cel now) H.out.own1 off (now.length-off) (cap-off) rfl (by have:=HO.out;omega) B m cc (cel b) rfl e1 HB.out (cel_one b) ?_;intro w1 o1 g1)
 have hbx:=H.out.own1.not_box H.out.box file_ne
 have b1:Box w1 k 126 #[.slice A now.length cap,v2]:=(g1.block k hkl (fun e=>hbx e.symm)).trans H.out.box
 have c1:w1.cell? ⟨k,0,none⟩=some (.slice A now.length cap):=b1.cell 0 rfl
 have f1:=b1.frozen 0
 have l1:=b1.lt
 have eov:min m (now.length-off)=ov:=HOV.out.symm
 rw [eov] at o1 ⊢
 have HB1:Bs w1 (dropA B cc ov) (b.drop ov):=by
  have hb1:Bs w1 B b:=by
   rcases HB.out with h0|⟨ad,e,hbl,hc⟩
   · exact .inl h0
   · refine .inr ⟨ad,e,Nat.lt_of_lt_of_le hbl g1.size,fun j u hu=>?_⟩
     have hc':=hc j u hu
     have e1:w1.heap[(ad.add j).block]? = w.heap[(ad.add j).block]?:=by
      rw [addr_block]
      exact g1.block _ hbl (fun e2=>HBC.out ad e (H.out.in1 _ e2.symm))
     unfold World.cell? at hc' ⊢
     rw [e1]
     exact hc'
  exact hb1.dropA HM.out HC.out
 have HB1':=zH HB1
 have O1:=zH o1
 have G1:=zH g1
 have B1:=zH b1
 have hld:(cel (b.drop ov)).length=m-ov:=by rw [cel_length,List.length_drop,HM.out]
 clear HB1 o1 g1 b1 eov c0
 have hd1:((m-ov:Nat):Int)≤70000:=by have:=HMM.out;omega
 generalize dropA B cc ov=D at *
 generalize m-ov=d1 at *
 generalize cc-ov=d2 at *
 go_region_law ((refine step_appD _ rfl (.tmp 19) (.tmp 22) 36 rfl 0 5 i0 (.int .u8 0) 1 1 Tryz.underlying36 hi hz0 hz1 hz2 rfl (by decide) (.slice A now.length cap) now.length _ (by simp [Act.eval,Act.put]) (O1.out.keep (zD _)) _ D d1 d2 (cel (b.drop ov)) (by simp [Act.eval,Act.put]) (by omega) (HB1'.out.keep (zD _)) (cel_one _) (by have:=HN.out;unfold maxLen;omega) (by have:=HN.out;omega) (Nat.zero_le _) ?_);intro v' w3 hown' hgrow hblk;obtain ⟨A',cap',rfl,-⟩:=hown'.form;have hb3:Box w3 k 126 #[.slice A now.length cap,v2]:=(hgrow.block k (by simp;omega) (fun e=>hbx e.symm)).trans (B1.out.keep (zD _));have z0:=hb3.cell 0 rfl;have z1:=hb3.frozen 0)
 all_goals
  rw [LAY.out] at hown'
  have hL:now.length+d1=(layB now off b).length:=by have:=hown'.1;rw [cel_length] at this;omega
  rw [hL] at hown' hblk ⊢
  have FIN:=zH (H.out.put1 (grownBy_step (grownBy_step G1.out ((zD _).grown_ _) (.inl rfl)) hgrow (.inl rfl)) hown' (by
   rcases hblk with e|e
   · exact .inl e
   · exact .inr ⟨_,e,G1.out.size⟩))
  clear hown' hgrow hblk hb3 z0 z1 c1 f1
  go_wp2_with fail
  go_returns
  exact ⟨rfl,_,FIN.out⟩
theorem own_block_len {A:Option Addr} {n m cap:Nat}:(Value.slice A n cap).ownBlock=(Value.slice A m cap).ownBlock:=by
 cases A<;>rfl
def secE (now:List UInt8) (k:Nat):Nat:=min (64*k+64) now.length
def padB (l:List UInt8) (e:Nat):List UInt8:=l++List.replicate (e-l.length) 0
def keepB (lasts now:List UInt8) (k:Nat):List UInt8:=(padB lasts (secE now k)).take (64*k)++(now.take (secE now k)).drop (64*k)++(padB lasts (secE now k)).drop (secE now k)
theorem At.lohi {w:World} {A:Option Addr} {cap:Nat} {l:List UInt8} (h:Bs w A l) (hc:l.length≤cap) (i j:Nat):Bs w (dropA A cap i) ((l.take j).drop i):=by
 rw [List.drop_take]
 exact (h.dropA rfl hc).take (j-i)
end Go.Proofs.YtjmkagakdhhigaaGreatDoor
