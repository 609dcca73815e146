/- Package disk: calls that turn no file. -/
import Derived.Test.YtjmkagakdhhigaaGreatDoorQDkC
import Derived.Test.YtjmkagakdhhigaaGreatDoorQDiskMath
import Derived.Test.YtjmkagakdhhigaaGreatDoorQClone
set_option linter.unusedVariables false
set_option linter.unusedSimpArgs false
set_option maxRecDepth 100000
namespace Go.Proofs.YtjmkagakdhhigaaGreatDoor
open Go.RowKit Go.Shelf
section
variable {w w':World} {b:Nat} {F:Nat→Prop} {s:Ds}
theorem gone_parts (h:Dk w b F s):(goneS s).l=s.l∧(goneS s).q=s.q∧(goneS s).armed=fuseA s.armed∧(goneS s).off=fuseO s.armed s.off:=by
 have hd:=h.dead
 unfold goneS fuseA fuseO
 by_cases h0:0<s.armed
 · rw [if_pos h0,if_pos h0]
   have:s.off=false:=by
    cases ho:s.off with
    | false=>rfl
    | true=>have:=hd ho;omega
   simp [this]
 · rw [if_neg h0,if_neg h0]
   refine ⟨rfl,rfl,?_,rfl⟩
   omega
theorem begin_dk (h:Dk w b F s):Calls Tryz.prog 159 #[.pointer (some ⟨b,0,none⟩)] w fun e w'=>e = .returned (.int .i64 (pwr (goneS s).off))∧Dk w' b F (goneS s)∧Only w w' (fun c=>c=b):=by
 obtain ⟨g1,g2,g3,g4⟩:=gone_parts h
 obtain ⟨mf,ml,fb,col,hb,hx⟩:=h.at_
 refine (begin_any hb h.armed).mono ?_
 rintro e w' ⟨rfl,hb',hO⟩
 refine ⟨by rw [g4],⟨⟨by rw [g1];exact h.ok.rise,by rw [g1];exact h.ok.files,by rw [g2];exact h.ok.q⟩,?_,?_,by rw [g1];exact h.used,mf,ml,fb,col,by rw [g2,g3,g4];exact hb',by rw [g1];exact hx.setB hb hO⟩,hO⟩
 · rw [g3,g4]
   unfold fuseO fuseA
   intro ho
   split at ho
   · have:=of_decide_eq_true ho;omega
   · have:=h.dead ho;omega
 · rw [g3]
   unfold fuseA
   have:=h.armed
   omega
theorem Dk.turnsB (h:Dk w b F s) (hO:Only w w' (fun c=>c=b)):Turns w w' F F:=by
 obtain ⟨mf,ml,fb,col,hb,hx⟩:=h.at_
 exact ⟨hO.weak (fun i hi=>by rw [hi];exact hx.nb.1),fun _ hi=>.inl hi⟩
theorem power_dk (h:Dk w b F s):Calls Tryz.prog 205 #[.pointer (some ⟨b,0,none⟩)] w fun e w'=>e = .returned (.int .i64 (pwr s.off))∧w=w':=by
 obtain ⟨mf,ml,fb,col,hb,hx⟩:=h.at_
 exact checkPower_any hb
def foundV (s:Ds) (fb:List UInt8→Nat) (nm:List UInt8):Value×Int:=if nameOk nm=false then (.pointer none,1) else match getF s.l nm with
 | none=>(.pointer none,3)
 | some f=>(.pointer (some ⟨fb f.name,0,none⟩),0)
theorem find_dk {mf ml:Nat} {fb:List UInt8→Nat} {col:Nat→Option (List UInt8)} {q armed:Nat} {off:Bool} (hb:Box w b 131 (dkC mf ml q armed off)) (hx:DkX w b F s.l mf ml fb col) (nm:List UInt8) (hnm:nm.length≤maxLen) :
 Calls Tryz.prog 160 #[.pointer (some ⟨b,0,none⟩), .string (str nm)] w fun e w'=>e = .returned (.tuple #[(foundV s fb nm).1, .int .i64 (foundV s fb nm).2])∧w=w':=by
 refine find_any hb hx.files nm hnm _ _ ?_
 rw [hx.find]
 unfold findA foundV
 by_cases h:nameOk nm=false
 · rw [if_pos h,if_pos h]
 · rw [if_neg h,if_neg h]
   cases getF s.l nm<;>rfl
theorem only_cell (w:World) (b i:Nat) (v:Value):Only w (w.setCell ⟨b,i,none⟩ v) (fun c=>c=b):=⟨rfl,rfl,rfl,by simp,fun j _ hn=>Below.heap_setCell _ ⟨b,i,none⟩ _ j hn⟩
theorem quota_any (h:Dk w b F s) (n:Int) (h1 : -9223372036854775808≤n) (h2:n≤9223372036854775807):Calls Tryz.prog 47 #[dpt b, .int .i64 n] w fun e w'=>e = .returned (.int .i64 ((quotaS s n).2:Int))∧∃ F',Dk w' b F' (quotaS s n).1∧Turns w w' F F':=by
 have H:=zH h
 obtain ⟨mf,ml,fb,col,hb,hx⟩:=h.at_
 have f2:=hb.frozen 2
 have c2:w.cell? ⟨b,2,none⟩=some (.int .i64 (s.q:Int)):=hb.cell 2 rfl
 have hl:=hb.lt
 have IQ:=zH (isQuota_any n)
 show Calls _ _ #[.pointer (some ⟨b,0,none⟩),_] w _
 by_cases hq:0≤n∧n≤1048576
 · have e:quotaS s n=({s with q:=n.toNat},0):=by unfold quotaS;rw [if_neg (by omega)]
   rw [e]
   rw [decide_eq_true hq] at IQ
   have B2:=hb.set 2 (.int .i64 n)
   have FIN:=zH (show Dk (w.setCell ⟨b,2,none⟩ (.int .i64 n)) b F {s with q:=n.toNat}∧Turns w (w.setCell ⟨b,2,none⟩ (.int .i64 n)) F F from
    ⟨⟨⟨h.ok.rise,h.ok.files,by show n.toNat≤1048576;omega⟩,h.dead,h.armed,h.used,mf,ml,fb,col,by
     have e2:((n.toNat:Nat):Int)=n:=by omega
     have:dkC mf ml n.toNat s.armed s.off=(dkC mf ml s.q s.armed s.off).setIfInBounds 2 (.int .i64 n):=by unfold dkC;rw [e2];rfl
     rw [this]
     exact B2,hx.setB hb (only_cell w b 2 _)⟩,h.turnsB (only_cell w b 2 _)⟩)
   clear h hb hx B2 e hq
   go_enter Tryz.func47,Tryz.ntmps47
   go_wp2_with (go_at_call 84;refine (IQ.out _).mono ?_;rintro e w' ⟨rfl,rfl⟩)
   go_ret
   exact ⟨rfl,F,FIN.out⟩
 · have e:quotaS s n=(s,1):=by unfold quotaS;rw [if_pos (by omega)]
   rw [e]
   rw [decide_eq_false hq] at IQ
   clear h hb hx e hq
   go_enter Tryz.func47,Tryz.ntmps47
   go_wp2_with (go_at_call 84;refine (IQ.out _).mono ?_;rintro e w' ⟨rfl,rfl⟩)
   go_ret
   exact ⟨rfl,F,H.out,Turns.refl _ _⟩
set_option maxHeartbeats 4000000 in
theorem size_any (h:Dk w b F s) (nm:List UInt8) (hnm:nm.length≤maxLen):Calls Tryz.prog 163 #[dpt b,strV nm] w fun e w'=>e = .returned (.tuple #[.int .i64 ((sizeS s nm).1:Int), .int .i64 ((sizeS s nm).2:Int)])∧Keeps w w':=by
 obtain ⟨mf,ml,fb,col,hb,hx⟩:=h.at_
 have P:=zH (power_dk h)
 have FD:=zH (find_dk hb hx nm hnm)
 show Calls _ _ #[.pointer (some ⟨b,0,none⟩), .string (str nm)] w _
 cases ho:s.off
 · rw [ho] at P
   cases hn:nameOk nm
   · have e:sizeS s nm=(0,1):=by unfold sizeS;rw [ho,hn];simp
     have e2:foundV s fb nm=(.pointer none,1):=by unfold foundV;rw [if_pos hn]
     rw [e]
     rw [e2] at FD
     clear h hb hx e e2
     go_enter Tryz.func163,Tryz.ntmps163
     go_wp2_with (first
      | (go_at_call 205;refine P.out.mono ?_;rintro e w' ⟨rfl,rfl⟩)
      | (go_at_call 160;refine FD.out.mono ?_;rintro e w' ⟨rfl,rfl⟩))
     exact bodyPost_ret (v:=.tuple #[.int .i64 0, .int .i64 1]) (by simp [results,Tryz.results163,go_sem]) rfl ⟨rfl,keeps_refl _⟩
   · cases hg:getF s.l nm with
     | none=>
      have e:sizeS s nm=(0,3):=by unfold sizeS;rw [ho,hn,hg];simp
      have e2:foundV s fb nm=(.pointer none,3):=by unfold foundV;rw [if_neg (by rw [hn];simp),hg]
      rw [e]
      rw [e2] at FD
      clear h hb hx e e2
      go_enter Tryz.func163,Tryz.ntmps163
      go_wp2_with (first
       | (go_at_call 205;refine P.out.mono ?_;rintro e w' ⟨rfl,rfl⟩)
       | (go_at_call 160;refine FD.out.mono ?_;rintro e w' ⟨rfl,rfl⟩))
      exact bodyPost_ret (v:=.tuple #[.int .i64 0, .int .i64 3]) (by simp [results,Tryz.results163,go_sem]) rfl ⟨rfl,keeps_refl _⟩
     | some f=>
      have e:sizeS s nm=(f.now.length,0):=by unfold sizeS;rw [ho,hn,hg];simp
      have e2:foundV s fb nm=(.pointer (some ⟨fb f.name,0,none⟩),0):=by unfold foundV;rw [if_neg (by rw [hn];simp),hg]
      rw [e]
      rw [e2] at FD
      obtain ⟨v1,v2,q⟩:=hx.each f (getF_mem hg)
      obtain ⟨A,cap,rfl,-⟩:=q.own1.form
      have c0:=q.box.cell 0 rfl
      clear h hb hx e e2 q
      go_enter Tryz.func163,Tryz.ntmps163
      go_wp2_with (first
       | (go_at_call 205;refine P.out.mono ?_;rintro e w' ⟨rfl,rfl⟩)
       | (go_at_call 160;refine FD.out.mono ?_;rintro e w' ⟨rfl,rfl⟩))
      exact bodyPost_ret (v:=.tuple #[.int .i64 (f.now.length:Int), .int .i64 0]) (by simp [results,Tryz.results163,go_sem]) rfl ⟨rfl,keeps_refl _⟩
 · rw [ho] at P
   have e:sizeS s nm=(0,6):=by unfold sizeS;rw [ho];simp
   rw [e]
   clear h hb hx e
   go_enter Tryz.func163,Tryz.ntmps163
   go_wp2_with (go_at_call 205;refine P.out.mono ?_;rintro e w' ⟨rfl,rfl⟩)
   exact bodyPost_ret (v:=.tuple #[.int .i64 0, .int .i64 6]) (by simp [results,Tryz.results163,go_sem,pwr]) rfl ⟨rfl,keeps_refl _⟩
end
theorem usedL_perm {l m:List Fl} (h:l.Perm m):usedL l=usedL m:=by
 unfold usedL
 exact (h.map _).sum_nat
section
variable {w w':World} {b:Nat} {F:Nat→Prop} {s:Ds}
theorem take_file {fb:List UInt8→Nat} {gl:List Fl} {lf lf':List (List UInt8×Nat)} {e:List UInt8×Nat} (h1:lf.Perm (gl.map fun f=>(f.name,fb f.name))) (h2:lf.Perm (e::lf')) :
 ∃ f gl',e=(f.name,fb f.name)∧gl.Perm (f::gl')∧lf'.Perm (gl'.map fun f=>(f.name,fb f.name)):=by
 have h3:=h2.symm.trans h1
 have hm:e∈gl.map fun f=>(f.name,fb f.name):=h3.mem_iff.1 (List.mem_cons_self)
 obtain ⟨f,hf,rfl⟩:=List.mem_map.1 hm
 obtain ⟨a,c,rfl⟩:=List.append_of_mem hf
 refine ⟨f,a++c,rfl,List.perm_middle,?_⟩
 have h4:((a++f::c).map fun f=>(f.name,fb f.name)).Perm ((f.name,fb f.name)::(a++c).map fun f=>(f.name,fb f.name)):=by
  have:=(List.perm_middle (a:=f) (l₁:=a) (l₂:=c)).map fun f=>(f.name,fb f.name)
  exact this
 exact (h3.trans h4).cons_inv
set_option maxHeartbeats 4000000 in
theorem used_any (h:Dk w b F s):Calls Tryz.prog 242 #[dpt b] w fun e w'=>e = .returned (.int .i64 (usedL s.l:Int))∧Keeps w w':=by
 obtain ⟨mf,ml,fb,col,hb,hx⟩:=h.at_
 have c0:w.cell? ⟨b,0,none⟩=some (.map (some mf)):=hb.cell 0 rfl
 have OM:=zH hx.files
 have EA:=zH hx.each
 have OK:=zH h.ok.files
 have SE:=zH sectorsOf_any
 obtain ⟨total,htot⟩:∃ t,t=usedL s.l:=⟨_,rfl⟩
 have hb2:total≤1048576:=by rw [htot];exact h.used
 have TOT:=zH htot
 have hbi:(total:Int)≤1048576:=by omega
 rw [←htot]
 clear h hb hx htot
 show Calls _ _ #[.pointer (some ⟨b,0,none⟩)] w _
 go_enter Tryz.func242,Tryz.ntmps242
 go_wp2_with (at_range;refine wpList_rangeV _ rfl _ rfl filesT mf _ rfl OM.out ?_;intro w0 hi0 hk0 hs0)
 go_frame
 have HI0:=zH hi0
 have HK0:=zH hk0
 clear hi0 hk0 hs0
 go_loopw [3,5] (fun t _ wr=>∃ (acc:Nat) (gl:List Fl) (lf:List (List UInt8×Nat)),t = .int .i64 (acc:Int)∧acc+usedL gl=total∧(∀ f∈gl,f∈s.l)∧IterV strW dpt wr mf w.heap.size (s.l.map fun f=>(f.name,fb f.name)) lf∧lf.Perm (gl.map fun f=>(f.name,fb f.name))∧Keeps w wr)
  (fun _ _ wr=>wr.rangeLeft mf w.heap.size)
 case atStart=>exact ⟨0,s.l,_,rfl,by rw [TOT.out];omega,fun f hf=>hf,HI0.out, .refl _,HK0.out⟩
 case round=>
  obtain ⟨acc,gl,lf,rfl,hacc,hgl,hI,hP,hkw⟩:=hrel
  have HA:=zH hacc
  have HG:=zH hgl
  have HI:=zH hI
  have HP:=zH hP
  have HKW:=zH hkw
  clear hacc hgl hI hP hkw
  go_wp2_with (at_next;refine wpList_nextV _ rfl _ rfl filesT mf w.heap.size _ lf rfl HI.out (fun s:List UInt8=>Value.string (str s)) rfl (fun k:Nat=>Value.pointer (some ⟨k,0,none⟩)) rfl ?_ ?_)
  · intro hd
    have hz:acc=total:=by
     have h1:=HP.out.length_eq
     rw [hd] at h1
     have h2:gl=[]:=List.eq_nil_of_length_eq_zero (by simpa using h1.symm)
     have h3:=HA.out
     rw [h2] at h3
     simpa [usedL] using h3
    subst hz
    clear hd
    go_wp2
    go_ret
    exact ⟨rfl,HKW.out⟩
  · rintro nm k lf' w2 hp hI2 ho2 hen
    obtain ⟨f,gl',he,hg2,hl2⟩:=take_file HP.out hp
    obtain ⟨rfl,rfl⟩:nm=f.name∧k=fb f.name:=by simpa using he
    have hfm:f∈s.l:=HG.out f (hg2.mem_iff.2 List.mem_cons_self)
    obtain ⟨v1,v2,q⟩:=EA.out f hfm
    obtain ⟨A,cap,rfl,-⟩:=q.own1.form
    have hr0:w.heap.size<w0.heap.size:=HI0.out.lt.2
    have kw2:Keeps w w2:=⟨ho2.os.trans HKW.out.os,ho2.tape.trans HKW.out.tape,ho2.output.trans HKW.out.output,Nat.le_trans HKW.out.size ho2.size,fun i hi=>(ho2.block i (Nat.lt_of_lt_of_le hi HKW.out.size) (by omega)).trans (HKW.out.block i hi)⟩
    have bx:=q.box.keep kw2
    have c0':w2.cell? ⟨fb f.name,0,none⟩=some (.slice A f.now.length cap):=bx.cell 0 rfl
    have hsz:=(OK.out f hfm).size
    have e1:acc+(sect f.now.length+usedL gl')=total:=by rw [←usedL_cons,←usedL_perm hg2];exact HA.out
    have hs1:(sect f.now.length:Int)≤1048576:=by omega
    have hs2:(acc:Int)+(sect f.now.length:Int)≤1048576:=by omega
    have S1:=zH (SE.out f.now.length (by omega) w2)
    have E1:=zH e1
    have G1:=zH (show ∀ g∈gl',g∈s.l from fun g hg=>HG.out g (hg2.mem_iff.2 (List.mem_cons_of_mem _ hg)))
    have I2:=zH hI2
    have L2:=zH hl2
    have PP:=zH hp
    have KW2:=zH kw2
    have LEN:=zH (show lf.length=lf'.length+1 by have:=hp.length_eq;simpa using this)
    have hsn:(((acc+sect f.now.length:Nat)):Int)=(acc:Int)+(sect f.now.length:Int):=by omega
    clear he hg2 hl2 hp hI2 ho2 kw2 bx q hfm e1 hr0 hsz
    generalize sect f.now.length=sl at *
    go_wp2_with (go_at_call 241;refine S1.out.mono ?_;rintro e w' ⟨rfl,rfl⟩)
    first
     | exact ⟨⟨acc+sl,gl',lf',by rw [hsn],by have:=E1.out;omega,G1.out,I2.out,L2.out,KW2.out⟩,by rw [I2.out.left_eq,HI.out.left_eq,LEN.out];omega⟩
end
theorem new_dk (w:World) (q:Int) (hq:0≤q∧q≤1048576) :
 Dk (((w.alloc (.map #[] 0)).alloc (.map #[] 0)).alloc (.cells #[.map (some w.heap.size), .map (some (w.heap.size+1)), .int .i64 q, .int .i64 0, .bool false] 131)) (w.heap.size+1+1) (fun i=>w.heap.size≤i∧i<w.heap.size+3) ⟨[],q.toNat,0,false⟩∧
 (∀ i,(fun i=>w.heap.size≤i∧i<w.heap.size+3) i→w.heap.size≤i)∧Keeps w (((w.alloc (.map #[] 0)).alloc (.map #[] 0)).alloc (.cells #[.map (some w.heap.size), .map (some (w.heap.size+1)), .int .i64 q, .int .i64 0, .bool false] 131)):=by
 have k1:=zA w (.map #[] 0)
 have k2:=zA (w.alloc (.map #[] 0)) (.map #[] 0)
 have k3:=zA ((w.alloc (.map #[] 0)).alloc (.map #[] 0)) (.cells #[.map (some w.heap.size), .map (some (w.heap.size+1)), .int .i64 q, .int .i64 0, .bool false] 131)
 have m1:=((MapW.new strW dpt w).keep k2).keep k3
 have m2:=(MapW.new plV unV (w.alloc (.map #[] 0))).keep k3
 have bx:=Box.new ((w.alloc (.map #[] 0)).alloc (.map #[] 0)) 131 #[.map (some w.heap.size), .map (some (w.heap.size+1)), .int .i64 q, .int .i64 0, .bool false]
 simp only [World.size_alloc] at m2 bx
 have hqn:((q.toNat:Nat):Int)=q:=by omega
 refine ⟨⟨⟨List.Pairwise.nil,(fun f hf=>by cases hf),by show q.toNat≤1048576;omega⟩,(fun hh=>by cases hh),by show 0≤_;omega,by simp [usedL],w.heap.size,w.heap.size+1,fun _=>0,fun _=>none,?_,⟨fun i hi=>by simp;omega,⟨⟨by omega,by omega⟩,rfl⟩,⟨⟨by omega,by omega⟩,rfl⟩,⟨⟨by omega,by omega⟩,rfl⟩,by omega,m1,⟨[],m2,fun p=>?_⟩,fun f hf=>by cases hf⟩⟩,fun i hi=>hi.1,zK (zK k1 k2) k3⟩
 · unfold dkC
   show Box _ _ _ #[_,_, .int .i64 ((q.toNat:Nat):Int),_,_]
   rw [hqn]
   exact bx
 · constructor
   · intro h;cases h
   · rintro ⟨f,hf,_⟩;cases hf
theorem new_any (q:Int) (w:World) (h1 : -9223372036854775808≤q) (h2:q≤9223372036854775807) :
 Calls Tryz.prog 41 #[.int .i64 q] w fun e w'=>
  (0≤q∧q≤1048576∧∃ b F,e = .returned (.tuple #[dpt b, .int .i64 0])∧Dk w' b F ⟨[],q.toNat,0,false⟩∧(∀ i,F i→w.heap.size≤i)∧Keeps w w')∨
  ((q<0∨1048576<q)∧e = .returned (.tuple #[.pointer none, .int .i64 1])∧Keeps w w'):=by
 have hmm:=@run_makeMap Tryz.prog
 have NEWD:=zH (new_dk w q)
 have IQ:=zH (isQuota_any q)
 by_cases hq:0≤q∧q≤1048576
 · rw [decide_eq_true hq] at IQ
   have HQ:=zH hq
   clear hq
   go_enter Tryz.func41,Tryz.ntmps41
   go_wp2_with (go_at_call 84;refine (IQ.out _).mono ?_;rintro e w' ⟨rfl,rfl⟩)
   have FIN:=NEWD.out HQ.out
   exact bodyPost_ret (v:=.tuple #[.pointer (some ⟨w.heap.size+1+1,0,none⟩), .int .i64 0]) (by simp [results,Tryz.results41,go_sem]) rfl (.inl ⟨HQ.out.1,HQ.out.2,w.heap.size+1+1,_,rfl,FIN⟩)
 · rw [decide_eq_false hq] at IQ
   have HQ:=zH (show q<0∨1048576<q by omega)
   clear hq
   go_enter Tryz.func41,Tryz.ntmps41
   go_wp2_with (go_at_call 84;refine (IQ.out _).mono ?_;rintro e w' ⟨rfl,rfl⟩)
   exact bodyPost_ret (v:=.tuple #[.pointer none, .int .i64 1]) (by simp [results,Tryz.results41,go_sem]) rfl (.inr ⟨HQ.out,rfl,keeps_refl _⟩)
section
variable {w w':World} {b:Nat} {F:Nat→Prop} {s:Ds}
theorem foundV_bad {fb:List UInt8→Nat} {nm:List UInt8} (h:nameOk nm=false):foundV s fb nm=(.pointer none,1):=by unfold foundV;rw [if_pos h]
theorem foundV_none {fb:List UInt8→Nat} {nm:List UInt8} (h:nameOk nm=true) (hg:getF s.l nm=none):foundV s fb nm=(.pointer none,3):=by unfold foundV;rw [if_neg (by rw [h];simp),hg]
theorem foundV_some {fb:List UInt8→Nat} {nm:List UInt8} {f:Fl} (h:nameOk nm=true) (hg:getF s.l nm=some f):foundV s fb nm=(.pointer (some ⟨fb f.name,0,none⟩),0):=by unfold foundV;rw [if_neg (by rw [h];simp),hg]
set_option maxHeartbeats 8000000 in
theorem read_any (h:Dk w b F s) (nm:List UInt8) (off n:Int) (hnm:nm.length≤maxLen) (h1 : -9223372036854775808≤off) (h2:off≤9223372036854775807) (h3 : -9223372036854775808≤n) (h4:n≤9223372036854775807) :
 Calls Tryz.prog 261 #[dpt b,strV nm, .int .i64 off, .int .i64 n] w fun e w'=>∃ v,e = .returned (.tuple #[v, .int .i64 ((readS s nm off n).2:Int)])∧Own w' w.heap.size 5 1 v (readS s nm off n).1.length (cel (readS s nm off n).1)∧Keeps w w':=by
 have H:=zH h
 obtain ⟨mf,ml,fb,col,hb,hx⟩:=h.at_
 have P:=zH (power_dk h)
 have FD:=zH (find_dk hb hx nm hnm)
 show Calls _ _ #[.pointer (some ⟨b,0,none⟩), .string (str nm),_,_] w _
 have NIL:=zH (fun (V:World)=>Own.nil V w.heap.size 5 1)
 cases ho:s.off
 · rw [ho] at P
   by_cases hneg:off<0∨n<0
   · have e:readS s nm off n=([],1):=by unfold readS;rw [ho];simp;omega
     rw [e]
     clear h hb hx e FD
     rcases hneg with hn|hn
     · go_enter Tryz.func261,Tryz.ntmps261
       go_wp2_with (go_at_call 205;refine P.out.mono ?_;rintro e w' ⟨rfl,rfl⟩)
       exact bodyPost_ret (v:=.tuple #[.slice none 0 0, .int .i64 1]) (by simp [results,Tryz.results261,go_sem]) rfl ⟨_,rfl,NIL.out _,keeps_refl _⟩
     · by_cases hoff:off<0
       · go_enter Tryz.func261,Tryz.ntmps261
         go_wp2_with (go_at_call 205;refine P.out.mono ?_;rintro e w' ⟨rfl,rfl⟩)
         exact bodyPost_ret (v:=.tuple #[.slice none 0 0, .int .i64 1]) (by simp [results,Tryz.results261,go_sem]) rfl ⟨_,rfl,NIL.out _,keeps_refl _⟩
       · go_enter Tryz.func261,Tryz.ntmps261
         go_wp2_with (go_at_call 205;refine P.out.mono ?_;rintro e w' ⟨rfl,rfl⟩)
         exact bodyPost_ret (v:=.tuple #[.slice none 0 0, .int .i64 1]) (by simp [results,Tryz.results261,go_sem]) rfl ⟨_,rfl,NIL.out _,keeps_refl _⟩
   · obtain ⟨o,rfl⟩:=Int.eq_ofNat_of_zero_le (show 0≤off by omega)
     obtain ⟨m,rfl⟩:=Int.eq_ofNat_of_zero_le (show 0≤n by omega)
     have hn1:¬ (o:Int)<0:=by omega
     have hn2:¬ (m:Int)<0:=by omega
     cases hn:nameOk nm
     · have e:readS s nm o m=([],1):=by unfold readS;rw [ho,hn];simp
       rw [e]
       rw [foundV_bad hn] at FD
       clear h hb hx e hneg
       go_enter Tryz.func261,Tryz.ntmps261
       go_wp2_with (first
        | (go_at_call 205;refine P.out.mono ?_;rintro e w' ⟨rfl,rfl⟩)
        | (go_at_call 160;refine FD.out.mono ?_;rintro e w' ⟨rfl,rfl⟩))
       exact bodyPost_ret (v:=.tuple #[.slice none 0 0, .int .i64 1]) (by simp [results,Tryz.results261,go_sem]) rfl ⟨_,rfl,NIL.out _,keeps_refl _⟩
     · cases hg:getF s.l nm with
       | none=>
        have e:readS s nm o m=([],3):=by unfold readS;rw [ho,hn,hg];simp
        rw [e]
        rw [foundV_none hn hg] at FD
        clear h hb hx e hneg
        go_enter Tryz.func261,Tryz.ntmps261
        go_wp2_with (first
         | (go_at_call 205;refine P.out.mono ?_;rintro e w' ⟨rfl,rfl⟩)
         | (go_at_call 160;refine FD.out.mono ?_;rintro e w' ⟨rfl,rfl⟩))
        exact bodyPost_ret (v:=.tuple #[.slice none 0 0, .int .i64 3]) (by simp [results,Tryz.results261,go_sem]) rfl ⟨_,rfl,NIL.out _,keeps_refl _⟩
       | some f=>
        have e:readS s nm o m=((f.now.drop o).take m,0):=by unfold readS;rw [ho,hn,hg];simp
        rw [e]
        rw [foundV_some hn hg] at FD
        obtain ⟨v1,v2,q⟩:=hx.each f (getF_mem hg)
        have hsz:=(h.ok.files f (getF_mem hg)).size
        obtain ⟨A,cap,rfl,hcap,hcm,-⟩:=q.own1.form
        have c0:w.cell? ⟨fb f.name,0,none⟩=some (.slice A f.now.length cap):=q.box.cell 0 rfl
        have hBs:Bs w A f.now:=q.own1.at_
        have hA0:A=none→cap=0:=fun ea=>by
         have:=q.own1
         rw [ea] at this
         exact this.nil_len.2
        clear h hb hx e hneg q
        generalize f.now=now at *
        obtain ⟨p,hp⟩:∃ p,p=min o now.length:=⟨_,rfl⟩
        obtain ⟨r,hr⟩:∃ r,r=min m (now.length-p):=⟨_,rfl⟩
        have hmin1:∀ (ts:Array TypeId) (t:TypeId) (w:World),(Builtin.min_ ts t #[.int .i64 (o:Int), .int .i64 (now.length:Int)]).run Tryz.prog w = .ok (.int .i64 (p:Int)) w:=by
         intro ts t w
         rw [run_min_int2]
         congr 2
         split<;>omega
        have hmin2:∀ (ts:Array TypeId) (t:TypeId) (w:World),(Builtin.min_ ts t #[.int .i64 (m:Int), .int .i64 ((now.length-p:Nat):Int)]).run Tryz.prog w = .ok (.int .i64 (r:Int)) w:=by
         intro ts t w
         rw [run_min_int2]
         congr 2
         split<;>omega
        have hsl:=run_from (P:=Tryz.prog) 36 5 Tryz.underlying36 sizeU8k A now.length cap p (by omega)
        have hB2:Bs w (dropA A cap p) ((now.drop o).take m):=by
         have h1:=(hBs.dropA rfl hcap (k:=p)).take r
         have e1:(now.drop p).take r=(now.drop o).take m:=by
          by_cases ho2:o≤now.length
          · have:p=o:=by omega
            rw [this,hr,this]
            by_cases hm2:m≤now.length-o
            · rw [Nat.min_eq_left hm2]
            · rw [Nat.min_eq_right (by omega),List.take_of_length_le (by rw [List.length_drop];exact Nat.le_refl _),List.take_of_length_le (by rw [List.length_drop];omega)]
          · rw [List.drop_eq_nil_of_le (show now.length≤o by omega),List.drop_eq_nil_of_le (show now.length≤p by omega)]
            simp
         rwa [e1] at h1
        have hlen:r=((now.drop o).take m).length:=by rw [List.length_take,List.length_drop];omega
        have CL:=zH (fun (V:World) (k:Keeps w V)=>clone_any (dropA A cap p) r (cap-p) ((now.drop o).take m) V (hB2.keep k) hlen (fun ea=>by
         unfold dropA at ea
         split at ea
         · omega
         · cases A with
           | none=>have:=hA0 rfl;omega
           | some ad=>cases ea) (by omega))
        have hrc:(r:Int)≤((cap-p:Nat):Int):=by omega
        have hrn:(p:Int)≤(now.length:Int):=by omega
        clear hp hr hBs hA0 hB2 hlen hcm hsz
        go_enter Tryz.func261,Tryz.ntmps261
        go_wp2_with (first
         | (go_at_call 205;refine P.out.mono ?_;rintro e w' ⟨rfl,rfl⟩)
         | (go_at_call 160;refine FD.out.mono ?_;rintro e w' ⟨rfl,rfl⟩))
        go_region
        all_goals
         generalize dropA A cap p=D at *
         generalize now.length-p=d1 at *
         generalize cap-p=d2 at *
         go_wp2_with (go_at_call 58;refine (CL.out _ (zD _)).mono ?_;rintro e w' ⟨v,rfl,hown,hk⟩)
         exact bodyPost_ret (v:=.tuple #[v, .int .i64 0]) (by simp [results,Tryz.results261,go_sem]) rfl ⟨_,rfl,hown.base_le (by simp),zK (zD _) hk⟩
 · rw [ho] at P
   have e:readS s nm off n=([],6):=by unfold readS;rw [ho];simp
   rw [e]
   clear h hb hx e
   go_enter Tryz.func261,Tryz.ntmps261
   go_wp2_with (go_at_call 205;refine P.out.mono ?_;rintro e w' ⟨rfl,rfl⟩)
   exact bodyPost_ret (v:=.tuple #[.slice none 0 0, .int .i64 6]) (by simp [results,Tryz.results261,go_sem,pwr]) rfl ⟨_,rfl,NIL.out _,keeps_refl _⟩
end
structure LOk (l:List Fl):Prop where
 rise:l.Pairwise fun f g=>f.name<g.name
 files:∀ f∈l,FlOk f
 used:usedL l≤1048576
theorem putF_perm (l:List Fl) (f:Fl):(putF l f).Perm (f::l):=by
 induction l with
 | nil=>exact .refl _
 | cons g l ih=>
  unfold putF
  split
  · exact (ih.cons g).trans (List.Perm.swap f g l)
  · exact .refl _
theorem getF_none {l:List Fl} {nm:List UInt8} (h:getF l nm=none):∀ f∈l,f.name≠nm:=by
 intro f hf e
 have:=List.find?_eq_none.1 h f hf
 simp [e] at this
theorem putF_rise {l:List Fl} {f:Fl} (h:l.Pairwise fun f g=>f.name<g.name) (hn:∀ g∈l,g.name≠f.name):(putF l f).Pairwise fun f g=>f.name<g.name:=by
 induction l with
 | nil=>simp [putF]
 | cons g l ih=>
  rw [List.pairwise_cons] at h
  unfold putF
  by_cases e:g.name<f.name
  · rw [if_pos e,List.pairwise_cons]
    refine ⟨fun x hx=>?_,ih h.2 (fun y hy=>hn y (List.mem_cons_of_mem _ hy))⟩
    rcases List.mem_cons.1 ((putF_perm l f).mem_iff.1 hx) with rfl|hx'
    · exact e
    · exact h.1 x hx'
  · rw [if_neg e,List.pairwise_cons]
    have hlt:f.name<g.name:=by
     have h1:=hn g List.mem_cons_self
     have h2:f.name≤g.name:=List.not_lt.1 e
     by_cases h3:f.name<g.name
     · exact h3
     · exact absurd (List.le_antisymm (List.not_lt.1 h3) h2) h1
    refine ⟨fun x hx=>?_,List.pairwise_cons.2 h⟩
    rcases List.mem_cons.1 hx with rfl|hx'
    · exact hlt
    · exact List.lt_trans hlt (h.1 x hx')
theorem LOk.put {l:List Fl} (h:LOk l) {f:Fl} (hn:getF l f.name=none) (hf:FlOk f) (hu:usedL l+sect f.now.length≤1048576):LOk (putF l f):=
 ⟨putF_rise h.rise (getF_none hn),fun g hg=>by
  rcases List.mem_cons.1 ((putF_perm l f).mem_iff.1 hg) with rfl|hg'
  · exact hf
  · exact h.files g hg',by rw [used_put];exact hu⟩
theorem LOk.del {l:List Fl} (h:LOk l) (nm:List UInt8):LOk (delF l nm):=
 ⟨h.rise.filter _,fun g hg=>h.files g (List.mem_filter.1 hg).1,Nat.le_trans (used_del_le l nm) h.used⟩
theorem LOk.set {l:List Fl} (h:LOk l) {f f':Fl} (hg:getF l f'.name=some f) (hf:FlOk f') (hu:usedL l+sect f'.now.length≤1048576+sect f.now.length):LOk (setF l f'):=by
 refine ⟨?_,fun g hg'=>?_,?_⟩
 · have hm:(setF l f').map (·.name)=l.map (·.name):=by
    unfold setF
    rw [List.map_map]
    apply List.map_congr_left
    intro g hg
    simp only [Function.comp]
    split
    · rename_i q;exact q.symm
    · rfl
   have h1:(l.map (·.name)).Pairwise (· < ·):=List.pairwise_map.2 h.rise
   rw [←hm] at h1
   exact List.pairwise_map.1 h1
 · obtain ⟨x,hx,he⟩:=List.mem_map.1 hg'
   by_cases q:x.name=f'.name
   · rw [if_pos q] at he
     rw [←he]
     exact hf
   · rw [if_neg q] at he
     rw [←he]
     exact h.files x hx
 · have:=used_set l f' f h.rise hg
   omega
theorem FlOk.write {f:Fl} (h:FlOk f) {off:Nat} {b:List UInt8} (ho:off≤f.now.length) (hm:off+b.length≤16777216):FlOk (writeF f off b):=by
 have hl:(writeF f off b).now.length=max f.now.length (off+b.length):=layB_length f.now off b ho
 refine ⟨h.name,by have:=h.size;omega,by have:=h.lasts;show f.lasts.length≤_;omega,fun k hk=>?_⟩
 rw [hl]
 have hk':(f.loose k||(decide (0<b.length)&&decide (off/64≤k)&&decide (k≤(off+b.length-1)/64)))=true:=hk
 rw [Bool.or_eq_true] at hk'
 rcases hk' with h1|h1
 · have:=h.loose k h1
   have:=sect_le (show f.now.length≤max f.now.length (off+b.length) by omega)
   omega
 · simp only [Bool.and_eq_true,decide_eq_true_eq] at h1
   unfold sect
   omega
theorem FlOk.sync {f:Fl} (h:FlOk f):FlOk (syncF f):=⟨h.name,h.size,Nat.le_refl _,fun k hk=>by cases hk⟩
theorem FlOk.fresh {nm:List UInt8} (h:nameOk nm=true):FlOk ⟨nm,[],[],fun _=>false⟩:=⟨h,by simp,by simp,fun k hk=>by cases hk⟩
section
variable {w w':World} {b:Nat} {F:Nat→Prop} {s:Ds}
theorem Dk.lok (h:Dk w b F s):LOk s.l:=⟨h.ok.rise,h.ok.files,h.used⟩
theorem Dk.make {F':Nat→Prop} {l':List Fl} (h:Dk w b F s) (hl:LOk l') (hat:∃ mf ml fb col,Box w' b 131 (dkC mf ml s.q s.armed s.off)∧DkX w' b F' l' mf ml fb col):Dk w' b F' {s with l:=l'}:=
 ⟨⟨hl.rise,hl.files,h.ok.q⟩,h.dead,h.armed,hl.used,hat⟩
theorem lookM_none_of {l:List Fl} {fb:List UInt8→Nat} {nm:List UInt8} (hg:getF l nm=none):nm∉(l.map fun f=>(f.name,fb f.name)).map Prod.fst:=by
 rw [List.map_map]
 intro hm
 obtain ⟨f,hf,he⟩:=List.mem_map.1 hm
 exact getF_none hg f hf he
theorem DkX.put {l:List Fl} {mf ml:Nat} {fb:List UInt8→Nat} {col:Nat→Option (List UInt8)} (h:DkX w b F l mf ml fb col) {nm:List UInt8} (hg:getF l nm=none) {k:Nat} (hk:w.heap.size≤k) (hk2:k<w'.heap.size)
 (hM:FilesM w' mf (putM (l.map fun f=>(f.name,fb f.name)) nm k)) (hb:Box w' k 126 #[.slice none 0 0, .slice none 0 0]) (hO:Only w w' (fun c=>c=mf)) :
 DkX w' b (fun i=>F i∨i=k) (putF l ⟨nm,[],[],fun _=>false⟩) mf ml (fun n=>if n=nm then k else fb n) (fun i=>if i=k then some nm else col i):=by
 have hne:∀ i,F i→i≠k:=fun i hi e=>by have:=h.lt i hi;omega
 have hs:∀ i,F i→i≠mf→w'.heap[i]? = w.heap[i]?:=fun i hi hne=>hO.block i (h.lt i hi) hne
 have hmem:∀ {g:Fl},g∈putF l ⟨nm,[],[],fun _=>false⟩→g=⟨nm,[],[],fun _=>false⟩∨g∈l:=fun {g} hgm=>List.mem_cons.1 ((putF_perm l _).mem_iff.1 hgm)
 obtain ⟨l2,h2,h3⟩:=h.loose
 refine ⟨fun i hi=>?_,⟨.inl h.nb.1,by rw [if_neg (hne b h.nb.1)];exact h.nb.2⟩,⟨.inl h.nf.1,by rw [if_neg (hne mf h.nf.1)];exact h.nf.2⟩,⟨.inl h.nl.1,by rw [if_neg (hne ml h.nl.1)];exact h.nl.2⟩,h.ne,?_,⟨l2,h2.same (hs ml h.nl.1 (fun e=>h.ne e.symm)),fun p=>?_⟩,fun g hg'=>?_⟩
 · rcases hi with hi|rfl
   · exact Nat.lt_of_lt_of_le (h.lt i hi) hO.size
   · exact hk2
 · refine hM.perm ?_
   unfold putM
   rw [delM_absent (lookM_none_of hg)]
   have h4:=((putF_perm l ⟨nm,[],[],fun _=>false⟩).map fun f=>(f.name,if f.name=nm then k else fb f.name))
   refine List.Perm.trans ?_ h4.symm
   rw [List.map_cons]
   have:(l.map fun f=>(f.name,if f.name=nm then k else fb f.name))=l.map fun f=>(f.name,fb f.name):=by
    apply List.map_congr_left
    intro f hf
    rw [if_neg (getF_none hg f hf)]
   rw [this,if_pos rfl]
 · rw [h3]
   constructor
   · rintro ⟨g,hg',q1,q2⟩
     exact ⟨g,(putF_perm l _).mem_iff.2 (List.mem_cons_of_mem _ hg'),q1,q2⟩
   · rintro ⟨g,hg',q1,q2⟩
     rcases hmem hg' with rfl|hg2
     · cases q2
     · exact ⟨g,hg2,q1,q2⟩
 · rcases hmem hg' with rfl|hg2
   · refine ⟨.slice none 0 0, .slice none 0 0,?_⟩
     simp only [if_true]
     exact ⟨hb,Own.nil _ _ _ _,Own.nil _ _ _ _,⟨.inr rfl,by rw [if_pos rfl]⟩,fun g hgg=>(by cases hgg),fun g hgg=>(by cases hgg), .inl rfl⟩
   · obtain ⟨v1,v2,q⟩:=h.each g hg2
     rw [if_neg (getF_none hg g hg2)]
     refine ⟨v1,v2,(q.same fun i hi=>hs i hi.1 (fun e=>by have:=hi.2;rw [e,h.nf.2] at this;cases this)).wide fun i hi=>⟨.inl hi.1,by rw [if_neg (hne i hi.1)];exact hi.2⟩⟩
set_option maxHeartbeats 8000000 in
theorem create_any (h:Dk w b F s) (nm:List UInt8) (hnm:nm.length≤maxLen) :
 Calls Tryz.prog 122 #[dpt b,strV nm] w fun e w'=>e = .returned (.int .i64 ((createS s nm).2:Int))∧∃ F',Dk w' b F' (createS s nm).1∧Turns w w' F F':=by
 show Calls _ _ #[.pointer (some ⟨b,0,none⟩), .string (str nm)] w _
 have BG:=zH (begin_dk h)
 have TB:=zH (fun (V:World) (hO:Only w V (fun c=>c=b))=>h.turnsB hO)
 have GL:=zH (gone_parts h).1
 cases ho:(goneS s).off
 · rw [ho] at BG
   cases hn:nameOk nm
   · have e:createS s nm=(goneS s,1):=by unfold createS;rw [ho,hn];simp
     rw [e]
     clear e
     go_enter Tryz.func122,Tryz.ntmps122
     go_wp2_with (first
      | (go_at_call 159;refine BG.out.mono ?_;rintro e w1 ⟨rfl,hD,hO⟩)
      | (go_at_call 160;obtain ⟨mf,ml,fb,col,hb,hx⟩:=hD.at_;refine (find_dk hb hx nm hnm).mono ?_;rw [foundV_bad hn];rintro e w' ⟨rfl,rfl⟩))
     go_ret
     exact ⟨rfl,F,hD,TB.out _ hO⟩
   · cases hg:getF s.l nm with
     | some f=>
      have e:createS s nm=(goneS s,4):=by unfold createS;rw [ho,hn,hg];simp
      rw [e]
      have hg2:getF (goneS s).l nm=some f:=by rw [GL.out];exact hg
      clear e
      go_enter Tryz.func122,Tryz.ntmps122
      go_wp2_with (first
       | (go_at_call 159;refine BG.out.mono ?_;rintro e w1 ⟨rfl,hD,hO⟩)
       | (go_at_call 160;obtain ⟨mf,ml,fb,col,hb,hx⟩:=hD.at_;refine (find_dk hb hx nm hnm).mono ?_;rw [foundV_some hn hg2];rintro e w' ⟨rfl,rfl⟩))
      go_ret
      exact ⟨rfl,F,hD,TB.out _ hO⟩
     | none=>
      have e:createS s nm=({goneS s with l:=putF s.l ⟨nm,[],[],fun _=>false⟩},0):=by unfold createS;rw [ho,hn,hg];simp
      rw [e]
      have hg2:getF (goneS s).l nm=none:=by rw [GL.out];exact hg
      rw [←GL.out]
      clear e
      go_enter Tryz.func122,Tryz.ntmps122
      go_wp2_with (first
       | (go_at_call 159;refine BG.out.mono ?_;rintro e w1 ⟨rfl,hD,hO⟩)
       | (go_at_call 160;obtain ⟨mf,ml,fb,col,hb,hx⟩:=hD.at_;refine (find_dk hb hx nm hnm).mono ?_;rw [foundV_none hn hg2];rintro e w' ⟨rfl,rfl⟩;have c0:=hb.cell 0 rfl;have HM:=hx.files)
       | (at_mapUpdate;refine wpList_putV _ rfl _ _ _ rfl filesT mf _ rfl (HM.keep (zA _ _)) nm rfl w1.heap.size rfl ?_;intro w2 hM2 hO2))
      have k1:=zA w1 (.cells #[.slice none 0 0, .slice none 0 0] 126)
      have hOO:Only w1 w2 (fun c=>c=mf):=((Only.of_keeps k1).weak (fun _ e=>e.elim)).trans hO2 (fun i hi=>.inl hi)
      have hmf:=hx.lt mf hx.nf.1
      have bk:Box w2 w1.heap.size 126 #[.slice none 0 0, .slice none 0 0]:=(hO2.block _ (by simp) (by omega)).trans (Box.new w1 126 _)
      have X2:=hx.put hg2 (Nat.le_refl _) (by have:=hO2.size;simp at this;omega) hM2 bk hOO
      have B2:Box w2 b 131 (dkC mf ml (goneS s).q (goneS s).armed (goneS s).off):=(hOO.block b hb.lt (HM.ne hb)).trans hb
      have D2:=hD.make (hD.lok.put (f:=⟨nm,[],[],fun _=>false⟩) hg2 (FlOk.fresh hn) (by show usedL (goneS s).l+sect 0≤_;have:=hD.used;unfold sect;omega)) ⟨mf,ml,_,_,B2,X2⟩
      have T2:=(TB.out _ hO).trans (T:=F) (U:=fun i=>F i∨i=w1.heap.size) (Turns.mk (hOO.weak fun i hi=>by rw [hi];exact hx.nf.1) fun i hi=>by
       rcases hi with hi|hi
       · exact .inl hi
       · exact .inr (by omega))
      go_ret
      exact ⟨rfl,_,D2,T2⟩
 · rw [ho] at BG
   have e:createS s nm=(goneS s,6):=by unfold createS;rw [ho];simp
   rw [e]
   clear e
   go_enter Tryz.func122,Tryz.ntmps122
   go_wp2_with (go_at_call 159;refine BG.out.mono ?_;rintro e w1 ⟨rfl,hD,hO⟩)
   go_ret
   exact ⟨rfl,F,hD,TB.out _ hO⟩
end
end Go.Proofs.YtjmkagakdhhigaaGreatDoor
