/- Package disk: closures that ask for a file's sectors; Remove. -/
import Derived.Test.YtjmkagakdhhigaaGreatDoorQDkD
import Derived.BigQuiet
set_option linter.unusedVariables false
set_option linter.unusedSimpArgs false
set_option maxRecDepth 100000
namespace Go.Proofs.YtjmkagakdhhigaaGreatDoor
open Go.RowKit Go.Shelf
section
variable {w w':World} {b:Nat} {F:Nat→Prop} {s:Ds}
theorem Dk.keep (h:Dk w b F s) (k:Keeps w w'):Dk w' b F s:=h.same (fun i hi=>k.block i (h.lt i hi)) k.size
theorem DkX.relist {l l':List Fl} {mf ml:Nat} {fb:List UInt8→Nat} {col:Nat→Option (List UInt8)} (h:DkX w b F l mf ml fb col) (hsub:∀ g∈l',∃ f∈l,f.name=g.name∧f.now=g.now∧f.lasts=g.lasts)
 (hM:FilesM w' mf (l'.map fun f=>(f.name,fb f.name))) (hL:∃ l2,LooseM w' ml l2∧∀ p,p∈l2.map Prod.fst↔LooseIn l' p) (hO:Only w w' (fun c=>c=mf∨c=ml∨¬ F c)):DkX w' b F l' mf ml fb col:=by
 refine ⟨fun i hi=>Nat.lt_of_lt_of_le (h.lt i hi) hO.size,h.nb,h.nf,h.nl,h.ne,hM,hL,fun g hg=>?_⟩
 obtain ⟨f,hf,e1,e2,e3⟩:=hsub g hg
 obtain ⟨v1,v2,q⟩:=h.each f hf
 rw [e1,e2,e3] at q
 exact ⟨v1,v2,q.same fun i hi=>hO.block i (h.lt i hi.1) (fun e=>by
  rcases e with e|e|e
  · have:=hi.2;rw [e,h.nf.2] at this;cases this
  · have:=hi.2;rw [e,h.nl.2] at this;cases this
  · exact e hi.1)⟩
def NameJ (bn:Nat) (nm:List UInt8) (_:List Pl) (T:Nat→Prop) (W:World):Prop:=T=(fun c=>c=bn)∧Box W bn 9 #[.string (str nm)]
theorem str_eq_cases (a c:List UInt8):((str a).toList == (str c).toList)=decide (a=c):=by
 rw [str_toList,str_toList]
 by_cases h:a=c<;>simp [h]
theorem removeC_any (bn:Nat) (nm:List UInt8) (x:Pl) (W:World) (hb:Box W bn 9 #[.string (str nm)]) :
 Calls Tryz.prog 177 (#[.agg #[.string (str x.1), .int .i64 (x.2:Int)]] ++ #[.pointer (some ⟨bn,0,none⟩)]) W fun e W'=>e = .returned (.bool (decide (x.1=nm)))∧Keeps W W':=by
 have k:=zA W (.cells #[.string (str x.1), .int .i64 (x.2:Int)] 69)
 have c0:=(hb.keep k).cell 0 rfl
 have hbl:=hb.lt
 show Calls _ _ #[.agg #[.string (str x.1), .int .i64 (x.2:Int)], .pointer (some ⟨bn,0,none⟩)] W _
 have he:=str_eq_cases x.1 nm
 have HE:=zH he
 clear hb
 go_enter Tryz.func177,Tryz.ntmps177
 go_wp2_with fail
 go_ret
 exact ⟨by first|rfl|(rw [HE.out])|(congr 2;exact HE.out),k⟩
theorem syncC_any (bn:Nat) (nm:List UInt8) (x:Pl) (W:World) (hb:Box W bn 9 #[.string (str nm)]) :
 Calls Tryz.prog 170 (#[.agg #[.string (str x.1), .int .i64 (x.2:Int)]] ++ #[.pointer (some ⟨bn,0,none⟩)]) W fun e W'=>e = .returned (.bool (decide (x.1=nm)))∧Keeps W W':=by
 have k:=zA W (.cells #[.string (str x.1), .int .i64 (x.2:Int)] 69)
 have c0:=(hb.keep k).cell 0 rfl
 have hbl:=hb.lt
 show Calls _ _ #[.agg #[.string (str x.1), .int .i64 (x.2:Int)], .pointer (some ⟨bn,0,none⟩)] W _
 have he:=str_eq_cases x.1 nm
 have HE:=zH he
 clear hb
 go_enter Tryz.func170,Tryz.ntmps170
 go_wp2_with fail
 go_ret
 exact ⟨by first|rfl|(rw [HE.out])|(congr 2;exact HE.out),k⟩
theorem forgetK_any {mf ml q armed:Nat} {off:Bool} (h:Box w b 131 (dkC mf ml q armed off)) {l2:List (Pl×Unit)} (hm:LooseM w ml l2) (g:FuncId) (lb:Array Value) (eg:∀ args w,(callFunc g args).run Tryz.prog w = .ok (.enter g args) w)
 (pq:Pl→Bool) (T:Nat→Prop) (hT:∀ c,T c→c<w.heap.size∧c≠b∧c≠ml)
 (hq:∀ (x:Pl) W,(∀ c,T c→W.heap[c]? = w.heap[c]?)→Calls Tryz.prog g (#[.agg #[.string (str x.1), .int .i64 (x.2:Int)]]++lb) W fun e W'=>e = .returned (.bool (pq x))∧Keeps W W') :
 Calls Tryz.prog 169 #[.pointer (some ⟨b,0,none⟩), .func (.func g) #[] lb] w fun e w'=>e = .returned (.tuple #[])∧LooseM w' ml (l2.filter fun p=>!pq p.1)∧Only w w' (fun c=>c=ml∨T c):=by
 refine (forget_any h hm g lb eg pq (fun _ T' W=>T'=T∧(∀ c,T c→W.heap[c]? = w.heap[c]?)∧w.heap.size≤W.heap.size) T hT ⟨rfl,fun _ _=>rfl,Nat.le_refl _⟩ ?_ ?_ ?_).mono ?_
 · rintro pre T' W W' ⟨rfl,h1,h2⟩ hs hsz
   exact ⟨rfl,fun c hc=>(hs c hc).trans (h1 c hc),Nat.le_trans h2 hsz⟩
 · rintro pre T' W ⟨rfl,h1,h2⟩ c hc
   exact Nat.lt_of_lt_of_le (hT c hc).1 h2
 · rintro pre T' x W ⟨rfl,h1,h2⟩ -
   refine (hq x W h1).mono ?_
   rintro e W' ⟨rfl,k⟩
   exact ⟨rfl,T',⟨rfl,fun c hc=>(k.block c (Nat.lt_of_lt_of_le (hT c hc).1 h2)).trans (h1 c hc),Nat.le_trans h2 k.size⟩,Turns.of_keeps k⟩
 · rintro e W' ⟨rfl,ss,T',-,⟨rfl,h1,h2⟩,hM,hO,-⟩
   exact ⟨rfl,hM,hO⟩
theorem forgetName_any {mf ml q armed:Nat} {off:Bool} (h:Box w b 131 (dkC mf ml q armed off)) {l2:List (Pl×Unit)} (hm:LooseM w ml l2) (g:FuncId) (hg:g=177) (bn:Nat) (nm:List UInt8) (hb:Box w bn 9 #[.string (str nm)]) (hne:bn≠b) :
 Calls Tryz.prog 169 #[.pointer (some ⟨b,0,none⟩), .func (.func g) #[] #[.pointer (some ⟨bn,0,none⟩)]] w fun e w'=>e = .returned (.tuple #[])∧LooseM w' ml (l2.filter fun p=>!decide (p.1.1=nm))∧Only w w' (fun c=>c=ml∨c=bn):=by
 have hne2:bn≠ml:=hm.ne hb
 refine forgetK_any h hm g _ ?_ (fun p=>decide (p.1=nm)) (fun c=>c=bn) (fun c hc=>by rw [hc];exact ⟨hb.lt,hne,hne2⟩) ?_
 · subst hg
   exact enters_of Tryz.func177 (by kernel_rfl) rfl
 · intro x W hW
   subst hg
   exact removeC_any bn nm x W ((hW bn rfl).trans hb)
theorem forgetSync_any {mf ml q armed:Nat} {off:Bool} (h:Box w b 131 (dkC mf ml q armed off)) {l2:List (Pl×Unit)} (hm:LooseM w ml l2) (g:FuncId) (hg:g=170) (bn:Nat) (nm:List UInt8) (hb:Box w bn 9 #[.string (str nm)]) (hne:bn≠b) :
 Calls Tryz.prog 169 #[.pointer (some ⟨b,0,none⟩), .func (.func g) #[] #[.pointer (some ⟨bn,0,none⟩)]] w fun e w'=>e = .returned (.tuple #[])∧LooseM w' ml (l2.filter fun p=>!decide (p.1.1=nm))∧Only w w' (fun c=>c=ml∨c=bn):=by
 have hne2:bn≠ml:=hm.ne hb
 refine forgetK_any h hm g _ ?_ (fun p=>decide (p.1=nm)) (fun c=>c=bn) (fun c hc=>by rw [hc];exact ⟨hb.lt,hne,hne2⟩) ?_
 · subst hg
   exact enters_of Tryz.func170 (by kernel_rfl) rfl
 · intro x W hW
   subst hg
   exact syncC_any bn nm x W ((hW bn rfl).trans hb)
set_option maxHeartbeats 8000000 in
theorem remove_any (h:Dk w b F s) (nm:List UInt8) (hnm:nm.length≤maxLen) :
 Calls Tryz.prog 145 #[dpt b,strV nm] w fun e w'=>e = .returned (.int .i64 ((removeS s nm).2:Int))∧∃ F',Dk w' b F' (removeS s nm).1∧Turns w w' F F':=by
 show Calls _ _ #[.pointer (some ⟨b,0,none⟩), .string (str nm)] w _
 have k0:=zA w (.cells #[.string (str nm)] 9)
 have h0:=h.keep k0
 have hFl:=h.lt
 have bx:=Box.new w 9 #[.string (str nm)]
 have BG:=zH (begin_dk h0)
 have TB:=zH (fun (V:World) (hO:Only (w.alloc (.cells #[.string (str nm)] 9)) V (fun c=>c=b))=>(Turns.of_keeps (S:=F) k0).trans (h0.turnsB hO))
 have GL:=zH (gone_parts h).1
 have hbw:b<w.heap.size:=by
  obtain ⟨mf,ml,fb,col,hb,hx⟩:=h.at_
  exact hb.lt
 have NB:=zH (fun (V:World) (hO:Only (w.alloc (.cells #[.string (str nm)] 9)) V (fun c=>c=b))=>show Box V w.heap.size 9 #[.string (str nm)] from (hO.block _ bx.lt (by omega)).trans bx)
 cases ho:(goneS s).off
 · rw [ho] at BG
   cases hn:nameOk nm
   · have e:removeS s nm=(goneS s,1):=by unfold removeS;rw [ho,hn];simp
     rw [e]
     clear e h h0 bx
     go_enter Tryz.func145,Tryz.ntmps145
     go_wp2_with (first
      | (go_at_call 159;refine BG.out.mono ?_;rintro e w1 ⟨rfl,hD,hO⟩;have n0:=(NB.out _ hO).cell 0 rfl)
      | (go_at_call 160;obtain ⟨mf,ml,fb,col,hb,hx⟩:=hD.at_;refine (find_dk hb hx nm hnm).mono ?_;rw [foundV_bad hn];rintro e w' ⟨rfl,rfl⟩))
     go_ret
     exact ⟨rfl,F,hD,TB.out _ hO⟩
   · cases hg:getF s.l nm with
     | none=>
      have e:removeS s nm=(goneS s,3):=by unfold removeS;rw [ho,hn,hg];simp
      rw [e]
      have hg2:getF (goneS s).l nm=none:=by rw [GL.out];exact hg
      clear e h h0 bx
      go_enter Tryz.func145,Tryz.ntmps145
      go_wp2_with (first
       | (go_at_call 159;refine BG.out.mono ?_;rintro e w1 ⟨rfl,hD,hO⟩;have n0:=(NB.out _ hO).cell 0 rfl)
       | (go_at_call 160;obtain ⟨mf,ml,fb,col,hb,hx⟩:=hD.at_;refine (find_dk hb hx nm hnm).mono ?_;rw [foundV_none hn hg2];rintro e w' ⟨rfl,rfl⟩))
      go_ret
      exact ⟨rfl,F,hD,TB.out _ hO⟩
     | some f=>
      have e:removeS s nm=({goneS s with l:=delF s.l nm},0):=by unfold removeS;rw [ho,hn,hg];simp
      rw [e]
      have hg2:getF (goneS s).l nm=some f:=by rw [GL.out];exact hg
      rw [←GL.out]
      clear e h h0 bx
      go_enter Tryz.func145,Tryz.ntmps145
      go_wp2_with (first
       | (go_at_call 159;refine BG.out.mono ?_;rintro e w1 ⟨rfl,hD,hO⟩;have n0:=(NB.out _ hO).cell 0 rfl)
       | (go_at_call 160;obtain ⟨mf,ml,fb,col,hb,hx⟩:=hD.at_;refine (find_dk hb hx nm hnm).mono ?_;rw [foundV_some hn hg2];rintro e w' ⟨rfl,rfl⟩))
      have c0:w1.cell? ⟨b,0,none⟩=some (.map (some mf)):=hb.cell 0 rfl
      have HB:=zH hb
      have HX:=zH hx
      have HO:=zH hO
      have HD:=zH hD
      have hlb:=hb.lt
      have hls:w.heap.size<w1.heap.size:=(NB.out _ hO).lt
      clear hb hx hD
      go_region_law ((refine step_delV _ rfl (.tmp 25) (.tmp 26) rfl filesT mf _ (by simp [Act.eval,Act.put]) (HX.out.files.keep (zD _)) nm (by simp [Act.eval,Act.put,strW]) ?_);intro w2 hM2 hO2)
      all_goals
       have O2:Only w1 w2 (fun c=>c=mf):=((Only.of_keeps (zD w1)).weak (fun _ e=>e.elim)).trans hO2 (fun i hi=>.inl hi)
       obtain ⟨l2,hm2,hmem⟩:=HX.out.loose
       have B2:Box w2 b 131 (dkC mf ml (goneS s).q (goneS s).armed (goneS s).off):=(O2.block b HB.out.lt (HX.out.files.ne HB.out)).trans HB.out
       have N2:Box w2 w.heap.size 9 #[.string (str nm)]:=(O2.block _ hls (HX.out.files.ne (NB.out _ HO.out))).trans (NB.out _ HO.out)
       have M2:LooseM w2 ml l2:=hm2.same (O2.block ml hm2.lt (fun e=>HX.out.ne e.symm))
       have FG:=zH (forgetName_any B2 M2 177 rfl w.heap.size nm N2 (by omega))
       have FIN:=zH (show ∀ w3,LooseM w3 ml (l2.filter fun p=>!decide (p.1.1=nm))→Only w2 w3 (fun c=>c=ml∨c=w.heap.size)→Dk w3 b F {goneS s with l:=delF (goneS s).l nm}∧Turns w w3 F F from fun w3 hL3 hO3=>by
        have O3:Only w1 w3 (fun c=>c=mf∨c=ml∨c=w.heap.size):=(O2.weak (fun i hi=>.inl hi)).trans hO3 (fun i hi=>.inl (.inr hi))
        have nF:¬ F w.heap.size:=fun e=>by have:=hFl _ e;omega
        have hM3:FilesM w3 mf ((delF (goneS s).l nm).map fun f=>(f.name,fb f.name)):=by
         have h3:FilesM w3 mf (delM ((goneS s).l.map fun f=>(f.name,fb f.name)) nm):=hM2.same (hO3.block mf hM2.lt (fun e=>by
          rcases e with e|e
          · exact HX.out.ne e
          · exact nF (by rw [←e];exact HX.out.nf.1)))
         have e3:delM ((goneS s).l.map fun f=>(f.name,fb f.name)) nm=(delF (goneS s).l nm).map fun f=>(f.name,fb f.name):=by
          unfold delM delF
          rw [List.filter_map]
          rfl
         rw [e3] at h3
         exact h3
        have X3:=HX.out.relist (l':=delF (goneS s).l nm) (fun g hg=>⟨g,(List.mem_filter.1 hg).1,rfl,rfl,rfl⟩) hM3 ⟨_,hL3,fun p=>by
         have h4:=hmem p
         constructor
         · intro hp
           obtain ⟨q,hq,rfl⟩:=List.mem_map.1 hp
           obtain ⟨q1,q2⟩:=List.mem_filter.1 hq
           obtain ⟨g,hg,g1,g2⟩:=h4.1 (List.mem_map.2 ⟨q,q1,rfl⟩)
           refine ⟨g,List.mem_filter.2 ⟨hg,?_⟩,g1,g2⟩
           simp only [Bool.not_eq_true',decide_eq_false_iff_not] at q2
           rw [g1]
           exact decide_eq_true q2
         · rintro ⟨g,hg,g1,g2⟩
           obtain ⟨hg1,hg3⟩:=List.mem_filter.1 hg
           obtain ⟨q,hq,rfl⟩:=List.mem_map.1 (h4.2 ⟨g,hg1,g1,g2⟩)
           refine List.mem_map.2 ⟨q,List.mem_filter.2 ⟨hq,?_⟩,rfl⟩
           have:=of_decide_eq_true hg3
           rw [g1] at this
           simp [this]⟩ (O3.weak (fun i hi=>by
         rcases hi with hi|hi|hi
         · exact .inl hi
         · exact .inr (.inl hi)
         · exact .inr (.inr (by rw [hi];exact nF))))
        refine ⟨HD.out.make (HD.out.lok.del nm) ⟨mf,ml,fb,col,(O3.block b HB.out.lt (fun e=>?_)).trans HB.out,X3⟩,⟨(TB.out _ HO.out).only.trans O3 (fun i hi=>?_),fun _ hi=>.inl hi⟩⟩
        · rcases e with e|e|e
          · exact HX.out.files.ne HB.out e
          · exact hm2.ne HB.out e
          · omega
        · rcases hi with hi|hi|hi
          · exact .inl (by rw [hi];exact HX.out.nf.1)
          · exact .inl (by rw [hi];exact HX.out.nl.1)
          · exact .inr (by omega))
       clear hM2 hO2 O2 hm2 hmem B2 N2 M2 c0 n0
       go_wp2_with (go_at_call 169;refine FG.out.mono ?_;rintro e w3 ⟨rfl,hL3,hO3⟩)
       have FF:=FIN.out w3 hL3 hO3
       go_ret
       exact ⟨rfl,F,FF.1,FF.2⟩
 · rw [ho] at BG
   have e:removeS s nm=(goneS s,6):=by unfold removeS;rw [ho];simp
   rw [e]
   clear e h h0 bx
   go_enter Tryz.func145,Tryz.ntmps145
   go_wp2_with (go_at_call 159;refine BG.out.mono ?_;rintro e w1 ⟨rfl,hD,hO⟩)
   go_ret
   exact ⟨rfl,F,hD,TB.out _ hO⟩
end
theorem uniq_name {l:List Fl} (hn:(l.map (·.name)).Nodup) {f g:Fl} (hf:f∈l) (hg:g∈l) (he:g.name=f.name):g=f:=by
 have e1:=getF_of_mem hn hg
 have e2:=getF_of_mem hn hf
 rw [he,e2] at e1
 exact (Option.some.inj e1).symm
theorem looseIn_one {l:List Fl} (hn:(l.map (·.name)).Nodup) {f:Fl} (hf:f∈l) {p:List UInt8×Nat} (hp:p.1=f.name):LooseIn l p↔f.loose p.2=true:=by
 constructor
 · rintro ⟨g,hg,g1,g2⟩
   rwa [uniq_name hn hf hg (g1.trans hp)] at g2
 · intro h
   exact ⟨f,hf,hp.symm,h⟩
theorem looseIn_set2 {l:List Fl} (hn:(l.map (·.name)).Nodup) {f f':Fl} (hf:f∈l) (he:f'.name=f.name) (p:List UInt8×Nat):LooseIn (setF l f') p↔(p.1≠f.name∧LooseIn l p)∨(p.1=f.name∧f'.loose p.2=true):=by
 constructor
 · rintro ⟨g,hg,h1,h2⟩
   rcases mem_setF hg with ⟨rfl,-⟩|⟨hg',hne⟩
   · exact .inr ⟨by rw [←h1,he],h2⟩
   · exact .inl ⟨fun e=>hne (by rw [h1,e,he]),g,hg',h1,h2⟩
 · rintro (⟨h1,g,hg,g1,g2⟩|⟨h1,h2⟩)
   · exact ⟨g,setF_other hg (fun e=>h1 (by rw [←g1,e,he])),g1,g2⟩
   · exact ⟨f',setF_self hf he.symm,by rw [he,h1],h2⟩
theorem filt_keys {l2:List (Pl×Unit)} (q:Pl→Bool) (p:Pl):p∈(l2.filter fun x=>q x.1).map Prod.fst↔p∈l2.map Prod.fst∧q p=true:=by
 constructor
 · intro h
   obtain ⟨x,hx,rfl⟩:=List.mem_map.1 h
   obtain ⟨h1,h2⟩:=List.mem_filter.1 hx
   exact ⟨List.mem_map.2 ⟨x,h1,rfl⟩,h2⟩
 · rintro ⟨h1,h2⟩
   obtain ⟨x,hx,rfl⟩:=List.mem_map.1 h1
   exact List.mem_map.2 ⟨x,List.mem_filter.2 ⟨hx,h2⟩,rfl⟩
section
variable {w w':World} {b:Nat} {F:Nat→Prop} {s:Ds}
theorem DkX.remark {l:List Fl} {f1 f2:Fl} {mf ml:Nat} {fb:List UInt8→Nat} {col:Nat→Option (List UInt8)} (h:DkX w b F (setF l f1) mf ml fb col) (e1:f2.name=f1.name) (e2:f2.now=f1.now) (e3:f2.lasts=f1.lasts)
 (hL:∃ l3,LooseM w' ml l3∧∀ p,p∈l3.map Prod.fst↔LooseIn (setF l f2) p) (hO:Only w w' (fun c=>c=ml∨¬ F c)):DkX w' b F (setF l f2) mf ml fb col:=by
 refine h.relist (fun g hg=>?_) ?_ hL (hO.weak fun i hi=>by
  rcases hi with hi|hi
  · exact .inr (.inl hi)
  · exact .inr (.inr hi))
 · rcases mem_setF hg with ⟨rfl,f,hf,hfn⟩|⟨hg',hne⟩
   · exact ⟨f1,setF_self hf (by rw [hfn,e1]),e1.symm,e2.symm,e3.symm⟩
   · exact ⟨g,setF_other hg' (by rw [←e1];exact hne),rfl,rfl,rfl⟩
 · rw [names_map (setF l f1) (setF l f2) fb (by rw [setF_names,setF_names])]
   exact h.files.same (hO.block mf h.files.lt (fun e=>by
    rcases e with e|e
    · exact h.ne e
    · exact e h.nf.1))
set_option maxHeartbeats 16000000 in
theorem sync_any (h:Dk w b F s) (nm:List UInt8) (hnm:nm.length≤maxLen) :
 Calls Tryz.prog 130 #[dpt b,strV nm] w fun e w'=>e = .returned (.int .i64 ((syncS s nm).2:Int))∧∃ F',Dk w' b F' (syncS s nm).1∧Turns w w' F F':=by
 show Calls _ _ #[.pointer (some ⟨b,0,none⟩), .string (str nm)] w _
 obtain ⟨i0,hi,hz0,hz1,hz2⟩:=info_parts info_byte
 have k0:=zA w (.cells #[.string (str nm)] 9)
 have h0:=h.keep k0
 have hFl:=h.lt
 have bx:=Box.new w 9 #[.string (str nm)]
 have BG:=zH (begin_dk h0)
 have TB:=zH (fun (V:World) (hO:Only (w.alloc (.cells #[.string (str nm)] 9)) V (fun c=>c=b))=>(Turns.of_keeps (S:=F) k0).trans (h0.turnsB hO))
 have GL:=zH (gone_parts h).1
 have hbw:b<w.heap.size:=by
  obtain ⟨mf,ml,fb,col,hb,hx⟩:=h.at_
  exact hb.lt
 have NB:=zH (fun (V:World) (hO:Only (w.alloc (.cells #[.string (str nm)] 9)) V (fun c=>c=b))=>show Box V w.heap.size 9 #[.string (str nm)] from (hO.block _ bx.lt (by omega)).trans bx)
 cases ho:(goneS s).off
 · rw [ho] at BG
   cases hn:nameOk nm
   · have e:syncS s nm=(goneS s,1):=by unfold syncS;rw [ho,hn];simp
     rw [e]
     clear e h h0 bx
     go_enter Tryz.func130,Tryz.ntmps130
     go_wp2_with (first
      | (go_at_call 159;refine BG.out.mono ?_;rintro e w1 ⟨rfl,hD,hO⟩;have n0:=(NB.out _ hO).cell 0 rfl)
      | (go_at_call 160;obtain ⟨mf,ml,fb,col,hb,hx⟩:=hD.at_;refine (find_dk hb hx nm hnm).mono ?_;rw [foundV_bad hn];rintro e w' ⟨rfl,rfl⟩))
     go_ret
     exact ⟨rfl,F,hD,TB.out _ hO⟩
   · cases hg:getF s.l nm with
     | none=>
      have e:syncS s nm=(goneS s,3):=by unfold syncS;rw [ho,hn,hg];simp
      rw [e]
      have hg2:getF (goneS s).l nm=none:=by rw [GL.out];exact hg
      clear e h h0 bx
      go_enter Tryz.func130,Tryz.ntmps130
      go_wp2_with (first
       | (go_at_call 159;refine BG.out.mono ?_;rintro e w1 ⟨rfl,hD,hO⟩;have n0:=(NB.out _ hO).cell 0 rfl)
       | (go_at_call 160;obtain ⟨mf,ml,fb,col,hb,hx⟩:=hD.at_;refine (find_dk hb hx nm hnm).mono ?_;rw [foundV_none hn hg2];rintro e w' ⟨rfl,rfl⟩))
      go_ret
      exact ⟨rfl,F,hD,TB.out _ hO⟩
     | some f=>
      have e:syncS s nm=({goneS s with l:=setF s.l (syncF f)},0):=by unfold syncS;rw [ho,hn,hg];simp
      rw [e]
      have hg2:getF (goneS s).l nm=some f:=by rw [GL.out];exact hg
      rw [←GL.out]
      have HFN:=zH (getF_name hg)
      clear e h h0 bx
      go_enter Tryz.func130,Tryz.ntmps130
      go_wp2_with (first
       | (go_at_call 159;refine BG.out.mono ?_;rintro e w1 ⟨rfl,hD,hO⟩;have n0:=(NB.out _ hO).cell 0 rfl)
       | (go_at_call 160;obtain ⟨mf,ml,fb,col,hb,hx⟩:=hD.at_;refine (find_dk hb hx nm hnm).mono ?_;rw [foundV_some hn hg2];rintro e w' ⟨rfl,rfl⟩))
      have hfm:=getF_mem hg2
      have hfo:=hD.ok.files f hfm
      obtain ⟨v1,v2,hA⟩:=hx.each f hfm
      obtain ⟨A,cap,rfl,hcap,hcm,-⟩:=hA.own1.form
      obtain ⟨A2,cap2,rfl,hcap2,hcm2,-⟩:=hA.own2.form
      have c0:w1.cell? ⟨fb f.name,0,none⟩=some (.slice A f.now.length cap):=hA.box.cell 0 rfl
      have c1:w1.cell? ⟨fb f.name,1,none⟩=some (.slice A2 f.lasts.length cap2):=hA.box.cell 1 rfl
      have f1:=hA.box.frozen 1
      have hkl:=hA.lt
      have CUT:=zH (hA.own2.cut1 (Nat.zero_le f.lasts.length))
      have bxn:(Value.slice A2 0 cap2).ownBlock≠some (fb f.name):=by rw [own_block_len (n:=0) (m:=f.lasts.length)];exact hA.own2.not_box hA.box file_ne
      have HB:=zH hb
      have HX:=zH hx
      have HO:=zH hO
      have HD:=zH hD
      have HA:=zH hA
      have HFO:=zH hfo
      have HSZ:=zH hfo.size
      have HFM:=zH hfm
      have hlb:=hb.lt
      have hls:w.heap.size<w1.heap.size:=(NB.out _ hO).lt
      have hlf:(f.lasts.length:Int)≤(cap2:Int):=by omega
      clear hb hx hD hA hfo hfm hcm hcm2
      go_region_law ((refine step_appD _ rfl (.tmp 27) (.tmp 31) 36 rfl 0 5 i0 (.int .u8 0) 1 1 Tryz.underlying36 hi hz0 hz1 hz2 rfl (by decide) (.slice A2 0 cap2) 0 [] (by simp [Act.eval,Act.put]) ((by simpa using CUT.out:Own w1 0 5 1 (.slice A2 0 cap2) 0 []).keep (zD _)) _ A f.now.length cap (cel f.now) (by simp [Act.eval,Act.put]) (by rw [cel_length,Nat.mul_one]) (HA.out.own1.at_.keep (zD _)) (cel_one _) (by have:=HSZ.out;unfold maxLen;omega) (by have:=HSZ.out;omega) (Nat.zero_le _) ?_);intro v' w3 hown' hgrow hblk;obtain ⟨A',cap',rfl,-⟩:=hown'.form;have hb3:Box w3 (fb f.name) 126 #[.slice A f.now.length cap, .slice A2 f.lasts.length cap2]:=(hgrow.block _ (by simp;omega) (fun e=>bxn e.symm)).trans (HA.out.box.keep (zD _));have z0:=hb3.cell 1 rfl;have z1:=hb3.frozen 1)
      all_goals
       have hown2:Own w3 0 5 1 (.slice A' f.now.length cap') f.now.length (cel f.now):=by simpa using hown'
       have hgr:w1.grownBy w3 (Value.slice A2 f.lasts.length cap2).ownBlock:=by
        rw [own_block_len (n:=f.lasts.length) (m:=0)]
        exact grownBy_step ((zD _).grown_ _) hgrow (.inl rfl)
       rw [Nat.zero_add] at hblk
       have FP:=HA.out.put2 hgr hown2 (by
        rw [own_block_len (n:=f.lasts.length) (m:=0)]
        rcases hblk with e|e
        · exact .inl e
        · exact .inr ⟨_,e,Nat.le_refl _⟩)
       clear hown' hgrow hblk hb3 z0 z1 c0 c1 f1 hown2 hgr
       generalize w3.setCell ⟨fb f.name,1,none⟩ (.slice A' f.now.length cap')=w4 at *
       obtain ⟨F4,O4⟩:=FP
       have X4:=HX.out.turn (f':={f with lasts:=f.now}) HFM.out rfl (fun _=>rfl) O4 F4
       have T4:Turns w1 w4 F (more w1 w4 F):=turns_more O4 (fun i hi=>hi.1)
       have B4:Box w4 b 131 (dkC mf ml (goneS s).q (goneS s).armed (goneS s).off):=HX.out.box HB.out O4
       have nF:¬ F w.heap.size:=fun e=>by have:=hFl _ e;omega
       have N4:Box w4 w.heap.size 9 #[.string (str nm)]:=(O4.block _ hls (fun e=>nF e.1)).trans (NB.out _ HO.out)
       obtain ⟨l4,hm4,hmem⟩:=X4.loose
       have FG:=zH (forgetSync_any B4 hm4 170 rfl w.heap.size nm N4 (by omega))
       have FIN:=zH (show ∀ w5,LooseM w5 ml (l4.filter fun p=>!decide (p.1.1=nm))→Only w4 w5 (fun c=>c=ml∨c=w.heap.size)→Dk w5 b (more w1 w4 F) {goneS s with l:=setF (goneS s).l (syncF f)}∧Turns w w5 F (more w1 w4 F) from fun w5 hL5 hO5=>by
        have nF4:¬ more w1 w4 F w.heap.size:=fun e=>by
         rcases e with e|e
         · exact nF e
         · omega
        have X5:=X4.remark (f2:=syncF f) rfl rfl rfl ⟨_,hL5,fun p=>by
         rw [filt_keys (fun q=>!decide (q.1=nm)),hmem p,looseIn_set (f:=f) (f':={f with lasts:=f.now}) HX.out.nodup HFM.out rfl (fun _=>rfl) p,looseIn_set2 (f:=f) (f':=syncF f) HX.out.nodup HFM.out rfl p]
         simp only [Bool.not_eq_true',decide_eq_false_iff_not]
         rw [HFN.out]
         constructor
         · rintro ⟨h1,h2⟩
           exact .inl ⟨h2,h1⟩
         · rintro (⟨h1,h2⟩|⟨h1,h2⟩)
           · exact ⟨h2,h1⟩
           · cases h2⟩ (hO5.weak fun i hi=>by
         rcases hi with hi|hi
         · exact .inl hi
         · exact .inr (by rw [hi];exact nF4))
        have hne:b≠ml:=hm4.ne B4
        refine ⟨HD.out.make (HD.out.lok.set (f:=f) (f':=syncF f) (by show getF _ f.name=_;rw [HFN.out];exact hg2) HFO.out.sync (by show usedL (goneS s).l+sect f.now.length≤_;have:=HD.out.used;omega)) ⟨mf,ml,fb,_,(hO5.block b B4.lt (fun e=>?_)).trans B4,X5⟩,⟨((TB.out _ HO.out).trans T4).only.trans hO5 (fun i hi=>?_),((TB.out _ HO.out).trans T4).next⟩⟩
        · rcases e with e|e
          · exact hne e
          · omega
        · rcases hi with hi|hi
          · exact .inl (by rw [hi];exact HX.out.nl.1)
          · exact .inr (by omega))
       clear F4 O4 X4 T4 B4 N4 hm4 hmem n0 nF
       go_wp2_with (go_at_call 169;refine FG.out.mono ?_;rintro e w5 ⟨rfl,hL5,hO5⟩)
       have FF:=FIN.out w5 hL5 hO5
       go_ret
       exact ⟨rfl,_,FF.1,FF.2⟩
 · rw [ho] at BG
   have e:syncS s nm=(goneS s,6):=by unfold syncS;rw [ho];simp
   rw [e]
   clear e h h0 bx
   go_enter Tryz.func130,Tryz.ntmps130
   go_wp2_with (go_at_call 159;refine BG.out.mono ?_;rintro e w1 ⟨rfl,hD,hO⟩)
   go_ret
   exact ⟨rfl,F,hD,TB.out _ hO⟩
end
section
variable {w w':World} {b:Nat} {F:Nat→Prop} {s:Ds}
end
end Go.Proofs.YtjmkagakdhhigaaGreatDoor
