/- Package disk: the small functions. -/
import Derived.Test.YtjmkagakdhhigaaGreatDoorProg
import Derived.Test.YtjmkagakdhhigaaGreatDoorQDiskMath
import Derived.Test.YtjmkagakdhhigaaGreatDoorQBase
import Derived.Test.YtjmkagakdhhigaaGreatDoorQMapV
import Derived.Deep.RegionHeld3
import Derived.Test.YtjmkagakdhhigaaGreatDoorQLawDisk
set_option linter.unusedVariables false
set_option linter.unusedSimpArgs false
set_option maxRecDepth 100000
namespace Go.Proofs.YtjmkagakdhhigaaGreatDoor
open Go.RowKit
def dkC (mf ml:Nat) (q armed:Nat) (off:Bool):Array Value:=#[.map (some mf), .map (some ml), .int .i64 (q:Int), .int .i64 (armed:Int), .bool off]
theorem sectorsOf_any (n:Nat) (hn:n≤1000000000) (w:World):Calls Tryz.prog 241 #[.int .i64 (n:Int)] w fun e w'=>e = .returned (.int .i64 (sect n:Int))∧w=w':=by
 have e:(sect n:Int)=((n:Int)+64-1)/64:=by unfold sect;omega
 have hq:Int.tdiv ((n:Int)+64-1) 64=((n:Int)+64-1)/64:=Int.tdiv_eq_ediv_of_nonneg (by omega)
 rw [e]
 clear e
 go_enter Tryz.func241,Tryz.ntmps241
 go_wp2_with fail
 go_ret
 exact ⟨by first|rfl|(simp only [hq])|(congr 2;rw [hq])|(congr 2;unfold wrap64;omega),rfl⟩
theorem isQuota_any (n:Int) (w:World):Calls Tryz.prog 84 #[.int .i64 n] w fun e w'=>e = .returned (.bool (decide (0≤n∧n≤1048576)))∧w=w':=by
 by_cases h1:0≤n
 · by_cases h2:n≤1048576
   · rw [decide_eq_true ⟨h1,h2⟩]
     go_enter Tryz.func84,Tryz.ntmps84
     go_wp2_with fail
     go_ret
     exact ⟨rfl,rfl⟩
   · rw [decide_eq_false (fun h=>h2 h.2)]
     have e:=decide_eq_false h2
     clear h2
     go_enter Tryz.func84,Tryz.ntmps84
     go_wp2_with fail
     go_ret
     exact ⟨by rw [←e];rfl,rfl⟩
 · rw [decide_eq_false (fun h=>h1 h.1)]
   have h1':n<0:=by omega
   clear h1
   go_enter Tryz.func84,Tryz.ntmps84
   go_wp2_with fail
   go_ret
   exact ⟨rfl,rfl⟩
def pwr (off:Bool):Int:=if off then 6 else 0
theorem checkPower_any {w:World} {b mf ml q armed:Nat} {off:Bool} (h:Box w b 131 (dkC mf ml q armed off)):Calls Tryz.prog 205 #[.pointer (some ⟨b,0,none⟩)] w fun e w'=>e = .returned (.int .i64 (pwr off))∧w=w':=by
 have c4:w.cell? ⟨b,4,none⟩=some (.bool off):=h.cell 4 rfl
 cases off
 · go_enter Tryz.func205,Tryz.ntmps205
   go_wp2_with fail
   go_ret
   exact ⟨rfl,rfl⟩
 · go_enter Tryz.func205,Tryz.ntmps205
   go_wp2_with fail
   go_ret
   exact ⟨rfl,rfl⟩
def fuseA (armed:Nat):Nat:=armed-1
def fuseO (armed:Nat) (off:Bool):Bool:=if 0<armed then decide (armed=1) else off
theorem begin_any {w:World} {b mf ml q armed:Nat} {off:Bool} (h:Box w b 131 (dkC mf ml q armed off)) (ha:armed≤9223372036854775807):Calls Tryz.prog 159 #[.pointer (some ⟨b,0,none⟩)] w fun e w'=>
 e = .returned (.int .i64 (pwr (fuseO armed off)))∧Box w' b 131 (dkC mf ml q (fuseA armed) (fuseO armed off))∧Only w w' (fun c=>c=b):=by
 have c3:w.cell? ⟨b,3,none⟩=some (.int .i64 (armed:Int)):=h.cell 3 rfl
 have c4:w.cell? ⟨b,4,none⟩=some (.bool off):=h.cell 4 rfl
 have f3:=h.frozen 3
 have f4:=h.frozen 4
 have hl:=h.lt
 have H:=zH h
 have C:=zH (fun (W:World) (hb:Box W b 131 (dkC mf ml q (fuseA armed) (fuseO armed off)))=>checkPower_any hb)
 by_cases h0:armed=0
 · subst h0
   have e1:fuseO 0 off=off:=rfl
   have e2:fuseA 0=0:=rfl
   rw [e1,e2] at C ⊢
   clear h e1 e2
   go_enter Tryz.func159,Tryz.ntmps159
   go_wp2_with fail
   refine (C.out _ H.out).mono ?_
   rintro e w' ⟨rfl,rfl⟩
   go_wp2_with fail
   go_ret
   exact ⟨rfl,H.out,Only.refl _ _⟩
 · obtain ⟨k,rfl⟩:∃ k,armed=k+1:=⟨armed-1,by omega⟩
   have hk:((k+1:Nat):Int)=(k:Int)+1:=by omega
   have hp:(0:Int)<(k:Int)+1:=by omega
   have hkm:(k:Int)≤9223372036854775806:=by omega
   rw [hk] at c3
   have e2:fuseA (k+1)=k:=rfl
   rw [e2] at C ⊢
   have q1:=h.set 3 (.int .i64 (k:Int))
   have O1:Only w (w.setCell ⟨b,3,none⟩ (.int .i64 (k:Int))) (fun c=>c=b):=⟨rfl,rfl,rfl,by simp,fun i _ hn=>Below.heap_setCell _ ⟨b,3,none⟩ _ i hn⟩
   have d3:(w.setCell ⟨b,3,none⟩ (.int .i64 (k:Int))).cell? ⟨b,3,none⟩=some (.int .i64 (k:Int)):=q1.cell 3 rfl
   have g4:=q1.frozen 4
   have l1:=q1.lt
   by_cases h1:k=0
   · have e1:fuseO (k+1) off=true:=by simp [fuseO,h1]
     rw [e1] at C ⊢
     have hk0:((k:Int) == 0)=true:=by simp [h1]
     have q2:=q1.set 4 (.bool true)
     have Q2:=zH (show Box _ b 131 (dkC mf ml q k true) from q2)
     have O2:=zH (O1.trans (S1:=fun c=>c=b) (w2:=(w.setCell ⟨b,3,none⟩ (.int .i64 (k:Int))).setCell ⟨b,4,none⟩ (.bool true)) ⟨rfl,rfl,rfl,by simp,fun i _ hn=>Below.heap_setCell _ ⟨b,4,none⟩ _ i hn⟩ (fun _ h=>.inl h))
     clear h q1 O1 e1 e2 h0 h1 q2
     go_enter Tryz.func159,Tryz.ntmps159
     go_wp2_with fail
     refine (C.out _ Q2.out).mono ?_
     rintro e w' ⟨rfl,rfl⟩
     go_wp2_with fail
     go_ret
     exact ⟨rfl,Q2.out,O2.out⟩
   · have e1:fuseO (k+1) off=false:=by simp [fuseO,h1]
     rw [e1] at C ⊢
     have hk0:((k:Int) == 0)=false:=by rw [beq_eq_false_iff_ne];omega
     have q2:=q1.set 4 (.bool false)
     have Q2:=zH (show Box _ b 131 (dkC mf ml q k false) from q2)
     have O2:=zH (O1.trans (S1:=fun c=>c=b) (w2:=(w.setCell ⟨b,3,none⟩ (.int .i64 (k:Int))).setCell ⟨b,4,none⟩ (.bool false)) ⟨rfl,rfl,rfl,by simp,fun i _ hn=>Below.heap_setCell _ ⟨b,4,none⟩ _ i hn⟩ (fun _ h=>.inl h))
     clear h q1 O1 e1 e2 h0 h1 q2
     go_enter Tryz.func159,Tryz.ntmps159
     go_wp2_with fail
     refine (C.out _ Q2.out).mono ?_
     rintro e w' ⟨rfl,rfl⟩
     go_wp2_with fail
     go_ret
     exact ⟨rfl,Q2.out,O2.out⟩
theorem nameC_true {c:UInt8} (h:nameC c=true):(97≤(c.toNat:Int)∧(c.toNat:Int)≤122)∨((c.toNat:Int)<97∧48≤(c.toNat:Int)∧(c.toNat:Int)≤57)∨((c.toNat:Int)<97∧(c.toNat:Int)<48∧((c.toNat:Int) == 46)=true)∨((c.toNat:Int)<97∧(c.toNat:Int)<48∧((c.toNat:Int) == 46)=false∧((c.toNat:Int) == 45)=true):=by
 unfold nameC at h
 have h:=of_decide_eq_true h
 simp only [beq_iff_eq,beq_eq_false_iff_ne]
 omega
theorem nameC_false {c:UInt8} (h:nameC c=false):((c.toNat:Int)<97∧(c.toNat:Int)<48∧((c.toNat:Int) == 46)=false∧((c.toNat:Int) == 45)=false)∨((c.toNat:Int)<97∧48≤(c.toNat:Int)∧decide ((c.toNat:Int)≤57)=false∧((c.toNat:Int) == 46)=false∧((c.toNat:Int) == 45)=false)∨(97≤(c.toNat:Int)∧decide ((c.toNat:Int)≤122)=false∧48≤(c.toNat:Int)∧decide ((c.toNat:Int)≤57)=false∧((c.toNat:Int) == 46)=false∧((c.toNat:Int) == 45)=false):=by
 unfold nameC at h
 have h:=of_decide_eq_false h
 simp only [beq_iff_eq,beq_eq_false_iff_ne,decide_eq_false_iff_not]
 omega
set_option maxHeartbeats 4000000 in
theorem isName_any (l:List UInt8) (hmax:l.length≤9223372036854775807) (w:World):Calls Tryz.prog 206 #[.string (str l)] w fun e w'=>e = .returned (.bool (nameOk l))∧w=w':=by
 obtain ⟨RR,hRR⟩:∃ RR,nameOk l=RR:=⟨_,rfl⟩
 rw [hRR]
 have HRR:=zH hRR
 obtain ⟨n,hn⟩:∃ n,n=l.length:=⟨_,rfl⟩
 have HN:=zH hn
 have hsz:(str l).size=n:=by rw [str_size,hn]
 have IX:=zH (fun (j:Nat) (h:j<l.length) (h2:j<(str l).size)=>show ((str l)[j]'h2)=l.getD j 0 by simp [str,ByteArray.getElem_eq_getElem_data,List.getD,h])
 rw [←hn] at hmax
 clear hn hRR
 generalize str l=s at *
 go_enter Tryz.func206,Tryz.ntmps206
 go_wp2_with fail
 go_loopw [7] (fun i wr=>∃ j:Nat,j≤n∧i = .int .i64 j∧(l.take j).all nameC=true∧w=wr) (fun i _=>n-(intOf i).toNat)
 case atStart=>exact ⟨0,Nat.zero_le _,rfl,rfl,rfl⟩
 case round=>
  obtain ⟨j,hj,rfl,hpre,rfl⟩:=hrel
  have HP:=zH hpre
  clear hpre
  by_cases hlt:j<n
  · have hl1:j<l.length:=by have:=HN.out;omega
    have hjs:j<s.size:=by rw [hsz];exact hlt
    have hjn:(j:Int)<(n:Int):=by omega
    have hx:s[j]'hjs=l.getD j 0:=IX.out j hl1 hjs
    have G:=zH (show l[j]? = some (l.getD j 0) by simp [List.getD,hl1])
    generalize l.getD j 0=c at *
    cases hc:nameC c with
    | true=>
     have PN:=zH (show (l.take (j+1)).all nameC=true by
      rw [List.take_add_one,List.all_append,HP.out,G.out]
      simp [hc])
     rcases nameC_true hc with ⟨h1,h2⟩|⟨h1,h2,h3⟩|⟨h1,h2,h3⟩|⟨h1,h2,h3,h4⟩
     all_goals
      clear hl1 hc
      go_wp2_with fail
     all_goals
      exact ⟨⟨j+1,by omega,by go_num,PN.out,trivial⟩,by simp [intOf];omega⟩
    | false=>
     have NO:=zH (show RR=false by
      rw [←HRR.out]
      unfold nameOk
      rw [Bool.and_eq_false_iff]
      right
      rw [List.all_eq_false]
      exact ⟨c,List.mem_of_getElem? G.out,by rw [hc];simp⟩)
     rcases nameC_false hc with ⟨h1,h2,h3,h4⟩|⟨h1,h2,h3,h4,h5⟩|⟨h1,h2,h3,h4,h5,h6⟩
     all_goals
      clear hl1 hc
      go_wp2_with fail
      go_ret
      exact ⟨by rw [NO.out];rfl,rfl⟩
  · obtain rfl:j=n:=by omega
    have HA:l.all nameC=true:=by
     have:=HP.out
     rwa [HN.out,List.take_length] at this
    have YES:=zH (show RR=decide (1≤l.length∧l.length≤24) by
     rw [←HRR.out]
     unfold nameOk
     rw [HA,Bool.and_true])
    by_cases h1:1≤j
    · by_cases h2:j≤24
      · have Y2:=zH (show RR=true by rw [YES.out];exact decide_eq_true (by rw [←HN.out];exact ⟨h1,h2⟩))
        have q1:(1:Int)≤(j:Int):=by omega
        have q2:(j:Int)≤24:=by omega
        clear hlt hj HA h1 h2
        go_wp2_with fail
        go_ret
        exact ⟨by rw [Y2.out];rfl,rfl⟩
      · have Y2:=zH (show RR=false by rw [YES.out];exact decide_eq_false (by rw [←HN.out];exact fun h=>h2 h.2))
        have q1:(1:Int)≤(j:Int):=by omega
        have q2:decide ((j:Int)≤24)=false:=decide_eq_false (by omega)
        clear hlt hj HA h1 h2
        go_wp2_with fail
        go_ret
        exact ⟨by rw [Y2.out];simp [q2],rfl⟩
    · have Y2:=zH (show RR=false by rw [YES.out];exact decide_eq_false (by rw [←HN.out];exact fun h=>h1 h.1))
      obtain rfl:j=0:=by omega
      clear hlt hj HA h1
      go_wp2_with fail
      go_ret
      exact ⟨by rw [Y2.out];rfl,rfl⟩
def plV (p:List UInt8×Nat):Value:=.agg #[.string (str p.1), .int .i64 (p.2:Int)]
def unV (_:Unit):Value:=.agg #[]
def strW (s:List UInt8):Value:=.string (str s)
theorem filesT:MapV Tryz.prog 128 9 127 strW dpt:=
 mapV_str Tryz.underlying128 Tryz.underlying9 ⟨fun v=>match v with
  | .pointer (some a)=>a.block
  | _=>0,fun x=>rfl⟩
section
variable {P:Program} {K S I:TypeId} {f1 f2:Field}
theorem run_partS (hS:P.underlying S=some .string) (a:ByteArray) (y:Value) (w:World):(part S #[.string a,y] 0).run P w = .ok (.string a) w:=by
 simp [part,hS,underlying,isAgg]
theorem run_partI (hI:P.underlying I=some (.int .i64)) (a:ByteArray) (y:Int) (w:World):(part I #[.string a, .int .i64 y] 1).run P w = .ok (.int .i64 y) w:=by
 simp [part,hI,underlying,isAgg]
theorem run_checkPl (hK : P.underlying K = some (.struct #[f1,f2])) (h1 : f1.name = "Name" ∧ f1.type = S ∧ f1.offset = 0) (h2 : f2.name = "Page" ∧ f2.type = I ∧ f2.offset = 1) (hS : P.underlying S = some .string) (hI : P.underlying I = some (.int .i64)) (em : Bool) (d : Nat) (p : List UInt8×Nat) (w : World) :
 (Instr.checkKey em (d+1+1) K (plV p)).run P w = .ok () w:=by
 unfold plV
 have c1:∀ w,(Instr.checkKey em (d+1) S (.string (str p.1))).run P w = .ok () w:=fun w=>MapKept.run_checkKey hS (by simp [MapKept.IsKey]) em d
 have c2:∀ w,(Instr.checkKey em (d+1) I (.int .i64 (p.2:Int))).run P w = .ok () w:=fun w=>MapKept.run_checkKey hI (by simp [MapKept.IsKey]) em d
 generalize d+1=d1 at *
 simp [Instr.checkKey,underlying,hK,h1.1,h1.2.1,h1.2.2,h2.1,h2.2.1,h2.2.2,run_partS hS,run_partI hI,c1,c2]
theorem run_eqPl (hK : P.underlying K = some (.struct #[f1,f2])) (h1 : f1.name = "Name" ∧ f1.type = S ∧ f1.offset = 0) (h2 : f2.name = "Page" ∧ f2.type = I ∧ f2.offset = 1) (hS : P.underlying S = some .string) (hI : P.underlying I = some (.int .i64)) (hh : P.stoodInHeld K = false) (p q : List UInt8×Nat) (w : World) :
 (Op.equal K (plV p) (plV q)).run P w = .ok (decide (q=p)) w:=by
 have hF:P.fieldsOf K = #[f1,f2]:=by simp [Program.fieldsOf,hK]
 show (Op.equalIn (9999+1) K _ _).run P w=_
 unfold plV
 rw [run_equalIn_struct w 9999 K _ _ (by rw [hF];exact hK) hh,hF]
 have e1:∀ w,(Op.equalIn 9999 S (.string (str p.1)) (.string (str q.1))).run P w = .ok ((str p.1).toList == (str q.1).toList) w:=fun w=>run_equalIn_string w 9998 S _ _ hS
 have e2:∀ w,(Op.equalIn 9999 I (.int .i64 (p.2:Int)) (.int .i64 (q.2:Int))).run P w = .ok ((p.2:Int) == (q.2:Int)) w:=fun w=>run_equalIn_int w 9998 I .i64 .i64 _ _ hI
 generalize 9999=d at *
 simp only [Op.eqFields,h1.1,h1.2.1,h1.2.2,h2.1,h2.2.1,h2.2.2,Sem.run_bind,Sem.run_ite,run_partS hS,run_partI hI,Result.andThen_ok,e1,e2]
 rw [str_toList,str_toList]
 by_cases ha:p.1=q.1
 · by_cases hb:p.2=q.2
   · have:q=p:=Prod.ext ha.symm hb.symm
     simp [ha,hb,this]
   · have:¬ q=p:=fun e=>hb (by rw [e])
     have hb':¬ (p.2:Int)=(q.2:Int):=by omega
     simp [ha,hb,hb',this]
 · have:¬ q=p:=fun e=>ha (by rw [e])
   simp [ha,this]
end
theorem looseT:MapV Tryz.prog 129 69 137 plV unV where
 m:=Tryz.underlying129
 check em k w:=run_checkPl Tryz.underlying69 ⟨rfl,rfl,rfl⟩ ⟨rfl,rfl,rfl⟩ Tryz.underlying9 Tryz.underlying3 em 9998 k w
 find w k es ks h:=by
  have hn : ∀ e es,Instr.findNow (.struct #[{name := "Name",type:=9,offset:=0,embedded:=false,tag := "",pkgPath := "",byteOffset:=0},{name := "Page",type:=3,offset:=1,embedded:=false,tag := "",pkgPath := "",byteOffset:=16}]) (plV k) (e::es) 0 = none:=fun _ _ => rfl
  cases es with
  | nil=>
   cases ks with
   | nil=>simp [Instr.findKey,underlying,Tryz.underlying69,Instr.findNow]
   | cons=>simp at h
  | cons e es=>
   have:=findAsk_of (P:=Tryz.prog) (K:=69) (kv:=plV) (fun a b w=>run_eqPl Tryz.underlying69 ⟨rfl,rfl,rfl⟩ ⟨rfl,rfl,rfl⟩ Tryz.underlying9 Tryz.underlying3 (by kernel_rfl) a b w) k w (e::es) ks 0 h
   simp only [Instr.findKey,Sem.run_bind,run_underlying Tryz.underlying69,Result.andThen_ok,hn]
   rw [this]
   simp
 bits k:=by
  have e1:(str k.1 == str k.1)=true:=(MapKept.bytes_beq _ _).2 rfl
  simp [Instr.sameBits,plV,e1]
 inv:=⟨fun v=>match v with
  | .agg ⟨[.string s, .int _ n]⟩=>(s.data.toList,n.toNat)
  | _=>([],0),fun k=>by simp [plV,str_data]⟩
 einv:=⟨fun _=>(),fun _=>rfl⟩
theorem zeroF:∀ w,(zeroValue 127).run Tryz.prog w = .ok (.pointer none) w:=Tryz.zeroValue127
abbrev FilesM (w:World) (mf:Nat) (l:List (List UInt8×Nat)):Prop:=MapW strW dpt w mf l
abbrev LooseM (w:World) (ml:Nat) (l:List ((List UInt8×Nat)×Unit)):Prop:=MapW plV unV w ml l
def findA (nm:List UInt8) (o:Option Nat):Value×Int:=if nameOk nm=false then (.pointer none,1) else match o with
 | none=>(.pointer none,3)
 | some k=>(.pointer (some ⟨k,0,none⟩),0)
set_option maxHeartbeats 4000000 in
theorem find_any {w:World} {b mf ml q armed:Nat} {off:Bool} (h:Box w b 131 (dkC mf ml q armed off)) {l:List (List UInt8×Nat)} (hf:FilesM w mf l) (nm:List UInt8) (hnm:nm.length≤maxLen) (v:Value) (E:Int) (hv:findA nm (lookM l nm)=(v,E)) :
 Calls Tryz.prog 160 #[.pointer (some ⟨b,0,none⟩), .string (str nm)] w fun e w'=>e = .returned (.tuple #[v, .int .i64 E])∧w=w':=by
 have c0:w.cell? ⟨b,0,none⟩=some (.map (some mf)):=h.cell 0 rfl
 have IN:=zH (isName_any nm (by unfold maxLen at hnm;omega) w)
 have HF:=zH hf
 cases hok:nameOk nm with
 | false=>
  rw [hok] at IN
  have e1:v = .pointer none:=by simp [findA,hok] at hv;exact hv.1.symm
  have e2:E=1:=by simp [findA,hok] at hv;exact hv.2.symm
  subst e1
  subst e2
  clear hv h hf hnm hok
  generalize str nm=s at *
  go_enter Tryz.func160,Tryz.ntmps160
  go_wp2_with (go_at_call 206;refine IN.out.mono ?_;rintro e w' ⟨rfl,rfl⟩)
  exact bodyPost_ret (v:=.tuple #[.pointer none, .int .i64 1]) (by simp [results,Tryz.results160,go_sem]) rfl ⟨rfl,rfl⟩
 | true=>
  rw [hok] at IN
  cases hl:lookM l nm with
  | none=>
   have e1:v = .pointer none:=by simp [findA,hok,hl] at hv;exact hv.1.symm
   have e2:E=3:=by simp [findA,hok,hl] at hv;exact hv.2.symm
   subst e1
   subst e2
   clear hv h hf hnm hok
   go_enter Tryz.func160,Tryz.ntmps160
   go_wp2_with (first
    | (go_at_call 206;refine IN.out.mono ?_;rintro e w' ⟨rfl,rfl⟩)
    | (at_lookup;refine wpList_lookV_none _ rfl _ _ rfl filesT zeroF mf l rfl HF.out nm rfl hl ?_))
   exact bodyPost_ret (v:=.tuple #[.pointer none, .int .i64 3]) (by simp [results,Tryz.results160,go_sem]) rfl ⟨rfl,rfl⟩
  | some k=>
   have e1:v = .pointer (some ⟨k,0,none⟩):=by simp [findA,hok,hl] at hv;exact hv.1.symm
   have e2:E=0:=by simp [findA,hok,hl] at hv;exact hv.2.symm
   subst e1
   subst e2
   clear hv h hf hnm hok
   go_enter Tryz.func160,Tryz.ntmps160
   go_wp2_with (first
    | (go_at_call 206;refine IN.out.mono ?_;rintro e w' ⟨rfl,rfl⟩)
    | (at_lookup;refine wpList_lookV_some _ rfl _ _ rfl filesT zeroF mf l rfl HF.out nm rfl k hl (.pointer (some ⟨k,0,none⟩)) rfl ?_))
   exact bodyPost_ret (v:=.tuple #[.pointer (some ⟨k,0,none⟩), .int .i64 0]) (by simp [results,Tryz.results160,go_sem]) rfl ⟨rfl,rfl⟩
end Go.Proofs.YtjmkagakdhhigaaGreatDoor
