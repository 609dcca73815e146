/- Package disk: the small functions. -/
import Derived.Test.YtjpldnjldindkaaGreatDoorQMapV
import Derived.Test.YtjpldnjldindkaaGreatDoorQLawDisk
import Derived.Test.YtjpldnjldindkaaGreatDoorQClone
import Derived.Shelf.Abstract
set_option linter.all false
set_option maxHeartbeats 0
set_option maxRecDepth 100000
namespace Go.Proofs.YtjpldnjldindkaaGreatDoor
open Go.RowKit
def dkC (mf ml:Nat) (q armed:Nat) (off:Bool):Array Value:=#[.map (some mf), .map (some ml), .int .i64 (q:Int), .int .i64 (armed:Int), .bool off]
theorem zc2 (n:Nat) (hn:n≤1000000000) (w:World):Calls Tryz.prog 251 #[.int .i64 (n:Int)] w fun e w'=>e = .returned (.int .i64 (sect n:Int))∧w=w':=by
 have e:(sect n:Int)=((n:Int)+64-1)/64:=by unfold sect;omega
 have hq:Int.tdiv ((n:Int)+64-1) 64=((n:Int)+64-1)/64:=Int.tdiv_eq_ediv_of_nonneg (by omega);rw [e];clear e;go_enter Tryz.func251,Tryz.ntmps251;go_wp2;go_ret;exact ⟨by first|rfl|(simp only [hq])|(congr 2;rw [hq])|(congr 2;unfold wrap64;omega),rfl⟩
theorem zks (n:Int) (w:World):Calls Tryz.prog 81 #[.int .i64 n] w fun e w'=>e = .returned (.bool (decide (0≤n∧n≤1048576)))∧w=w':=by
 by_cases h1:0≤n
 ·by_cases h2:n≤1048576
  ·rw [decide_eq_true ⟨h1,h2⟩];go_enter Tryz.func81,Tryz.ntmps81;go_wp2;go_ret;exact ⟨rfl,rfl⟩
  ·rw [decide_eq_false (fun h=>h2 h.2)];have e:=decide_eq_false h2;clear h2;go_enter Tryz.func81,Tryz.ntmps81;go_wp2;go_ret;exact ⟨by rw [←e];rfl,rfl⟩
 ·rw [decide_eq_false (fun h=>h1 h.1)];have h1':n<0:=(by omega);clear h1;go_enter Tryz.func81,Tryz.ntmps81;go_wp2;go_ret;exact ⟨rfl,rfl⟩
def pwr (off:Bool):Int:=if off then 6 else 0
theorem zd5 {w:World} {b mf ml q armed:Nat} {off:Bool} (h:Box w b 88 (dkC mf ml q armed off)):Calls Tryz.prog 189 #[.pointer (some ⟨b,0,none⟩)] w fun e w'=>e = .returned (.int .i64 (pwr off))∧w=w':=by
 have c4:w.cell? ⟨b,4,none⟩=some (.bool off):=h.cell 4 rfl;cases off
 ·go_enter Tryz.func189,Tryz.ntmps189;go_wp2;go_ret;exact ⟨rfl,rfl⟩
 ·go_enter Tryz.func189,Tryz.ntmps189;go_wp2;go_ret;exact ⟨rfl,rfl⟩
def fuseA (armed:Nat):Nat:=armed-1
def fuseO (armed:Nat) (off:Bool):Bool:=if 0<armed then decide (armed=1) else off
theorem znb {w:World} {b mf ml q armed:Nat} {off:Bool} (h:Box w b 88 (dkC mf ml q armed off)) (ha:armed≤9223372036854775807):Calls Tryz.prog 144 #[.pointer (some ⟨b,0,none⟩)] w fun e w'=>
 e = .returned (.int .i64 (pwr (fuseO armed off)))∧Box w' b 88 (dkC mf ml q (fuseA armed) (fuseO armed off))∧Only w w' (fun c=>c=b):=by
 have c3:w.cell? ⟨b,3,none⟩=some (.int .i64 (armed:Int)):=h.cell 3 rfl;have c4:w.cell? ⟨b,4,none⟩=some (.bool off):=h.cell 4 rfl;have f3:=h.frozen 3;have f4:=h.frozen 4;have hl:=h.lt;have H:=zH h;have C:=zH (fun (W:World) (hb:Box W b 88 (dkC mf ml q (fuseA armed) (fuseO armed off)))=>zd5 hb);by_cases h0:armed=0
 ·subst h0;have e1:fuseO 0 off=off:=rfl;have e2:fuseA 0=0:=rfl;rw [e1,e2] at C ⊢;clear h e1 e2;go_enter Tryz.func144,Tryz.ntmps144;go_wp2_with fail
  refine (C.out _ H.out).mono ?_;rintro e w' ⟨rfl,rfl⟩;go_wp2;go_ret;exact ⟨rfl,H.out,Only.refl _ _⟩
 ·obtain ⟨k,rfl⟩:∃ k,armed=k+1:=(⟨armed-1,by omega⟩);have hk:((k+1:Nat):Int)=(k:Int)+1:=by omega
  have hp:(0:Int)<(k:Int)+1:=(by omega);have hkm:(k:Int)≤9223372036854775806:=by omega
  rw [hk] at c3;have e2:fuseA (k+1)=k:=rfl;rw [e2] at C ⊢;have q1:=h.set 3 (.int .i64 (k:Int));have O1:Only w (w.setCell ⟨b,3,none⟩ (.int .i64 (k:Int))) (fun c=>c=b):=⟨rfl,rfl,rfl,by simp,fun i _ hn=>Below.heap_setCell _ ⟨b,3,none⟩ _ i hn⟩
  have d3:(w.setCell ⟨b,3,none⟩ (.int .i64 (k:Int))).cell? ⟨b,3,none⟩=some (.int .i64 (k:Int)):=q1.cell 3 rfl;have g4:=q1.frozen 4;have l1:=q1.lt;by_cases h1:k=0
  ·have e1:fuseO (k+1) off=true:=(by simp [fuseO,h1]);rw [e1] at C ⊢;have hk0:((k:Int) == 0)=true:=(by simp [h1]);have q2:=q1.set 4 (.bool true);have Q2:=zH (show Box _ b 88 (dkC mf ml q k true) from q2);have O2:=zH (O1.trans (S1:=fun c=>c=b) (w2:=(w.setCell ⟨b,3,none⟩ (.int .i64 (k:Int))).setCell ⟨b,4,none⟩ (.bool true)) ⟨rfl,rfl,rfl,by simp,fun i _ hn=>Below.heap_setCell _ ⟨b,4,none⟩ _ i hn⟩ (fun _ h=>.inl h));clear h q1 O1 e1 e2 h0 h1 q2;go_enter Tryz.func144,Tryz.ntmps144;go_wp2_with fail
   refine (C.out _ Q2.out).mono ?_;rintro e w' ⟨rfl,rfl⟩;go_wp2;go_ret;exact ⟨rfl,Q2.out,O2.out⟩
  ·have e1:fuseO (k+1) off=false:=(by simp [fuseO,h1]);rw [e1] at C ⊢;have hk0:((k:Int) == 0)=false:=by rw [beq_eq_false_iff_ne];omega
   have q2:=q1.set 4 (.bool false);have Q2:=zH (show Box _ b 88 (dkC mf ml q k false) from q2);have O2:=zH (O1.trans (S1:=fun c=>c=b) (w2:=(w.setCell ⟨b,3,none⟩ (.int .i64 (k:Int))).setCell ⟨b,4,none⟩ (.bool false)) ⟨rfl,rfl,rfl,by simp,fun i _ hn=>Below.heap_setCell _ ⟨b,4,none⟩ _ i hn⟩ (fun _ h=>.inl h));clear h q1 O1 e1 e2 h0 h1 q2;go_enter Tryz.func144,Tryz.ntmps144;go_wp2_with fail
   refine (C.out _ Q2.out).mono ?_;rintro e w' ⟨rfl,rfl⟩;go_wp2;go_ret;exact ⟨rfl,Q2.out,O2.out⟩
theorem zlR {c:UInt8} (h:nameC c=true):(97≤(c.toNat:Int)∧(c.toNat:Int)≤122)∨((c.toNat:Int)<97∧48≤(c.toNat:Int)∧(c.toNat:Int)≤57)∨((c.toNat:Int)<97∧(c.toNat:Int)<48∧((c.toNat:Int) == 46)=true)∨((c.toNat:Int)<97∧(c.toNat:Int)<48∧((c.toNat:Int) == 46)=false∧((c.toNat:Int) == 45)=true):=by
 unfold nameC at h;have h:=of_decide_eq_true h;simp only [beq_iff_eq,beq_eq_false_iff_ne];omega
theorem zkt {c:UInt8} (h:nameC c=false):((c.toNat:Int)<97∧(c.toNat:Int)<48∧((c.toNat:Int) == 46)=false∧((c.toNat:Int) == 45)=false)∨((c.toNat:Int)<97∧48≤(c.toNat:Int)∧decide ((c.toNat:Int)≤57)=false∧((c.toNat:Int) == 46)=false∧((c.toNat:Int) == 45)=false)∨(97≤(c.toNat:Int)∧decide ((c.toNat:Int)≤122)=false∧48≤(c.toNat:Int)∧decide ((c.toNat:Int)≤57)=false∧((c.toNat:Int) == 46)=false∧((c.toNat:Int) == 45)=false):=by
 unfold nameC at h;have h:=of_decide_eq_false h;simp only [beq_iff_eq,beq_eq_false_iff_ne,decide_eq_false_iff_not];omega
theorem zlS (l:List UInt8) (hmax:l.length≤9223372036854775807) (w:World):Calls Tryz.prog 190 #[.string (str l)] w fun e w'=>e = .returned (.bool (zaf l))∧w=w':=by
 obtain ⟨RR,hRR⟩:∃ RR,zaf l=RR:=⟨_,rfl⟩
 rw [hRR];have HRR:=zH hRR;obtain ⟨n,hn⟩:∃ n,n=l.length:=⟨_,rfl⟩
 have HN:=zH hn;have hsz:(str l).size=n:=by rw [zaJ,hn]
 have IX:=zH (fun (j:Nat) (h:j<l.length) (h2:j<(str l).size)=>show ((str l)[j]'h2)=l.getD j 0 by simp [str,ByteArray.getElem_eq_getElem_data,List.getD,h]);rw [←hn] at hmax;clear hn hRR;generalize str l=s at *;go_enter Tryz.func190,Tryz.ntmps190;go_wp2;go_loopw [7] (fun i wr=>∃ j:Nat,j≤n∧i = .int .i64 j∧(l.take j).all nameC=true∧w=wr) (fun i _=>n-(intOf i).toNat)
 case atStart=>exact ⟨0,Nat.zero_le _,rfl,rfl,rfl⟩
 case round=>
  obtain ⟨j,hj,rfl,hpre,rfl⟩:=hrel;have HP:=zH hpre;clear hpre;by_cases hlt:j<n
  ·have hl1:j<l.length:=by have:=HN.out;omega
   have hjs:j<s.size:=by rw [hsz];exact hlt
   have hjn:(j:Int)<(n:Int):=(by omega);have hx:s[j]'hjs=l.getD j 0:=IX.out j hl1 hjs;have G:=zH (show l[j]? = some (l.getD j 0) by simp [List.getD,hl1]);generalize l.getD j 0=c at *;cases hc:nameC c with
   | true=>
    have PN:=zH (show (l.take (j+1)).all nameC=true by
     rw [List.take_add_one,List.all_append,HP.out,G.out];simp [hc])
    rcases zlR hc with ⟨h1,h2⟩|⟨h1,h2,h3⟩|⟨h1,h2,h3⟩|⟨h1,h2,h3,h4⟩
    all_goals
     clear hl1 hc;go_wp2_with fail
    all_goals
     exact ⟨⟨j+1,by omega,by go_num,PN.out,trivial⟩,by simp [intOf];omega⟩
   | false=>
    have NO:=zH (show RR=false by
     rw [←HRR.out];unfold zaf;rw [Bool.and_eq_false_iff];right;rw [List.all_eq_false];exact ⟨c,List.mem_of_getElem? G.out,by rw [hc];simp⟩)
    rcases zkt hc with ⟨h1,h2,h3,h4⟩|⟨h1,h2,h3,h4,h5⟩|⟨h1,h2,h3,h4,h5,h6⟩
    all_goals
     clear hl1 hc;go_wp2;go_ret;exact ⟨by rw [NO.out];rfl,rfl⟩
  ·obtain rfl:j=n:=(by omega);have HA:l.all nameC=true:=by
    have:=HP.out
    rwa [HN.out,List.take_length] at this
   have YES:=zH (show RR=decide (1≤l.length∧l.length≤24) by
    rw [←HRR.out];unfold zaf;rw [HA,Bool.and_true])
   by_cases h1:1≤j
   ·by_cases h2:j≤24
    ·have Y2:=zH (show RR=true by rw [YES.out];exact decide_eq_true (by rw [←HN.out];exact ⟨h1,h2⟩));have q1:(1:Int)≤(j:Int):=(by omega);have q2:(j:Int)≤24:=by omega
     clear hlt hj HA h1 h2;go_wp2;go_ret;exact ⟨by rw [Y2.out];rfl,rfl⟩
    ·have Y2:=zH (show RR=false by rw [YES.out];exact decide_eq_false (by rw [←HN.out];exact fun h=>h2 h.2));have q1:(1:Int)≤(j:Int):=(by omega);have q2:decide ((j:Int)≤24)=false:=decide_eq_false (by omega);clear hlt hj HA h1 h2;go_wp2;go_ret;exact ⟨by rw [Y2.out];simp [q2],rfl⟩
   ·have Y2:=zH (show RR=false by rw [YES.out];exact decide_eq_false (by rw [←HN.out];exact fun h=>h1 h.1));obtain rfl:j=0:=(by omega);clear hlt hj HA h1;go_wp2;go_ret;exact ⟨by rw [Y2.out];rfl,rfl⟩
def plV (p:List UInt8×Nat):Value:=.agg #[.string (str p.1), .int .i64 (p.2:Int)]
def unV (_:Unit):Value:=.agg #[]
def strW (s:List UInt8):Value:=.string (str s)
theorem zco:MapV Tryz.prog 85 9 84 strW dpt:=
 zja Tryz.underlying85 Tryz.underlying9 ⟨fun v=>match v with
  | .pointer (some a)=>a.block
  | _=>0,fun x=>rfl⟩
section
variable {P:Program} {K S I:TypeId} {f1 f2:Field}
theorem zhZ (hS:P.underlying S=some .string) (a:ByteArray) (y:Value) (w:World):(part S #[.string a,y] 0).run P w = .ok (.string a) w:=by
 simp [part,hS,underlying,isAgg]
theorem zh0 (hI:P.underlying I=some (.int .i64)) (a:ByteArray) (y:Int) (w:World):(part I #[.string a, .int .i64 y] 1).run P w = .ok (.int .i64 y) w:=by
 simp [part,hI,underlying,isAgg]
theorem zku (hK : P.underlying K = some (.struct #[f1,f2])) (h1 : f1.name = "Name" ∧ f1.type = S ∧ f1.offset = 0) (h2 : f2.name = "Page" ∧ f2.type = I ∧ f2.offset = 1) (hS : P.underlying S = some .string) (hI : P.underlying I = some (.int .i64)) (em : Bool) (d : Nat) (p : List UInt8×Nat) (w : World) :
 (Instr.checkKey em (d+1+1) K (plV p)).run P w = .ok () w:=by
 unfold plV;have c1:∀ w,(Instr.checkKey em (d+1) S (.string (str p.1))).run P w = .ok () w:=fun w=>MapKept.run_checkKey hS (by simp [MapKept.IsKey]) em d
 have c2:∀ w,(Instr.checkKey em (d+1) I (.int .i64 (p.2:Int))).run P w = .ok () w:=fun w=>MapKept.run_checkKey hI (by simp [MapKept.IsKey]) em d
 generalize d+1=d1 at *;simp [Instr.checkKey,underlying,hK,h1.1,h1.2.1,h1.2.2,h2.1,h2.2.1,h2.2.2,zhZ hS,zh0 hI,c1,c2]
theorem zpi (hK : P.underlying K = some (.struct #[f1,f2])) (h1 : f1.name = "Name" ∧ f1.type = S ∧ f1.offset = 0) (h2 : f2.name = "Page" ∧ f2.type = I ∧ f2.offset = 1) (hS : P.underlying S = some .string) (hI : P.underlying I = some (.int .i64)) (hh : P.stoodInHeld K = false) (p q : List UInt8×Nat) (w : World) :
 (Op.equal K (plV p) (plV q)).run P w = .ok (decide (q=p)) w:=by
 have hF:P.fieldsOf K = #[f1,f2]:=by simp [Program.fieldsOf,hK]
 show (Op.equalIn (9999+1) K _ _).run P w=_;unfold plV;rw [run_equalIn_struct w 9999 K _ _ (by rw [hF];exact hK) hh,hF];have e1:∀ w,(Op.equalIn 9999 S (.string (str p.1)) (.string (str q.1))).run P w = .ok ((str p.1).toList == (str q.1).toList) w:=fun w=>run_equalIn_string w 9998 S _ _ hS
 have e2:∀ w,(Op.equalIn 9999 I (.int .i64 (p.2:Int)) (.int .i64 (q.2:Int))).run P w = .ok ((p.2:Int) == (q.2:Int)) w:=fun w=>run_equalIn_int w 9998 I .i64 .i64 _ _ hI
 generalize 9999=d at *;simp only [Op.eqFields,h1.1,h1.2.1,h1.2.2,h2.1,h2.2.1,h2.2.2,Sem.run_bind,Sem.run_ite,zhZ hS,zh0 hI,Result.andThen_ok,e1,e2];rw [zaL,zaL];by_cases ha:p.1=q.1
 ·by_cases hb:p.2=q.2
  ·have:q=p:=Prod.ext ha.symm hb.symm;simp [ha,hb,this]
  ·have:¬ q=p:=(fun e=>hb (by rw [e]));have hb':¬ (p.2:Int)=(q.2:Int):=by omega
   simp [ha,hb,hb',this]
 ·have:¬ q=p:=(fun e=>ha (by rw [e]));simp [ha,this]
end
theorem looseT:MapV Tryz.prog 86 49 94 plV unV where
 m:=Tryz.underlying86
 check em k w:=zku Tryz.underlying49 ⟨rfl,rfl,rfl⟩ ⟨rfl,rfl,rfl⟩ Tryz.underlying9 Tryz.underlying3 em 9998 k w
 find w k es ks h:=by
  have hn : ∀ e es,Instr.findNow (.struct #[{name := "Name",type:=9,offset:=0,embedded:=false,tag := "",pkgPath := "",byteOffset:=0},{name := "Page",type:=3,offset:=1,embedded:=false,tag := "",pkgPath := "",byteOffset:=16}]) (plV k) (e::es) 0 = none:=fun _ _ => rfl
  cases es with
  | nil=>
   cases ks with
   | nil=>simp [Instr.findKey,underlying,Tryz.underlying49,Instr.findNow]
   | cons=>simp at h
  | cons e es=>
   have:=zly (P:=Tryz.prog) (K:=49) (kv:=plV) (fun a b w=>zpi Tryz.underlying49 ⟨rfl,rfl,rfl⟩ ⟨rfl,rfl,rfl⟩ Tryz.underlying9 Tryz.underlying3 (by kernel_rfl) a b w) k w (e::es) ks 0 h;simp only [Instr.findKey,Sem.run_bind,run_underlying Tryz.underlying49,Result.andThen_ok,hn];rw [this];simp
 bits k:=by
  have e1:(str k.1 == str k.1)=true:=(MapKept.bytes_beq _ _).2 rfl;simp [Instr.sameBits,plV,e1]
 inv:=⟨fun v=>match v with
  | .agg ⟨[.string s, .int _ n]⟩=>(s.data.toList,n.toNat)
  | _=>([],0),fun k=>by simp [plV,zdh]⟩
 einv:=⟨fun _=>(),fun _=>rfl⟩
theorem zeroF:∀ w,(zeroValue 84).run Tryz.prog w = .ok (.pointer none) w:=Tryz.zeroValue84
abbrev zd6 (w:World) (mf:Nat) (l:List (List UInt8×Nat)):Prop:=MapW strW dpt w mf l
abbrev zaW (w:World) (ml:Nat) (l:List ((List UInt8×Nat)×Unit)):Prop:=MapW plV unV w ml l
def findA (nm:List UInt8) (o:Option Nat):Value×Int:=if zaf nm=false then (.pointer none,1) else match o with
 | none=>(.pointer none,3)
 | some k=>(.pointer (some ⟨k,0,none⟩),0)
theorem zpj {w:World} {b mf ml q armed:Nat} {off:Bool} (h:Box w b 88 (dkC mf ml q armed off)) {l:List (List UInt8×Nat)} (hf:zd6 w mf l) (nm:List UInt8) (hnm:nm.length≤maxLen) (v:Value) (E:Int) (hv:findA nm (lookM l nm)=(v,E)) :
 Calls Tryz.prog 145 #[.pointer (some ⟨b,0,none⟩), .string (str nm)] w fun e w'=>e = .returned (.tuple #[v, .int .i64 E])∧w=w':=by
 have c0:w.cell? ⟨b,0,none⟩=some (.map (some mf)):=h.cell 0 rfl;have IN:=zH (zlS nm (by unfold maxLen at hnm;omega) w);have HF:=zH hf;cases hok:zaf nm with
 | false=>
  rw [hok] at IN;have e1:v = .pointer none:=by simp [findA,hok] at hv;exact hv.1.symm
  have e2:E=1:=by simp [findA,hok] at hv;exact hv.2.symm
  subst e1;subst e2;clear hv h hf hnm hok;generalize str nm=s at *;go_enter Tryz.func145,Tryz.ntmps145;go_wp2_with (go_at_call 190;refine IN.out.mono ?_;rintro e w' ⟨rfl,rfl⟩)
  exact bodyPost_ret (v:=.tuple #[.pointer none, .int .i64 1]) (by simp [results,Tryz.results145,go_sem]) rfl ⟨rfl,rfl⟩
 | true=>
  rw [hok] at IN;cases hl:lookM l nm with
  | none=>
   have e1:v = .pointer none:=by simp [findA,hok,hl] at hv;exact hv.1.symm
   have e2:E=3:=by simp [findA,hok,hl] at hv;exact hv.2.symm
   subst e1;subst e2;clear hv h hf hnm hok;go_enter Tryz.func145,Tryz.ntmps145;go_wp2_with (first
    | (go_at_call 190;refine IN.out.mono ?_;rintro e w' ⟨rfl,rfl⟩)
    | (at_lookup;refine zfy _ rfl _ _ rfl zco zeroF mf l rfl HF.out nm rfl hl ?_))
   exact bodyPost_ret (v:=.tuple #[.pointer none, .int .i64 3]) (by simp [results,Tryz.results145,go_sem]) rfl ⟨rfl,rfl⟩
  | some k=>
   have e1:v = .pointer (some ⟨k,0,none⟩):=by simp [findA,hok,hl] at hv;exact hv.1.symm
   have e2:E=0:=by simp [findA,hok,hl] at hv;exact hv.2.symm
   subst e1;subst e2;clear hv h hf hnm hok;go_enter Tryz.func145,Tryz.ntmps145;go_wp2_with (first
    | (go_at_call 190;refine IN.out.mono ?_;rintro e w' ⟨rfl,rfl⟩)
    | (at_lookup;refine zc6 _ rfl _ _ rfl zco zeroF mf l rfl HF.out nm rfl k hl (.pointer (some ⟨k,0,none⟩)) rfl ?_))
   exact bodyPost_ret (v:=.tuple #[.pointer (some ⟨k,0,none⟩), .int .i64 0]) (by simp [results,Tryz.results145,go_sem]) rfl ⟨rfl,rfl⟩
section
variable {w:World} {base:Nat} {e:TypeId} {A:Option Addr} {n cap:Nat} {xs:List Value}
theorem Own.cut1 (h:Own w base e 1 (.slice A n cap) n xs) {m:Nat} (hm:m≤n):Own w base e 1 (.slice A m cap) m (xs.take m):=by
 refine ⟨by rw [List.length_take,h.1];omega,?_⟩;rcases h.2 with ⟨hv,h0⟩|⟨g',cap',cur,fz,hv,hb,hg,hz,h1,h2,h3,h4⟩
 ·injection hv with hA hn hc;obtain rfl:m=0:=(by omega);exact .inl ⟨by rw [hA,hc],rfl⟩
 ·injection hv with hA hn hc;subst hc;refine .inr ⟨g',cap,cur,fz,by rw [hA],hb,hg,hz,by omega,h2,h3,?_⟩;rw [←h4,List.take_take];congr 1
  omega
theorem Own.nil_len (h:Own w base e 1 (.slice none n cap) n xs):n=0∧cap=0:=by
 rcases h.2 with ⟨hv,h0⟩|⟨g',cap',cur,fz,hv,_⟩
 ·injection hv with hA hn hc;exact ⟨h0,hc⟩
 ·injection hv with hA;cases hA
end
section
variable {P:Program} (w:World)
theorem zh1 {ops:Array Oper} {o:Oper} {a:Act} {K:Act→World→Prop} {Q:Exit→Act→World→Prop} {E:Prop} (hg:o.guard=none) (s x:Operand) (t:TypeId)
 (ho:o.op = .call {callee:=.builtin .append,args:=#[s,x],argTypes:=#[t,t]})
 (base:Nat) (e:TypeId) (i:TypeInfo) (z:Value) (size bytes:Nat) (ht:P.underlying t=some (.slice e)) (hi:P.info? e=some i) (hz:i.zero=some z)
 (hsize:i.size=size) (hby:i.bytes=bytes) (hzs:z.cells.size=size) (hsz:0<size)
 (v:Value) (n:Nat) (xs:List Value) (hs:a.eval s=v) (hown:Own w base e size v n xs)
 (B:Nat) (A:Option Addr) (m c:Nat) (news:List Value) (hx:a.eval x = .slice A m c) (hm:news.length=m*size) (hr:At w B A news) (h1:∀ u∈news,u.oneCell'=true)
 (h63:n+m≤maxLen) (hbytes:(n+m)*bytes≤140737488355328) (hbase:base≤w.heap.size)
 (hK:∀ v' w',Own w' base e size v' (n+m) (xs++news)→w.grownBy w' v.ownBlock→(v'.ownBlock=v.ownBlock∨v'.ownBlock=some w.heap.size)→K (a.put o.dst v') w') :
 if Region.wanted o (yielded ops a.tmps)=true then Oper.wp P o a w K Q else E:=by
 have hw:Region.wanted o (yielded ops a.tmps)=true:=by simp [Region.wanted,hg]
 rw [if_pos hw];exact ziQ w s x t ho base e i z size bytes ht hi hz hsize hby hzs hsz v n xs hs hown B A m c news hx hm hr h1 h63 hbytes hbase hK
end
theorem zhm:(Tryz.prog.info? 5).map (·.size)=some 1:=by kernel_rfl
structure FileAt (w:World) (c:Nat→Prop) (k:Nat) (v1 v2:Value) (now lasts:List UInt8):Prop where
 box:Box w k 83 #[v1,v2]
 own1:Own w 0 5 1 v1 now.length (cel now)
 own2:Own w 0 5 1 v2 lasts.length (cel lasts)
 me:c k
 in1:∀ g,v1.ownBlock=some g→c g
 in2:∀ g,v2.ownBlock=some g→c g
 ne:v1.ownBlock=none∨v1.ownBlock≠v2.ownBlock
def more (w w':World) (c:Nat→Prop) (g:Nat):Prop:=c g∨(w.heap.size≤g∧g<w'.heap.size)
theorem Keeps.grown_ {w w':World} (k:Keeps w w') (row:Option Nat):w.grownBy w' row:=⟨k.os,k.tape,k.output,k.size,fun i hi _=>k.block i hi⟩
section
variable {w w':World} {c:Nat→Prop} {k:Nat} {v1 v2:Value} {now lasts:List UInt8}
theorem FileAt.same (h:FileAt w c k v1 v2 now lasts) (hs:∀ i,c i→w'.heap[i]? = w.heap[i]?):FileAt w' c k v1 v2 now lasts:=
 ⟨(hs k h.me).trans h.box,h.own1.same fun g hg=>hs g (h.in1 g hg),h.own2.same fun g hg=>hs g (h.in2 g hg),h.me,h.in1,h.in2,h.ne⟩
theorem FileAt.lt (h:FileAt w c k v1 v2 now lasts):k<w.heap.size:=h.box.lt
theorem FileAt.keep (h:FileAt w c k v1 v2 now lasts) (q:Keeps w w'):FileAt w' c k v1 v2 now lasts:=
 ⟨h.box.keep q,h.own1.keep q,h.own2.keep q,h.me,h.in1,h.in2,h.ne⟩
theorem FileAt.wide {d:Nat→Prop} (h:FileAt w c k v1 v2 now lasts) (hd:∀ i,c i→d i):FileAt w d k v1 v2 now lasts:=
 ⟨h.box,h.own1,h.own2,hd k h.me,fun g hg=>hd g (h.in1 g hg),fun g hg=>hd g (h.in2 g hg),h.ne⟩
theorem znc {b g:Nat} {cs cur:Array Value} {t e:TypeId} {fz fz':Nat×Nat} (h:w.heap[b]? = some (.cells cs t fz)) (h':w.heap[g]? = some (.cells cur e fz')) (hne:t≠e):b≠g:=by
 intro e';rw [e',h'] at h;injection h with h;injection h with _ q _;exact hne q.symm
theorem Own.not_box {base:Nat} {e t:TypeId} {v:Value} {n:Nat} {xs:List Value} {b:Nat} {cs:Array Value} (h:Own w base e 1 v n xs) (hb:Box w b t cs) (hne:t≠e):v.ownBlock≠some b:=by
 intro hv;rcases h.2 with ⟨rfl,_⟩|⟨g,cap,cur,fz,rfl,_,hg,_⟩
 ·simp [Value.ownBlock] at hv
 ·simp only [Value.ownBlock,Option.some.injEq] at hv;subst hv;exact znc hb hg hne rfl
theorem zdf:83≠5:=by decide
theorem FileAt.put1 (h:FileAt w c k v1 v2 now lasts) {w3:World} (hg:w.grownBy w3 v1.ownBlock) {v':Value} {now':List UInt8} (ho:Own w3 0 5 1 v' now'.length (cel now')) (hb:v'.ownBlock=v1.ownBlock∨∃ g,v'.ownBlock=some g∧w.heap.size≤g) :
 FileAt (w3.setCell ⟨k,0,none⟩ v') (more w (w3.setCell ⟨k,0,none⟩ v') c) k v' v2 now' lasts∧Only w (w3.setCell ⟨k,0,none⟩ v') c:=by
 have hb3:Box w3 k 83 #[v1,v2]:=(hg.block k h.box.lt (fun e=>h.own1.not_box h.box zdf e.symm)).trans h.box;have hne2:v2.ownBlock=none∨v2.ownBlock≠v1.ownBlock:=by
  rcases h.ne with e|e
  ·cases h2:v2.ownBlock with
   | none=>exact .inl rfl
   | some g=>right;rw [e];simp
  ·exact .inr (fun q=>e q.symm)
 have o2:Own w3 0 5 1 v2 lasts.length (cel lasts):=h.own2.grown hg hne2;have far:∀ {v:Value} {n:Nat} {xs:List Value},Own w3 0 5 1 v n xs→Own (w3.setCell ⟨k,0,none⟩ v') 0 5 1 v n xs:=fun o=>o.same fun g hgg=>Below.heap_setCell _ ⟨k,0,none⟩ _ g (fun e=>o.not_box hb3 zdf (by rw [hgg,e]))
 have hsz:w.heap.size≤w3.heap.size:=hg.size;refine ⟨⟨by simpa using hb3.set 0 v',far ho,far o2, .inl h.me,fun g hgg=>?_,fun g hgg=>.inl (h.in2 g hgg),?_⟩,⟨hg.os,hg.tape,hg.output,by simpa using hsz,fun i hi hn=>?_⟩⟩
 ·rcases hb with e|⟨g',e,hge⟩
  ·exact .inl (h.in1 g (by rw [←e];exact hgg))
  ·rw [e] at hgg;obtain rfl:=Option.some.inj hgg;exact .inr ⟨hge,by simpa using (ho.lt g' e).2⟩
 ·rcases hb with e|⟨g',e,hge⟩
  ·rw [e];exact h.ne
  ·right;rw [e];intro e2;have:=(h.own2.lt g' e2.symm).2;omega
 ·rw [Below.heap_setCell _ ⟨k,0,none⟩ _ i (fun e=>hn (by rw [e];exact h.me))];exact hg.block i hi (fun e=>hn (h.in1 i e.symm))
theorem FileAt.put2 (h:FileAt w c k v1 v2 now lasts) {w3:World} (hg:w.grownBy w3 v2.ownBlock) {v':Value} {lasts':List UInt8} (ho:Own w3 0 5 1 v' lasts'.length (cel lasts')) (hb:v'.ownBlock=v2.ownBlock∨∃ g,v'.ownBlock=some g∧w.heap.size≤g) :
 FileAt (w3.setCell ⟨k,1,none⟩ v') (more w (w3.setCell ⟨k,1,none⟩ v') c) k v1 v' now lasts'∧Only w (w3.setCell ⟨k,1,none⟩ v') c:=by
 have hb3:Box w3 k 83 #[v1,v2]:=(hg.block k h.box.lt (fun e=>h.own2.not_box h.box zdf e.symm)).trans h.box;have o1:Own w3 0 5 1 v1 now.length (cel now):=h.own1.grown hg h.ne;have far:∀ {v:Value} {n:Nat} {xs:List Value},Own w3 0 5 1 v n xs→Own (w3.setCell ⟨k,1,none⟩ v') 0 5 1 v n xs:=fun o=>o.same fun g hgg=>Below.heap_setCell _ ⟨k,1,none⟩ _ g (fun e=>o.not_box hb3 zdf (by rw [hgg,e]))
 have hsz:w.heap.size≤w3.heap.size:=hg.size;refine ⟨⟨by simpa using hb3.set 1 v',far o1,far ho, .inl h.me,fun g hgg=>.inl (h.in1 g hgg),fun g hgg=>?_,?_⟩,⟨hg.os,hg.tape,hg.output,by simpa using hsz,fun i hi hn=>?_⟩⟩
 ·rcases hb with e|⟨g',e,hge⟩
  ·exact .inl (h.in2 g (by rw [←e];exact hgg))
  ·rw [e] at hgg;obtain rfl:=Option.some.inj hgg;exact .inr ⟨hge,by simpa using (ho.lt g' e).2⟩
 ·rcases hb with e|⟨g',e,hge⟩
  ·rw [e];exact h.ne
  ·right;rw [e];intro e2;have:=(h.own1.lt g' e2).2;omega
 ·rw [Below.heap_setCell _ ⟨k,1,none⟩ _ i (fun e=>hn (by rw [e];exact h.me))];exact hg.block i hi (fun e=>hn (h.in2 i e.symm))
end
theorem znd (now b:List UInt8) (off:Nat) (h:off≤now.length):zbf (cel now) off ((cel b).take (min b.length (now.length-off)))++cel (b.drop (min b.length (now.length-off)))=cel (layB now off b):=by
 unfold zbf layB;rw [←zfS,←zfS,zaq,←zfT,←zax,←zax,←zax];congr 1
 by_cases hm:b.length≤now.length-off
 ·rw [Nat.min_eq_left hm,List.take_length,List.drop_length,List.append_nil]
 ·rw [Nat.min_eq_right (by omega),List.length_take,Nat.min_eq_left (by omega),List.drop_eq_nil_of_le (by omega),List.append_nil,List.append_assoc,List.take_append_drop,List.drop_eq_nil_of_le (by omega),List.append_nil]
theorem zq3 {w:World} {c:Nat→Prop} {k:Nat} {v1 v2:Value} {now lasts:List UInt8} (h:FileAt w c k v1 v2 now lasts) (off:Nat) (hoff:off≤now.length) (hn:now.length≤16777216) (B:Option Addr) (m cc:Nat) (b:List UInt8) (hB:Bs w B b) (hm:m=b.length) (hc:m≤cc) (hmm:m≤70000) (hBc:∀ ad,B=some ad→¬ c ad.block) :
 Calls Tryz.prog 241 #[.pointer (some ⟨k,0,none⟩), .int .i64 (off:Int), .slice B m cc] w fun e w'=>e = .returned (.tuple #[])∧∃ v',FileAt w' (more w w' c) k v' v2 (layB now off b) lasts∧Only w w' c:=by
 obtain ⟨i0,hi,hz0,hz1,hz2⟩:=info_parts zhY;obtain ⟨A,cap,rfl,hcap,hcm,-⟩:=h.own1.form;have c0:w.cell? ⟨k,0,none⟩=some (.slice A now.length cap):=h.box.cell 0 rfl;have hsl:=zfU (P:=Tryz.prog) 39 5 Tryz.underlying39 zhm A now.length cap off hoff;obtain ⟨ov,hov⟩:∃ ov,ov=min m (now.length-off):=⟨_,rfl⟩
 have hsl2:=zfU (P:=Tryz.prog) 39 5 Tryz.underlying39 zhm B m cc ov (by omega);have LAY:=zH (znd now b off hoff);have H:=zH h;have HB:=zH hB;have HM:=zH hm;have HBC:=zH hBc;have HO:=zH hoff;have HN:=zH hn;have HC:=zH hc;have HOV:=zH hov;have HMM:=zH hmm;have hkl:=h.lt;rw [←hm,←hov] at LAY;have e1:(cel b).length=m:=by rw [zaq,hm]
 have hd:=hoff;clear h hB hm hBc hoff hn hc hov hmm;go_enter Tryz.func241,Tryz.ntmps241;go_wp2_with (refine zdv _ rfl _ _ 39 rfl 0 5 i0 Tryz.underlying39 hi hz1 A now.length cap (cel now) H.out.own1 off (now.length-off) (cap-off) rfl (by have:=HO.out;omega) B m cc (cel b) rfl e1 HB.out (za3 b) ?_;intro w1 o1 g1)
 have hbx:=H.out.own1.not_box H.out.box zdf;have b1:Box w1 k 83 #[.slice A now.length cap,v2]:=(g1.block k hkl (fun e=>hbx e.symm)).trans H.out.box;have c1:w1.cell? ⟨k,0,none⟩=some (.slice A now.length cap):=b1.cell 0 rfl;have f1:=b1.frozen 0;have l1:=b1.lt;have eov:min m (now.length-off)=ov:=HOV.out.symm;rw [eov] at o1 ⊢;have HB1:Bs w1 (dropA B cc ov) (b.drop ov):=by
  have hb1:Bs w1 B b:=by
   rcases HB.out with h0|⟨ad,e,hbl,hc⟩
   ·exact .inl h0
   ·refine .inr ⟨ad,e,Nat.lt_of_lt_of_le hbl g1.size,fun j u hu=>?_⟩;have hc':=hc j u hu;have e1:w1.heap[(ad.add j).block]? = w.heap[(ad.add j).block]?:=by
     rw [zbi];exact g1.block _ hbl (fun e2=>HBC.out ad e (H.out.in1 _ e2.symm))
    unfold World.cell? at hc' ⊢;rw [e1];exact hc'
  exact hb1.dropA HM.out HC.out
 have HB1':=zH HB1;have O1:=zH o1;have G1:=zH g1;have B1:=zH b1;have hld:(cel (b.drop ov)).length=m-ov:=by rw [zaq,List.length_drop,HM.out]
 clear HB1 o1 g1 b1 eov c0;have hd1:((m-ov:Nat):Int)≤70000:=by have:=HMM.out;omega
 generalize dropA B cc ov=D at *;generalize m-ov=d1 at *;generalize cc-ov=d2 at *
 go_region_law ((refine zh1 _ rfl (.tmp 19) (.tmp 22) 39 rfl 0 5 i0 (.int .u8 0) 1 1 Tryz.underlying39 hi hz0 hz1 hz2 rfl (by decide) (.slice A now.length cap) now.length _ (by simp [Act.eval,Act.put]) (O1.out.keep (zD _)) _ D d1 d2 (cel (b.drop ov)) (by simp [Act.eval,Act.put]) (by omega) (HB1'.out.keep (zD _)) (za3 _) (by have:=HN.out;unfold maxLen;omega) (by have:=HN.out;omega) (Nat.zero_le _) ?_);intro v' w3 hown' hgrow hblk;obtain ⟨A',cap',rfl,-⟩:=hown'.form;have hb3:Box w3 k 83 #[.slice A now.length cap,v2]:=(hgrow.block k (by simp;omega) (fun e=>hbx e.symm)).trans (B1.out.keep (zD _));have z0:=hb3.cell 0 rfl;have z1:=hb3.frozen 0)
 all_goals
  rw [LAY.out] at hown';have hL:now.length+d1=(layB now off b).length:=by have:=hown'.1;rw [zaq] at this;omega
  rw [hL] at hown' hblk ⊢;have FIN:=zH (H.out.put1 (zbb (zbb G1.out ((zD _).grown_ _) (.inl rfl)) hgrow (.inl rfl)) hown' (by
   rcases hblk with e|e
   ·exact .inl e
   ·exact .inr ⟨_,e,G1.out.size⟩))
  clear hown' hgrow hblk hb3 z0 z1 c1 f1;go_wp2;go_returns;exact ⟨rfl,_,FIN.out⟩
theorem zb6 {A:Option Addr} {n m cap:Nat}:(Value.slice A n cap).ownBlock=(Value.slice A m cap).ownBlock:=by
 cases A<;>rfl
def secE (now:List UInt8) (k:Nat):Nat:=min (64*k+64) now.length
def padB (l:List UInt8) (e:Nat):List UInt8:=l++List.replicate (e-l.length) 0
def keepB (lasts now:List UInt8) (k:Nat):List UInt8:=(padB lasts (secE now k)).take (64*k)++(now.take (secE now k)).drop (64*k)++(padB lasts (secE now k)).drop (secE now k)
theorem At.lohi {w:World} {A:Option Addr} {cap:Nat} {l:List UInt8} (h:Bs w A l) (hc:l.length≤cap) (i j:Nat):Bs w (dropA A cap i) ((l.take j).drop i):=by
 rw [List.drop_take];exact (h.dropA rfl hc).take (j-i)
def zbo (l:List Fl) (p:List UInt8×Nat):Prop:=∃ f∈l,f.name=p.1∧f.loose p.2=true
theorem zjl (a:List UInt8):¬ a<a:=List.lt_irrefl a
theorem zb0 {l:List Fl} (hn:(l.map (·.name)).Nodup) {f:Fl} (hf:f∈l):getF l f.name=some f:=by
 induction l with
 | nil=>simp at hf
 | cons g l ih=>
  rw [List.map_cons,List.nodup_cons] at hn;rw [zaI];rcases List.mem_cons.1 hf with rfl|hf'
  ·rw [if_pos rfl]
  ·rw [if_neg (fun e=>hn.1 (by rw [e];exact List.mem_map_of_mem hf'))];exact ih hn.2 hf'
theorem zlT (l:List Fl) (fb:List UInt8→Nat) (nm:List UInt8):lookM (l.map fun f=>(f.name,fb f.name)) nm=(getF l nm).map fun f=>fb f.name:=by
 unfold lookM getF;rw [List.find?_map];cases h:l.find? ((fun p:List UInt8×Nat=>decide (p.1=nm)) ∘ fun f=>(f.name,fb f.name)) with
 | none=>
  have:l.find? (fun f=>decide (f.name=nm))=none:=h;rw [this];rfl
 | some f=>
  have:l.find? (fun f=>decide (f.name=nm))=some f:=h;rw [this];rfl
theorem zeo {l:List Fl} {f' g:Fl} (h:g∈setF l f'):(g=f'∧∃ f∈l,f.name=f'.name)∨(g∈l∧g.name≠f'.name):=by
 obtain ⟨x,hx,he⟩:=List.mem_map.1 h;by_cases hn:x.name=f'.name
 ·rw [if_pos hn] at he;exact .inl ⟨he.symm,x,hx,hn⟩
 ·rw [if_neg hn] at he;subst he;exact .inr ⟨hx,hn⟩
theorem ze4 {l:List Fl} {f' f:Fl} (hf:f∈l) (hn:f.name=f'.name):f'∈setF l f':=List.mem_map.2 ⟨f,hf,by rw [if_pos hn]⟩
theorem zep {l:List Fl} {f' g:Fl} (hg:g∈l) (hn:g.name≠f'.name):g∈setF l f':=List.mem_map.2 ⟨g,hg,by rw [if_neg hn]⟩
theorem zeq (l:List Fl) (f':Fl):(setF l f').map (·.name)=l.map (·.name):=by
 unfold setF;rw [List.map_map];apply List.map_congr_left;intro g hg;simp only [Function.comp];split
 ·rename_i h;exact h.symm
 ·rfl
theorem zh2 (l l':List Fl) (fb:List UInt8→Nat) (h:l'.map (·.name)=l.map (·.name)):(l'.map fun f=>(f.name,fb f.name))=l.map fun f=>(f.name,fb f.name):=by
 have:=congrArg (List.map fun n=>(n,fb n)) h;simpa [List.map_map,Function.comp_def] using this
theorem zdU {l:List Fl} {f f':Fl} (hn:(l.map (·.name)).Nodup) (hf:f∈l) (he:f'.name=f.name) (hl:∀ k,f'.loose k=f.loose k) (p:List UInt8×Nat):zbo (setF l f') p↔zbo l p:=by
 constructor
 ·rintro ⟨g,hg,h1,h2⟩;rcases zeo hg with ⟨rfl,-⟩|⟨hg',-⟩
  ·exact ⟨f,hf,by rw [←he];exact h1,by rw [←hl];exact h2⟩
  ·exact ⟨g,hg',h1,h2⟩
 ·rintro ⟨g,hg,h1,h2⟩;by_cases hgn:g.name=f'.name
  ·have:g=f:=by
    have e1:=zb0 hn hg;have e2:=zb0 hn hf;rw [hgn,he,e2] at e1;exact (Option.some.inj e1).symm
   subst this;exact ⟨f',ze4 hg he.symm,by rw [he];exact h1,by rw [hl];exact h2⟩
  ·exact ⟨g,zep hg hgn,h1,h2⟩
structure DkX (w:World) (b:Nat) (F:Nat→Prop) (l:List Fl) (mf ml:Nat) (fb:List UInt8→Nat) (col:Nat→Option (List UInt8)):Prop where
 lt:∀ i,F i→i<w.heap.size
 nb:F b∧col b=none
 nf:F mf∧col mf=none
 nl:F ml∧col ml=none
 ne:mf≠ml
 files:zd6 w mf (l.map fun f=>(f.name,fb f.name))
 loose:∃ l2,zaW w ml l2∧∀ p,p∈l2.map Prod.fst↔zbo l p
 each:∀ f∈l,∃ v1 v2,FileAt w (fun i=>F i∧col i=some f.name) (fb f.name) v1 v2 f.now f.lasts
def paint (w:World) (col:Nat→Option (List UInt8)) (nm:List UInt8) (i:Nat):Option (List UInt8):=if w.heap.size≤i then some nm else col i
theorem zne {w:World} {col:Nat→Option (List UInt8)} {nm:List UInt8} {i:Nat} (h:i<w.heap.size):paint w col nm i=col i:=by
 unfold paint;rw [if_neg (by omega)]
theorem znf {w:World} {col:Nat→Option (List UInt8)} {nm:List UInt8} {i:Nat} (h:w.heap.size≤i):paint w col nm i=some nm:=by
 unfold paint;rw [if_pos h]
theorem zgH {w w':World} {F S:Nat→Prop} (h:Only w w' S) (hS:∀ i,S i→F i):Turns w w' F (more w w' F):=
 ⟨h.weak hS,fun i hi=>by
  rcases hi with hi|⟨h1,_⟩
  ·exact .inl hi
  ·exact .inr h1⟩
section
variable {w w':World} {b:Nat} {F:Nat→Prop} {l:List Fl} {mf ml:Nat} {fb:List UInt8→Nat} {col:Nat→Option (List UInt8)}
theorem DkX.nodup (h:DkX w b F l mf ml fb col):(l.map (·.name)).Nodup:=by
 have:=h.files.once;simpa [List.map_map,Function.comp_def] using this
theorem DkX.same (h:DkX w b F l mf ml fb col) (hs:∀ i,F i→w'.heap[i]? = w.heap[i]?) (hsz:w.heap.size≤w'.heap.size):DkX w' b F l mf ml fb col:=by
 obtain ⟨l2,h2,h3⟩:=h.loose;exact ⟨fun i hi=>Nat.lt_of_lt_of_le (h.lt i hi) hsz,h.nb,h.nf,h.nl,h.ne,h.files.same (hs _ h.nf.1),⟨l2,h2.same (hs _ h.nl.1),h3⟩,fun f hf=>by
  obtain ⟨v1,v2,q⟩:=h.each f hf;exact ⟨v1,v2,q.same fun i hi=>hs i hi.1⟩⟩
theorem DkX.keep (h:DkX w b F l mf ml fb col) (k:Keeps w w'):DkX w' b F l mf ml fb col:=h.same (fun i hi=>k.block i (h.lt i hi)) k.size
abbrev DkX.own (F:Nat→Prop) (col:Nat→Option (List UInt8)) (nm:List UInt8) (i:Nat):Prop:=F i∧col i=some nm
theorem DkX.turn (h:DkX w b F l mf ml fb col) {f f':Fl} (hf:f∈l) (hn:f'.name=f.name) (hl:∀ k,f'.loose k=f.loose k) {v1 v2:Value} (hO:Only w w' (DkX.own F col f.name)) (hA:FileAt w' (more w w' (DkX.own F col f.name)) (fb f.name) v1 v2 f'.now f'.lasts) :
 DkX w' b (more w w' F) (setF l f') mf ml fb (paint w col f.name):=by
 have hne:∀ i,F i→col i=none→w'.heap[i]? = w.heap[i]?:=fun i hi hc=>hO.block i (h.lt i hi) (fun e=>by have e:=e.2;rw [hc] at e;cases e)
 have hold:∀ i,F i→paint w col f.name i=col i:=fun i hi=>zne (h.lt i hi)
 obtain ⟨l2,h2,h3⟩:=h.loose;refine ⟨fun i hi=>?_,⟨.inl h.nb.1,by rw [hold _ h.nb.1];exact h.nb.2⟩,⟨.inl h.nf.1,by rw [hold _ h.nf.1];exact h.nf.2⟩,⟨.inl h.nl.1,by rw [hold _ h.nl.1];exact h.nl.2⟩,h.ne,?_,⟨l2,h2.same (hne _ h.nl.1 h.nl.2),fun p=>?_⟩,fun g hg=>?_⟩
 ·rcases hi with hi|⟨_,hi⟩
  ·exact Nat.lt_of_lt_of_le (h.lt i hi) hO.size
  ·exact hi
 ·rw [zh2 l _ fb (zeq l f')];exact h.files.same (hne _ h.nf.1 h.nf.2)
 ·rw [h3,zdU h.nodup hf hn hl]
 ·rcases zeo hg with ⟨rfl,-⟩|⟨hg',hgn⟩
  ·rw [hn];exact ⟨v1,v2,hA.wide fun i hi=>by
    rcases hi with ⟨hi,hc⟩|⟨h1,h2⟩
    ·exact ⟨.inl hi,by rw [hold i hi];exact hc⟩
    ·exact ⟨.inr ⟨h1,h2⟩,znf h1⟩⟩
  ·obtain ⟨u1,u2,q⟩:=h.each g hg';refine ⟨u1,u2,(q.same fun i hi=>hO.block i (h.lt i hi.1) (fun e=>hgn ?_)).wide fun i hi=>⟨.inl hi.1,by rw [hold i hi.1];exact hi.2⟩⟩;have:=hi.2.symm.trans e.2;rw [hn];exact Option.some.inj this
theorem DkX.find (h:DkX w b F l mf ml fb col) (nm:List UInt8):lookM (l.map fun f=>(f.name,fb f.name)) nm=(getF l nm).map fun f=>fb f.name:=zlT l fb nm
theorem DkX.box (h:DkX w b F l mf ml fb col) {cs:Array Value} (hb:Box w b 88 cs) {nm:List UInt8} (hO:Only w w' (DkX.own F col nm)):Box w' b 88 cs:=
 (hO.block b hb.lt (fun e=>by have e:=e.2;rw [h.nb.2] at e;cases e)).trans hb
theorem DkX.setB (h:DkX w b F l mf ml fb col) {cs:Array Value} (hb:Box w b 88 cs) (hO:Only w w' (fun c=>c=b)):DkX w' b F l mf ml fb col:=by
 have hs:∀ i,F i→i≠b→w'.heap[i]? = w.heap[i]?:=fun i hi hne=>hO.block i (h.lt i hi) hne
 obtain ⟨l2,h2,h3⟩:=h.loose;refine ⟨fun i hi=>Nat.lt_of_lt_of_le (h.lt i hi) hO.size,h.nb,h.nf,h.nl,h.ne,h.files.same (hs _ h.nf.1 (fun e=>h.files.ne hb e.symm)),⟨l2,h2.same (hs _ h.nl.1 (fun e=>h2.ne hb e.symm)),h3⟩,fun f hf=>?_⟩;obtain ⟨v1,v2,q⟩:=h.each f hf;exact ⟨v1,v2,q.same fun i hi=>hs i hi.1 (fun e=>by have hi:=hi.2;rw [e,h.nb.2] at hi;cases hi)⟩
end
structure Dk (w:World) (b:Nat) (F:Nat→Prop) (s:Ds):Prop where
 ok:DsOk s
 dead:s.off=true→s.armed=0
 armed:s.armed≤9223372036854775807
 used:usedL s.l≤1048576
 at_:∃ mf ml fb col,Box w b 88 (dkC mf ml s.q s.armed s.off)∧DkX w b F s.l mf ml fb col
section
variable {w w':World} {b:Nat} {F:Nat→Prop} {s:Ds}
theorem Dk.lt (h:Dk w b F s):∀ i,F i→i<w.heap.size:=by
 obtain ⟨mf,ml,fb,col,hb,hx⟩:=h.at_;exact hx.lt
theorem Dk.same (h:Dk w b F s) (hs:∀ i,F i→w'.heap[i]? = w.heap[i]?) (hsz:w.heap.size≤w'.heap.size):Dk w' b F s:=by
 obtain ⟨mf,ml,fb,col,hb,hx⟩:=h.at_;exact ⟨h.ok,h.dead,h.armed,h.used,mf,ml,fb,col,(hs b hx.nb.1).trans hb,hx.same hs hsz⟩
end
end Go.Proofs.YtjpldnjldindkaaGreatDoor
namespace Go.Proofs.YtjpldnjldindkaaGreatDoor
open Go.RowKit Go.Shelf
section
variable {κ ε:Type} [DecidableEq κ] {P:Program} {M K V:TypeId} {kv:κ→Value} {ev:ε→Value} (w:World) {ops:Array Oper} {o:Oper} {a:Act} {KK:Act→World→Prop} {Q:Exit→Act→World→Prop} {E:Prop}
theorem zng (hg:o.guard=none) (m x:Operand) (hop:o.op=Op.call {callee:=Callee.builtin Builtin.delete,args:=#[m,x],argTypes:=#[M,K]}) (T:MapV P M K V kv ev) (b:Nat) (l:List (κ×ε)) (hm:a.eval m = .map (some b)) (h:MapW kv ev w b l) (k:κ) (hx:a.eval x=kv k)
 (hK:∀ w',MapW kv ev w' b (delM l k)→Only w w' (fun c=>c=b)→KK (a.put o.dst (.tuple #[])) w'):if Region.wanted o (yielded ops a.tmps)=true then Oper.wp P o a w KK Q else E:=by
 have hw:Region.wanted o (yielded ops a.tmps)=true:=by simp [Region.wanted,hg]
 rw [if_pos hw];obtain ⟨w',hrun,r1,r2⟩:=zdq T h k o.type;unfold Oper.wp;simp [execOp,hop,resolve,invoke,builtin,hm,hx,hrun,Result.andThen];exact hK w' r1 r2
theorem zjm (hg:o.guard=none) (m x:Operand) (hop:o.op=Op.call {callee:=Callee.builtin Builtin.delete,args:=#[m,x],argTypes:=#[M,K]}) (T:MapV P M K V kv ev) (b r:Nat) (l lf:List (κ×ε)) (hm:a.eval m = .map (some b)) (h:IterV kv ev w b r l lf) (k:κ) (hx:a.eval x=kv k)
 (hK:∀ w',IterV kv ev w' b r (delM l k) (delM lf k)→Only w w' (fun c=>c=b)→KK (a.put o.dst (.tuple #[])) w'):if Region.wanted o (yielded ops a.tmps)=true then Oper.wp P o a w KK Q else E:=by
 have hw:Region.wanted o (yielded ops a.tmps)=true:=by simp [Region.wanted,hg]
 rw [if_pos hw];obtain ⟨w',hrun,r1,r2⟩:=zko T h k o.type;unfold Oper.wp;simp [execOp,hop,resolve,invoke,builtin,hm,hx,hrun,Result.andThen];exact hK w' r1 r2
end
abbrev Pl:=List UInt8×Nat
def keepL (l:List (Pl×Unit)) (pq:Pl→Bool) (ss:List Pl):List (Pl×Unit):=l.filter fun p=>!(decide (p.1∈ss)&&pq p.1)
theorem znh (l:List (Pl×Unit)) (pq:Pl→Bool):keepL l pq []=l:=by
 unfold keepL;rw [List.filter_eq_self];intro p hp;simp
theorem zni {l:List (Pl×Unit)} {pq:Pl→Bool} {ss:List Pl} (h:ss.Perm (l.map Prod.fst)):keepL l pq ss=l.filter fun p=>!pq p.1:=by
 unfold keepL;apply List.filter_congr;intro p hp;have:p.1∈ss:=h.mem_iff.2 (List.mem_map_of_mem hp);simp [this]
theorem znj (l:List (Pl×Unit)) (pq:Pl→Bool) (ss:List Pl) (x:Pl) (hx:pq x=true):delM (keepL l pq ss) x=keepL l pq (ss++[x]):=by
 unfold keepL delM;rw [List.filter_filter];apply List.filter_congr;intro p hp;by_cases e:p.1=x
 ·simp [e,hx]
 ·simp [e]
theorem zlU (l:List (Pl×Unit)) (pq:Pl→Bool) (ss:List Pl) (x:Pl) (hx:pq x=false):keepL l pq ss=keepL l pq (ss++[x]):=by
 unfold keepL;apply List.filter_congr;intro p hp;by_cases e:p.1=x
 ·simp [e,hx]
 ·simp [e]
theorem zq4 {l2:List (Pl×Unit)} {ss:List Pl} {lf lf':List (Pl×Unit)} {x:Pl} {y:Unit} (hn:(l2.map Prod.fst).Nodup) (hP:(ss++lf.map Prod.fst).Perm (l2.map Prod.fst)) (hp:lf.Perm ((x,y)::lf')):delM lf' x=lf':=by
 apply zbZ;have h1:(ss++lf.map Prod.fst).Nodup:=hP.nodup_iff.2 hn;have h2:=(List.nodup_append.1 h1).2.1;have h3:=((hp.map Prod.fst).nodup_iff).1 h2;rw [List.map_cons,List.nodup_cons] at h3;exact h3.1
theorem zlV {w:World} {b mf ml q armed:Nat} {off:Bool} (h:Box w b 88 (dkC mf ml q armed off)) {l2:List (Pl×Unit)} (hm:zaW w ml l2) (g:FuncId) (lb:Array Value) (eg:∀ args w,(callFunc g args).run Tryz.prog w = .ok (.enter g args) w)
 (pq:Pl→Bool) (J:List Pl→(Nat→Prop)→World→Prop) (T0:Nat→Prop) (hT:∀ c,T0 c→c<w.heap.size∧c≠b∧c≠ml) (h0:J [] T0 w)
 (hJs:∀ pre T W W',J pre T W→(∀ c,T c→W'.heap[c]? = W.heap[c]?)→W.heap.size≤W'.heap.size→J pre T W')
 (hJl:∀ pre T W,J pre T W→∀ c,T c→c<W.heap.size)
 (hq:∀ pre T (x:Pl) W,J pre T W→pre.length<l2.length→Calls Tryz.prog g (#[.agg #[.string (str x.1), .int .i64 (x.2:Int)]]++lb) W fun e W'=>e = .returned (.bool (pq x))∧∃ T',J (pre++[x]) T' W'∧Turns W W' T T') :
 Calls Tryz.prog 168 #[.pointer (some ⟨b,0,none⟩), .func (.func g) #[] lb] w fun e w'=>e = .returned (.tuple #[])∧∃ ss T',ss.Perm (l2.map Prod.fst)∧J ss T' w'∧zaW w' ml (l2.filter fun p=>!pq p.1)∧Only w w' (fun c=>c=ml∨T0 c)∧(∀ c,T' c→T0 c∨w.heap.size≤c):=by
 have c1:w.cell? ⟨b,1,none⟩=some (.map (some ml)):=h.cell 1 rfl;have OM:=zH hm;have HB:=zH h;have HNE:=zH (hm.ne h);have HT:=zH hT;have H0:=zH h0;have JS:=zH hJs;have JL:=zH hJl;have HQ:=zH hq;clear h hm hT h0 hJs hJl hq;go_enter Tryz.func168,Tryz.ntmps168;go_wp2_with (at_range;refine zeF _ rfl _ rfl looseT ml l2 rfl OM.out ?_;intro w0 hi0 hk0 hs0)
 go_frame
 have HI0:=zH hi0;have HK0:=zH hk0;clear hi0 hk0 hs0;go_loopw [4] (fun _ wr=>∃ (lf:List (Pl×Unit)) (ss:List Pl) (T:Nat→Prop),IterV plV unV wr ml w.heap.size (keepL l2 pq ss) lf∧(ss++lf.map Prod.fst).Perm (l2.map Prod.fst)∧J ss T wr∧Only w wr (fun c=>c=ml∨T0 c)∧(∀ c,T c→T0 c∨w.heap.size<c))
  (fun _ wr=>wr.rangeLeft ml w.heap.size)
 case atStart=>
  refine ⟨l2,[],T0,by rw [znh];exact HI0.out,by simp,JS.out [] T0 w w0 H0.out (fun c hc=>HK0.out.block c (HT.out c hc).1) HK0.out.size,⟨HK0.out.os,HK0.out.tape,HK0.out.output,HK0.out.size,fun i hi _=>HK0.out.block i hi⟩,fun c hc=>.inl hc⟩
 case round=>
  obtain ⟨lf,ss,T,hI,hP,hJ,hO,hTT⟩:=hrel;have HI:=zH hI;have HP:=zH hP;have HJ:=zH hJ;have HO:=zH hO;have HTT:=zH hTT;clear hI hP hJ hO hTT;go_wp2_with (at_next;refine zeV _ rfl _ rfl looseT ml w.heap.size (keepL l2 pq ss) lf rfl HI.out (fun p:List UInt8×Nat=>Value.agg #[.string (str p.1), .int .i64 (p.2:Int)]) rfl (fun _:Unit=>Value.agg #[]) rfl ?_ ?_)
  ·intro hd;have hS:ss.Perm (l2.map Prod.fst):=by have:=HP.out;rw [hd] at this;simpa using this
   have HS:=zH hS;have HM:=zH (by have:=HI.out.map;rw [zni hS] at this;exact this);clear hd hS;go_wp2
   go_returns;exact ⟨rfl,ss,T,HS.out,HJ.out,HM.out,HO.out,fun c hc=>by
    rcases HTT.out c hc with e|e
    ·exact .inl e
    ·exact .inr (Nat.le_of_lt e)⟩
  ·rintro xa xb y lf' w2 hp hI2 ho2 hen;have hlen:ss.length<l2.length:=by
    have h1:=HP.out.length_eq;have h2:=hp.length_eq;simp only [List.length_append,List.length_map,List.length_cons] at h1 h2;omega
   have hlt2:=HI.out.lt;obtain ⟨w3,hw3⟩:∃ w3,w2.alloc (.cells #[.string (str xa), .int .i64 (xb:Int)] 49)=w3:=(⟨_,rfl⟩);have k3:Keeps w2 w3:=by rw [←hw3];exact zA _ _
   have hTr:∀ c,T c→c≠w.heap.size:=fun c hc e=>by
    rcases HTT.out c hc with h1|h1
    ·have:=(HT.out c h1).1;omega
    ·omega
   have hTl:∀ c,T c→c<wr.heap.size:=JL.out _ _ _ HJ.out;have J3:J ss T w3:=JS.out ss T wr w3 HJ.out (fun c hc=>by
    have e1:=ho2.block c (hTl c hc) (hTr c hc);exact (k3.block c (Nat.lt_of_lt_of_le (hTl c hc) ho2.size)).trans e1) (Nat.le_trans ho2.size k3.size)
   have I3:=hI2.keep k3;have B3:Box w3 w2.heap.size 49 #[.string (str xa), .int .i64 (xb:Int)]:=by rw [←hw3];exact Box.new _ _ _
   have HQ3':=HQ.out ss T (xa,xb) w3 J3 hlen;have O3:Only w w3 (fun c=>c=ml∨T0 c):=(HO.out.trans (S1:=fun c=>c=w.heap.size) ho2 (fun i hi=>.inr (by omega))).keep k3;have hwl:w.heap.size<w3.heap.size:=by have:=hlt2.2;have:=ho2.size;have:=k3.size;omega
   have HB3:=zH B3;have HI3:=zH I3;have HJ3:=zH J3;have HO3:=zH O3;have HPP:=zH hp;have HTL:=zH hTl;have HW:=zH (show wr.heap.size≤w2.heap.size from ho2.size);have HTR:=zH hTr;have b0:w3.cell? ⟨w2.heap.size,0,none⟩=some (.string (str xa)):=B3.cell 0 rfl;have b1:w3.cell? ⟨w2.heap.size,1,none⟩=some (.int .i64 (xb:Int)):=B3.cell 1 rfl;clear hp hI2 ho2 hlt2 k3 J3 I3 O3 B3 hTl hTr hlen;have FIN:=zH (show ∀ w4 T4,J (ss++[(xa,xb)]) T4 w4→Turns w3 w4 T T4→IterV plV unV w4 ml w.heap.size (keepL l2 pq ss) lf'∧Only w w4 (fun c=>c=ml∨T0 c)∧(∀ c,T4 c→T0 c∨w.heap.size<c)∧Box w4 w2.heap.size 49 #[.string (str xa), .int .i64 (xb:Int)]∧Box w4 b 88 (dkC mf ml q armed off) from fun w4 T4 hJ4 hT4=>by
    have hTm:∀ c,c<w.heap.size→¬ T0 c→¬ T c:=fun c hc hn hh=>by
     rcases HTT.out c hh with e|e
     ·exact hn e
     ·omega
    have I4:=HI3.out.same (w':=w4) (hT4.only.block ml HI3.out.lt.1 (hTm ml OM.out.lt (fun e=>(HT.out ml e).2.2 rfl))) (hT4.only.block _ HI3.out.lt.2 (fun e=>HTR.out _ e rfl));have O4:Only w w4 (fun c=>c=ml∨T0 c):=HO3.out.trans hT4.only (fun i hi=>by
     rcases HTT.out i hi with e|e
     ·exact .inl (.inr e)
     ·exact .inr (Nat.le_of_lt e))
    refine ⟨I4,O4,fun c hc=>?_,?_,?_⟩
    ·rcases hT4.next c hc with e|e
     ·exact HTT.out c e
     ·exact .inr (Nat.lt_of_lt_of_le hwl e)
    ·exact (hT4.only.block _ HB3.out.lt (fun e=>by have:=HTL.out _ e;have:=HW.out;omega)).trans HB3.out
    ·exact (O4.block b HB.out.lt (fun e=>by
      rcases e with e|e
      ·exact HNE.out e
      ·exact (HT.out b e).2.1 rfl)).trans HB.out)
   have PERM:=zH (show ((ss++[(xa,xb)])++lf'.map Prod.fst).Perm (l2.map Prod.fst) by
    have h1:=HPP.out.map Prod.fst;have h2:(ss++lf.map Prod.fst).Perm ((ss++[(xa,xb)])++lf'.map Prod.fst):=by
     rw [List.append_assoc];exact List.Perm.append_left ss (by simpa using h1)
    exact h2.symm.trans HP.out)
   have LEN:=zH (show lf.length=lf'.length+1 by have:=HPP.out.length_eq;simpa using this);cases hx:pq (xa,xb) with
   | false=>
    rw [hx] at HQ3';have HQ3:=zH HQ3';clear HQ3';go_wp2_with (go_at_fn g;refine HQ3.out.mono ?_;rintro e w4 ⟨rfl,T4,hJ4,hT4⟩)
    obtain ⟨I4,O4,T4c,-,-⟩:=FIN.out w4 T4 hJ4 hT4;rw [zlU l2 pq ss (xa,xb) hx] at I4;exact ⟨⟨lf',ss++[(xa,xb)],T4,I4,PERM.out,hJ4,O4,T4c⟩,by rw [I4.left_eq,HI.out.left_eq,LEN.out];omega⟩
   | true=>
    rw [hx] at HQ3';have HQ3:=zH HQ3';have DL:=zH (zq4 OM.out.once HP.out HPP.out);have KD:=zH (znj l2 pq ss (xa,xb) hx);clear HQ3' hx;go_wp2_with (go_at_fn g;refine HQ3.out.mono ?_;rintro e w4 ⟨rfl,T4,hJ4,hT4⟩)
    obtain ⟨I4,O4,T4c,B4,D4⟩:=FIN.out w4 T4 hJ4 hT4;have d1:w4.cell? ⟨b,1,none⟩=some (.map (some ml)):=D4.cell 1 rfl;have p0:w4.cell? ⟨w2.heap.size,0,none⟩=some (.string (str xa)):=B4.cell 0 rfl;have p1:w4.cell? ⟨w2.heap.size,1,none⟩=some (.int .i64 (xb:Int)):=B4.cell 1 rfl;have HI4:=zH I4;have HO4:=zH O4;have HT4:=zH T4c;have HJ4:=zH hJ4;have HML:=zH (show ∀ c,T4 c→c≠ml from fun c hc e=>by
     rcases T4c c hc with h1|h1
     ·exact (HT.out c h1).2.2 e
     ·have:=OM.out.lt;omega)
    clear I4 O4 T4c B4 D4 hJ4 hT4 b0 b1 c1
    go_region_law ((refine zjm _ rfl (.tmp 20) (.tmp 21) rfl looseT ml w.heap.size (keepL l2 pq ss) lf' (by simp [Act.eval,Act.put]) (HI4.out.keep (zD _)) (xa,xb) (by simp [Act.eval,Act.put,plV]) ?_);intro w5 hI5 hO5)
    all_goals
     rw [KD.out,DL.out] at hI5;have k4:Keeps w4 w4.drew:=zD _;have O5:Only w w5 (fun c=>c=ml∨T0 c):=(HO4.out.keep k4).trans hO5 (fun i hi=>.inl (.inl hi));have J5:J (ss++[(xa,xb)]) T4 w5:=JS.out _ T4 w4 w5 HJ4.out (fun c hc=>hO5.block c (JL.out _ _ _ HJ4.out c hc) (HML.out c hc)) hO5.size;have LE:=zH (show w5.rangeLeft ml w.heap.size<wr.rangeLeft ml w.heap.size by rw [hI5.left_eq,HI.out.left_eq,LEN.out];omega);have I5:=zH hI5;have O5h:=zH O5;have J5h:=zH J5;clear hI5 hO5 O5 J5 k4;go_wp2_with fail
     exact ⟨⟨lf',ss++[(xa,xb)],T4,I5.out,PERM.out,J5h.out,O5h.out,HT4.out⟩,LE.out⟩
section
variable {w w':World} {b:Nat} {F:Nat→Prop} {s:Ds}
theorem zcp (h:Dk w b F s):(goneS s).l=s.l∧(goneS s).q=s.q∧(goneS s).armed=fuseA s.armed∧(goneS s).off=fuseO s.armed s.off:=by
 have hd:=h.dead;unfold goneS fuseA fuseO;by_cases h0:0<s.armed
 ·rw [if_pos h0,if_pos h0];have:s.off=false:=by
   cases ho:s.off with
   | false=>rfl
   | true=>have:=hd ho;omega
  simp [this]
 ·rw [if_neg h0,if_neg h0];refine ⟨rfl,rfl,?_,rfl⟩;omega
theorem zer (h:Dk w b F s):Calls Tryz.prog 144 #[.pointer (some ⟨b,0,none⟩)] w fun e w'=>e = .returned (.int .i64 (pwr (goneS s).off))∧Dk w' b F (goneS s)∧Only w w' (fun c=>c=b):=by
 obtain ⟨g1,g2,g3,g4⟩:=zcp h;obtain ⟨mf,ml,fb,col,hb,hx⟩:=h.at_;refine (znb hb h.armed).mono ?_;rintro e w' ⟨rfl,hb',hO⟩;refine ⟨by rw [g4],⟨⟨by rw [g1];exact h.ok.rise,by rw [g1];exact h.ok.files,by rw [g2];exact h.ok.q⟩,?_,?_,by rw [g1];exact h.used,mf,ml,fb,col,by rw [g2,g3,g4];exact hb',by rw [g1];exact hx.setB hb hO⟩,hO⟩
 ·rw [g3,g4];unfold fuseO fuseA;intro ho;split at ho
  ·have:=of_decide_eq_true ho;omega
  ·have:=h.dead ho;omega
 ·rw [g3];unfold fuseA;have:=h.armed;omega
theorem Dk.turnsB (h:Dk w b F s) (hO:Only w w' (fun c=>c=b)):Turns w w' F F:=by
 obtain ⟨mf,ml,fb,col,hb,hx⟩:=h.at_;exact ⟨hO.weak (fun i hi=>by rw [hi];exact hx.nb.1),fun _ hi=>.inl hi⟩
theorem zjn (h:Dk w b F s):Calls Tryz.prog 189 #[.pointer (some ⟨b,0,none⟩)] w fun e w'=>e = .returned (.int .i64 (pwr s.off))∧w=w':=by
 obtain ⟨mf,ml,fb,col,hb,hx⟩:=h.at_;exact zd5 hb
def zbc (s:Ds) (fb:List UInt8→Nat) (nm:List UInt8):Value×Int:=if zaf nm=false then (.pointer none,1) else match getF s.l nm with
 | none=>(.pointer none,3)
 | some f=>(.pointer (some ⟨fb f.name,0,none⟩),0)
theorem zaY {mf ml:Nat} {fb:List UInt8→Nat} {col:Nat→Option (List UInt8)} {q armed:Nat} {off:Bool} (hb:Box w b 88 (dkC mf ml q armed off)) (hx:DkX w b F s.l mf ml fb col) (nm:List UInt8) (hnm:nm.length≤maxLen) :
 Calls Tryz.prog 145 #[.pointer (some ⟨b,0,none⟩), .string (str nm)] w fun e w'=>e = .returned (.tuple #[(zbc s fb nm).1, .int .i64 (zbc s fb nm).2])∧w=w':=by
 refine zpj hb hx.files nm hnm _ _ ?_;rw [hx.find];unfold findA zbc;by_cases h:zaf nm=false
 ·rw [if_pos h,if_pos h]
 ·rw [if_neg h,if_neg h];cases getF s.l nm<;>rfl
theorem zpk (h:Dk w b F s) (nm:List UInt8) (hnm:nm.length≤maxLen):Calls Tryz.prog 191 #[dpt b,strV nm] w fun e w'=>e = .returned (.tuple #[.int .i64 ((sizeS s nm).1:Int), .int .i64 ((sizeS s nm).2:Int)])∧Keeps w w':=by
 obtain ⟨mf,ml,fb,col,hb,hx⟩:=h.at_;have P:=zH (zjn h);have FD:=zH (zaY hb hx nm hnm);show Calls _ _ #[.pointer (some ⟨b,0,none⟩), .string (str nm)] w _;cases ho:s.off
 ·rw [ho] at P;cases hn:zaf nm
  ·have e:sizeS s nm=(0,1):=by unfold sizeS;rw [ho,hn];simp
   have e2:zbc s fb nm=(.pointer none,1):=by unfold zbc;rw [if_pos hn]
   rw [e];rw [e2] at FD;clear h hb hx e e2;go_enter Tryz.func191,Tryz.ntmps191;go_wp2_with (first
    | (go_at_call 189;refine P.out.mono ?_;rintro e w' ⟨rfl,rfl⟩)
    | (go_at_call 145;refine FD.out.mono ?_;rintro e w' ⟨rfl,rfl⟩))
   exact bodyPost_ret (v:=.tuple #[.int .i64 0, .int .i64 1]) (by simp [results,Tryz.results191,go_sem]) rfl ⟨rfl,zab _⟩
  ·cases hg:getF s.l nm with
   | none=>
    have e:sizeS s nm=(0,3):=by unfold sizeS;rw [ho,hn,hg];simp
    have e2:zbc s fb nm=(.pointer none,3):=by unfold zbc;rw [if_neg (by rw [hn];simp),hg]
    rw [e];rw [e2] at FD;clear h hb hx e e2;go_enter Tryz.func191,Tryz.ntmps191;go_wp2_with (first
     | (go_at_call 189;refine P.out.mono ?_;rintro e w' ⟨rfl,rfl⟩)
     | (go_at_call 145;refine FD.out.mono ?_;rintro e w' ⟨rfl,rfl⟩))
    exact bodyPost_ret (v:=.tuple #[.int .i64 0, .int .i64 3]) (by simp [results,Tryz.results191,go_sem]) rfl ⟨rfl,zab _⟩
   | some f=>
    have e:sizeS s nm=(f.now.length,0):=by unfold sizeS;rw [ho,hn,hg];simp
    have e2:zbc s fb nm=(.pointer (some ⟨fb f.name,0,none⟩),0):=by unfold zbc;rw [if_neg (by rw [hn];simp),hg]
    rw [e];rw [e2] at FD;obtain ⟨v1,v2,q⟩:=hx.each f (zaR hg);obtain ⟨A,cap,rfl,-⟩:=q.own1.form;have c0:=q.box.cell 0 rfl;clear h hb hx e e2 q;go_enter Tryz.func191,Tryz.ntmps191;go_wp2_with (first
     | (go_at_call 189;refine P.out.mono ?_;rintro e w' ⟨rfl,rfl⟩)
     | (go_at_call 145;refine FD.out.mono ?_;rintro e w' ⟨rfl,rfl⟩))
    exact bodyPost_ret (v:=.tuple #[.int .i64 (f.now.length:Int), .int .i64 0]) (by simp [results,Tryz.results191,go_sem]) rfl ⟨rfl,zab _⟩
 ·rw [ho] at P;have e:sizeS s nm=(0,6):=by unfold sizeS;rw [ho];simp
  rw [e];clear h hb hx e;go_enter Tryz.func191,Tryz.ntmps191;go_wp2_with (go_at_call 189;refine P.out.mono ?_;rintro e w' ⟨rfl,rfl⟩)
  exact bodyPost_ret (v:=.tuple #[.int .i64 0, .int .i64 6]) (by simp [results,Tryz.results191,go_sem,pwr]) rfl ⟨rfl,zab _⟩
end
theorem zlW {l m:List Fl} (h:l.Perm m):usedL l=usedL m:=by
 unfold usedL;exact (h.map _).sum_nat
section
variable {w w':World} {b:Nat} {F:Nat→Prop} {s:Ds}
theorem znk {fb:List UInt8→Nat} {gl:List Fl} {lf lf':List (List UInt8×Nat)} {e:List UInt8×Nat} (h1:lf.Perm (gl.map fun f=>(f.name,fb f.name))) (h2:lf.Perm (e::lf')) :
 ∃ f gl',e=(f.name,fb f.name)∧gl.Perm (f::gl')∧lf'.Perm (gl'.map fun f=>(f.name,fb f.name)):=by
 have h3:=h2.symm.trans h1;have hm:e∈gl.map fun f=>(f.name,fb f.name):=h3.mem_iff.1 (List.mem_cons_self)
 obtain ⟨f,hf,rfl⟩:=List.mem_map.1 hm;obtain ⟨a,c,rfl⟩:=List.append_of_mem hf;refine ⟨f,a++c,rfl,List.perm_middle,?_⟩;have h4:((a++f::c).map fun f=>(f.name,fb f.name)).Perm ((f.name,fb f.name)::(a++c).map fun f=>(f.name,fb f.name)):=by
  have:=(List.perm_middle (a:=f) (l₁:=a) (l₂:=c)).map fun f=>(f.name,fb f.name)
  exact this
 exact (h3.trans h4).cons_inv
theorem zjo (h:Dk w b F s):Calls Tryz.prog 252 #[dpt b] w fun e w'=>e = .returned (.int .i64 (usedL s.l:Int))∧Keeps w w':=by
 obtain ⟨mf,ml,fb,col,hb,hx⟩:=h.at_;have c0:w.cell? ⟨b,0,none⟩=some (.map (some mf)):=hb.cell 0 rfl;have OM:=zH hx.files;have EA:=zH hx.each;have OK:=zH h.ok.files;have SE:=zH zc2;obtain ⟨total,htot⟩:∃ t,t=usedL s.l:=⟨_,rfl⟩
 have hb2:total≤1048576:=by rw [htot];exact h.used
 have TOT:=zH htot;have hbi:(total:Int)≤1048576:=by omega
 rw [←htot];clear h hb hx htot;show Calls _ _ #[.pointer (some ⟨b,0,none⟩)] w _;go_enter Tryz.func252,Tryz.ntmps252;go_wp2_with (at_range;refine zeF _ rfl _ rfl zco mf _ rfl OM.out ?_;intro w0 hi0 hk0 hs0)
 go_frame
 have HI0:=zH hi0;have HK0:=zH hk0;clear hi0 hk0 hs0;go_loopw [3,5] (fun t _ wr=>∃ (acc:Nat) (gl:List Fl) (lf:List (List UInt8×Nat)),t = .int .i64 (acc:Int)∧acc+usedL gl=total∧(∀ f∈gl,f∈s.l)∧IterV strW dpt wr mf w.heap.size (s.l.map fun f=>(f.name,fb f.name)) lf∧lf.Perm (gl.map fun f=>(f.name,fb f.name))∧Keeps w wr)
  (fun _ _ wr=>wr.rangeLeft mf w.heap.size)
 case atStart=>exact ⟨0,s.l,_,rfl,by rw [TOT.out];omega,fun f hf=>hf,HI0.out, .refl _,HK0.out⟩
 case round=>
  obtain ⟨acc,gl,lf,rfl,hacc,hgl,hI,hP,hkw⟩:=hrel;have HA:=zH hacc;have HG:=zH hgl;have HI:=zH hI;have HP:=zH hP;have HKW:=zH hkw;clear hacc hgl hI hP hkw;go_wp2_with (at_next;refine zeV _ rfl _ rfl zco mf w.heap.size _ lf rfl HI.out (fun s:List UInt8=>Value.string (str s)) rfl (fun k:Nat=>Value.pointer (some ⟨k,0,none⟩)) rfl ?_ ?_)
  ·intro hd;have hz:acc=total:=by
    have h1:=HP.out.length_eq;rw [hd] at h1;have h2:gl=[]:=List.eq_nil_of_length_eq_zero (by simpa using h1.symm);have h3:=HA.out;rw [h2] at h3;simpa [usedL] using h3
   subst hz;clear hd;go_wp2
   go_ret;exact ⟨rfl,HKW.out⟩
  ·rintro nm k lf' w2 hp hI2 ho2 hen;obtain ⟨f,gl',he,hg2,hl2⟩:=znk HP.out hp;obtain ⟨rfl,rfl⟩:nm=f.name∧k=fb f.name:=(by simpa using he);have hfm:f∈s.l:=HG.out f (hg2.mem_iff.2 List.mem_cons_self);obtain ⟨v1,v2,q⟩:=EA.out f hfm;obtain ⟨A,cap,rfl,-⟩:=q.own1.form;have hr0:w.heap.size<w0.heap.size:=HI0.out.lt.2;have kw2:Keeps w w2:=⟨ho2.os.trans HKW.out.os,ho2.tape.trans HKW.out.tape,ho2.output.trans HKW.out.output,Nat.le_trans HKW.out.size ho2.size,fun i hi=>(ho2.block i (Nat.lt_of_lt_of_le hi HKW.out.size) (by omega)).trans (HKW.out.block i hi)⟩
   have bx:=q.box.keep kw2;have c0':w2.cell? ⟨fb f.name,0,none⟩=some (.slice A f.now.length cap):=bx.cell 0 rfl;have hsz:=(OK.out f hfm).size;have e1:acc+(sect f.now.length+usedL gl')=total:=by rw [←zaM,←zlW hg2];exact HA.out
   have hs1:(sect f.now.length:Int)≤1048576:=(by omega);have hs2:(acc:Int)+(sect f.now.length:Int)≤1048576:=by omega
   have S1:=zH (SE.out f.now.length (by omega) w2);have E1:=zH e1;have G1:=zH (show ∀ g∈gl',g∈s.l from fun g hg=>HG.out g (hg2.mem_iff.2 (List.mem_cons_of_mem _ hg)));have I2:=zH hI2;have L2:=zH hl2;have PP:=zH hp;have KW2:=zH kw2;have LEN:=zH (show lf.length=lf'.length+1 by have:=hp.length_eq;simpa using this);have hsn:(((acc+sect f.now.length:Nat)):Int)=(acc:Int)+(sect f.now.length:Int):=by omega
   clear he hg2 hl2 hp hI2 ho2 kw2 bx q hfm e1 hr0 hsz;generalize sect f.now.length=sl at *;go_wp2_with (go_at_call 251;refine S1.out.mono ?_;rintro e w' ⟨rfl,rfl⟩)
   first
    | exact ⟨⟨acc+sl,gl',lf',by rw [hsn],by have:=E1.out;omega,G1.out,I2.out,L2.out,KW2.out⟩,by rw [I2.out.left_eq,HI.out.left_eq,LEN.out];omega⟩
end
theorem zsg (w:World) (q:Int) (hq:0≤q∧q≤1048576) :
 Dk (((w.alloc (.map #[] 0)).alloc (.map #[] 0)).alloc (.cells #[.map (some w.heap.size), .map (some (w.heap.size+1)), .int .i64 q, .int .i64 0, .bool false] 88)) (w.heap.size+1+1) (fun i=>w.heap.size≤i∧i<w.heap.size+3) ⟨[],q.toNat,0,false⟩∧
 (∀ i,(fun i=>w.heap.size≤i∧i<w.heap.size+3) i→w.heap.size≤i)∧Keeps w (((w.alloc (.map #[] 0)).alloc (.map #[] 0)).alloc (.cells #[.map (some w.heap.size), .map (some (w.heap.size+1)), .int .i64 q, .int .i64 0, .bool false] 88)):=by
 have k1:=zA w (.map #[] 0);have k2:=zA (w.alloc (.map #[] 0)) (.map #[] 0);have k3:=zA ((w.alloc (.map #[] 0)).alloc (.map #[] 0)) (.cells #[.map (some w.heap.size), .map (some (w.heap.size+1)), .int .i64 q, .int .i64 0, .bool false] 88);have m1:=((MapW.new strW dpt w).keep k2).keep k3;have m2:=(MapW.new plV unV (w.alloc (.map #[] 0))).keep k3;have bx:=Box.new ((w.alloc (.map #[] 0)).alloc (.map #[] 0)) 88 #[.map (some w.heap.size), .map (some (w.heap.size+1)), .int .i64 q, .int .i64 0, .bool false];simp only [World.size_alloc] at m2 bx;have hqn:((q.toNat:Nat):Int)=q:=by omega
 refine ⟨⟨⟨List.Pairwise.nil,(fun f hf=>by cases hf),by show q.toNat≤1048576;omega⟩,(fun hh=>by cases hh),by show 0≤_;omega,by simp [usedL],w.heap.size,w.heap.size+1,fun _=>0,fun _=>none,?_,⟨fun i hi=>by simp;omega,⟨⟨by omega,by omega⟩,rfl⟩,⟨⟨by omega,by omega⟩,rfl⟩,⟨⟨by omega,by omega⟩,rfl⟩,by omega,m1,⟨[],m2,fun p=>?_⟩,fun f hf=>by cases hf⟩⟩,fun i hi=>hi.1,zK (zK k1 k2) k3⟩
 ·unfold dkC;show Box _ _ _ #[_,_, .int .i64 ((q.toNat:Nat):Int),_,_];rw [hqn];exact bx
 ·constructor
  ·intro h;cases h
  ·rintro ⟨f,hf,_⟩;cases hf
theorem zq5 (q:Int) (w:World) (h1 : -9223372036854775808≤q) (h2:q≤9223372036854775807) :
 Calls Tryz.prog 45 #[.int .i64 q] w fun e w'=>
  (0≤q∧q≤1048576∧∃ b F,e = .returned (.tuple #[dpt b, .int .i64 0])∧Dk w' b F ⟨[],q.toNat,0,false⟩∧(∀ i,F i→w.heap.size≤i)∧Keeps w w')∨
  ((q<0∨1048576<q)∧e = .returned (.tuple #[.pointer none, .int .i64 1])∧Keeps w w'):=by
 have hmm:=@run_makeMap Tryz.prog;have NEWD:=zH (zsg w q);have IQ:=zH (zks q);by_cases hq:0≤q∧q≤1048576
 ·rw [decide_eq_true hq] at IQ;have HQ:=zH hq;clear hq;go_enter Tryz.func45,Tryz.ntmps45;go_wp2_with (go_at_call 81;refine (IQ.out _).mono ?_;rintro e w' ⟨rfl,rfl⟩)
  have FIN:=NEWD.out HQ.out;exact bodyPost_ret (v:=.tuple #[.pointer (some ⟨w.heap.size+1+1,0,none⟩), .int .i64 0]) (by simp [results,Tryz.results45,go_sem]) rfl (.inl ⟨HQ.out.1,HQ.out.2,w.heap.size+1+1,_,rfl,FIN⟩)
 ·rw [decide_eq_false hq] at IQ;have HQ:=zH (show q<0∨1048576<q by omega);clear hq;go_enter Tryz.func45,Tryz.ntmps45;go_wp2_with (go_at_call 81;refine (IQ.out _).mono ?_;rintro e w' ⟨rfl,rfl⟩)
  exact bodyPost_ret (v:=.tuple #[.pointer none, .int .i64 1]) (by simp [results,Tryz.results45,go_sem]) rfl (.inr ⟨HQ.out,rfl,zab _⟩)
section
variable {w w':World} {b:Nat} {F:Nat→Prop} {s:Ds}
theorem zcq {fb:List UInt8→Nat} {nm:List UInt8} (h:zaf nm=false):zbc s fb nm=(.pointer none,1):=by unfold zbc;rw [if_pos h]
theorem zb1 {fb:List UInt8→Nat} {nm:List UInt8} (h:zaf nm=true) (hg:getF s.l nm=none):zbc s fb nm=(.pointer none,3):=by unfold zbc;rw [if_neg (by rw [h];simp),hg]
theorem zbD {fb:List UInt8→Nat} {nm:List UInt8} {f:Fl} (h:zaf nm=true) (hg:getF s.l nm=some f):zbc s fb nm=(.pointer (some ⟨fb f.name,0,none⟩),0):=by unfold zbc;rw [if_neg (by rw [h];simp),hg]
theorem zpl (h:Dk w b F s) (nm:List UInt8) (off n:Int) (hnm:nm.length≤maxLen) (h1 : -9223372036854775808≤off) (h2:off≤9223372036854775807) (h3 : -9223372036854775808≤n) (h4:n≤9223372036854775807) :
 Calls Tryz.prog 243 #[dpt b,strV nm, .int .i64 off, .int .i64 n] w fun e w'=>∃ v,e = .returned (.tuple #[v, .int .i64 ((readS s nm off n).2:Int)])∧Own w' w.heap.size 5 1 v (readS s nm off n).1.length (cel (readS s nm off n).1)∧Keeps w w':=by
 have H:=zH h;obtain ⟨mf,ml,fb,col,hb,hx⟩:=h.at_;have P:=zH (zjn h);have FD:=zH (zaY hb hx nm hnm);show Calls _ _ #[.pointer (some ⟨b,0,none⟩), .string (str nm),_,_] w _;have NIL:=zH (fun (V:World)=>Own.nil V w.heap.size 5 1);cases ho:s.off
 ·rw [ho] at P;by_cases hneg:off<0∨n<0
  ·have e:readS s nm off n=([],1):=by unfold readS;rw [ho];simp;omega
   rw [e];clear h hb hx e FD;rcases hneg with hn|hn
   ·go_enter Tryz.func243,Tryz.ntmps243;go_wp2_with (go_at_call 189;refine P.out.mono ?_;rintro e w' ⟨rfl,rfl⟩)
    exact bodyPost_ret (v:=.tuple #[.slice none 0 0, .int .i64 1]) (by simp [results,Tryz.results243,go_sem]) rfl ⟨_,rfl,NIL.out _,zab _⟩
   ·by_cases hoff:off<0
    ·go_enter Tryz.func243,Tryz.ntmps243;go_wp2_with (go_at_call 189;refine P.out.mono ?_;rintro e w' ⟨rfl,rfl⟩)
     exact bodyPost_ret (v:=.tuple #[.slice none 0 0, .int .i64 1]) (by simp [results,Tryz.results243,go_sem]) rfl ⟨_,rfl,NIL.out _,zab _⟩
    ·go_enter Tryz.func243,Tryz.ntmps243;go_wp2_with (go_at_call 189;refine P.out.mono ?_;rintro e w' ⟨rfl,rfl⟩)
     exact bodyPost_ret (v:=.tuple #[.slice none 0 0, .int .i64 1]) (by simp [results,Tryz.results243,go_sem]) rfl ⟨_,rfl,NIL.out _,zab _⟩
  ·obtain ⟨o,rfl⟩:=Int.eq_ofNat_of_zero_le (show 0≤off by omega);obtain ⟨m,rfl⟩:=Int.eq_ofNat_of_zero_le (show 0≤n by omega);have hn1:¬ (o:Int)<0:=(by omega);have hn2:¬ (m:Int)<0:=by omega
   cases hn:zaf nm
   ·have e:readS s nm o m=([],1):=by unfold readS;rw [ho,hn];simp
    rw [e];rw [zcq hn] at FD;clear h hb hx e hneg;go_enter Tryz.func243,Tryz.ntmps243;go_wp2_with (first
     | (go_at_call 189;refine P.out.mono ?_;rintro e w' ⟨rfl,rfl⟩)
     | (go_at_call 145;refine FD.out.mono ?_;rintro e w' ⟨rfl,rfl⟩))
    exact bodyPost_ret (v:=.tuple #[.slice none 0 0, .int .i64 1]) (by simp [results,Tryz.results243,go_sem]) rfl ⟨_,rfl,NIL.out _,zab _⟩
   ·cases hg:getF s.l nm with
    | none=>
     have e:readS s nm o m=([],3):=by unfold readS;rw [ho,hn,hg];simp
     rw [e];rw [zb1 hn hg] at FD;clear h hb hx e hneg;go_enter Tryz.func243,Tryz.ntmps243;go_wp2_with (first
      | (go_at_call 189;refine P.out.mono ?_;rintro e w' ⟨rfl,rfl⟩)
      | (go_at_call 145;refine FD.out.mono ?_;rintro e w' ⟨rfl,rfl⟩))
     exact bodyPost_ret (v:=.tuple #[.slice none 0 0, .int .i64 3]) (by simp [results,Tryz.results243,go_sem]) rfl ⟨_,rfl,NIL.out _,zab _⟩
    | some f=>
     have e:readS s nm o m=((f.now.drop o).take m,0):=by unfold readS;rw [ho,hn,hg];simp
     rw [e];rw [zbD hn hg] at FD;obtain ⟨v1,v2,q⟩:=hx.each f (zaR hg);have hsz:=(h.ok.files f (zaR hg)).size;obtain ⟨A,cap,rfl,hcap,hcm,-⟩:=q.own1.form;have c0:w.cell? ⟨fb f.name,0,none⟩=some (.slice A f.now.length cap):=q.box.cell 0 rfl;have hBs:Bs w A f.now:=q.own1.at_;have hA0:A=none→cap=0:=fun ea=>by
      have:=q.own1;rw [ea] at this;exact this.nil_len.2
     clear h hb hx e hneg q;generalize f.now=now at *;obtain ⟨p,hp⟩:∃ p,p=min o now.length:=(⟨_,rfl⟩);obtain ⟨r,hr⟩:∃ r,r=min m (now.length-p):=⟨_,rfl⟩
     have hmin1:∀ (ts:Array TypeId) (t:TypeId) (w:World),(Builtin.min_ ts t #[.int .i64 (o:Int), .int .i64 (now.length:Int)]).run Tryz.prog w = .ok (.int .i64 (p:Int)) w:=by
      intro ts t w;rw [run_min_int2];congr 2
      split<;>omega
     have hmin2:∀ (ts:Array TypeId) (t:TypeId) (w:World),(Builtin.min_ ts t #[.int .i64 (m:Int), .int .i64 ((now.length-p:Nat):Int)]).run Tryz.prog w = .ok (.int .i64 (r:Int)) w:=by
      intro ts t w;rw [run_min_int2];congr 2
      split<;>omega
     have hsl:=zfU (P:=Tryz.prog) 39 5 Tryz.underlying39 zhm A now.length cap p (by omega);have hB2:Bs w (dropA A cap p) ((now.drop o).take m):=by
      have h1:=(hBs.dropA rfl hcap (k:=p)).take r;have e1:(now.drop p).take r=(now.drop o).take m:=by
       by_cases ho2:o≤now.length
       ·have:p=o:=(by omega);rw [this,hr,this];by_cases hm2:m≤now.length-o
        ·rw [Nat.min_eq_left hm2]
        ·rw [Nat.min_eq_right (by omega),List.take_of_length_le (by rw [List.length_drop];exact Nat.le_refl _),List.take_of_length_le (by rw [List.length_drop];omega)]
       ·rw [List.drop_eq_nil_of_le (show now.length≤o by omega),List.drop_eq_nil_of_le (show now.length≤p by omega)];simp
      rwa [e1] at h1
     have hlen:r=((now.drop o).take m).length:=by rw [List.length_take,List.length_drop];omega
     have CL:=zH (fun (V:World) (k:Keeps w V)=>zbN (dropA A cap p) r (cap-p) ((now.drop o).take m) V (hB2.keep k) hlen (fun ea=>by
      unfold dropA at ea;split at ea
      ·omega
      ·cases A with
       | none=>have:=hA0 rfl;omega
       | some ad=>cases ea) (by omega))
     have hrc:(r:Int)≤((cap-p:Nat):Int):=(by omega);have hrn:(p:Int)≤(now.length:Int):=by omega
     clear hp hr hBs hA0 hB2 hlen hcm hsz;go_enter Tryz.func243,Tryz.ntmps243;go_wp2_with (first
      | (go_at_call 189;refine P.out.mono ?_;rintro e w' ⟨rfl,rfl⟩)
      | (go_at_call 145;refine FD.out.mono ?_;rintro e w' ⟨rfl,rfl⟩))
     go_region
     all_goals
      generalize dropA A cap p=D at *;generalize now.length-p=d1 at *;generalize cap-p=d2 at *;go_wp2_with (go_at_call 32;refine (CL.out _ (zD _)).mono ?_;rintro e w' ⟨v,rfl,hown,hk⟩)
      exact bodyPost_ret (v:=.tuple #[v, .int .i64 0]) (by simp [results,Tryz.results243,go_sem]) rfl ⟨_,rfl,hown.base_le (by simp),zK (zD _) hk⟩
 ·rw [ho] at P;have e:readS s nm off n=([],6):=by unfold readS;rw [ho];simp
  rw [e];clear h hb hx e;go_enter Tryz.func243,Tryz.ntmps243;go_wp2_with (go_at_call 189;refine P.out.mono ?_;rintro e w' ⟨rfl,rfl⟩)
  exact bodyPost_ret (v:=.tuple #[.slice none 0 0, .int .i64 6]) (by simp [results,Tryz.results243,go_sem,pwr]) rfl ⟨_,rfl,NIL.out _,zab _⟩
end
structure LOk (l:List Fl):Prop where
 rise:l.Pairwise fun f g=>f.name<g.name
 files:∀ f∈l,FlOk f
 used:usedL l≤1048576
theorem zcV (l:List Fl) (f:Fl):(putF l f).Perm (f::l):=by
 induction l with
 | nil=>exact .refl _
 | cons g l ih=>
  unfold putF;split
  ·exact (ih.cons g).trans (List.Perm.swap f g l)
  ·exact .refl _
theorem zdE {l:List Fl} {nm:List UInt8} (h:getF l nm=none):∀ f∈l,f.name≠nm:=by
 intro f hf e;have:=List.find?_eq_none.1 h f hf;simp [e] at this
theorem znl {l:List Fl} {f:Fl} (h:l.Pairwise fun f g=>f.name<g.name) (hn:∀ g∈l,g.name≠f.name):(putF l f).Pairwise fun f g=>f.name<g.name:=by
 induction l with
 | nil=>simp [putF]
 | cons g l ih=>
  rw [List.pairwise_cons] at h;unfold putF;by_cases e:g.name<f.name
  ·rw [if_pos e,List.pairwise_cons];refine ⟨fun x hx=>?_,ih h.2 (fun y hy=>hn y (List.mem_cons_of_mem _ hy))⟩;rcases List.mem_cons.1 ((zcV l f).mem_iff.1 hx) with rfl|hx'
   ·exact e
   ·exact h.1 x hx'
  ·rw [if_neg e,List.pairwise_cons];have hlt:f.name<g.name:=by
    have h1:=hn g List.mem_cons_self;have h2:f.name≤g.name:=List.not_lt.1 e;by_cases h3:f.name<g.name
    ·exact h3
    ·exact absurd (List.le_antisymm (List.not_lt.1 h3) h2) h1
   refine ⟨fun x hx=>?_,List.pairwise_cons.2 h⟩;rcases List.mem_cons.1 hx with rfl|hx'
   ·exact hlt
   ·exact List.lt_trans hlt (h.1 x hx')
theorem LOk.put {l:List Fl} (h:LOk l) {f:Fl} (hn:getF l f.name=none) (hf:FlOk f) (hu:usedL l+sect f.now.length≤1048576):LOk (putF l f):=
 ⟨znl h.rise (zdE hn),fun g hg=>by
  rcases List.mem_cons.1 ((zcV l f).mem_iff.1 hg) with rfl|hg'
  ·exact hf
  ·exact h.files g hg',by rw [zoX];exact hu⟩
theorem LOk.del {l:List Fl} (h:LOk l) (nm:List UInt8):LOk (delF l nm):=
 ⟨h.rise.filter _,fun g hg=>h.files g (List.mem_filter.1 hg).1,Nat.le_trans (zkm l nm) h.used⟩
theorem LOk.set {l:List Fl} (h:LOk l) {f f':Fl} (hg:getF l f'.name=some f) (hf:FlOk f') (hu:usedL l+sect f'.now.length≤1048576+sect f.now.length):LOk (setF l f'):=by
 refine ⟨?_,fun g hg'=>?_,?_⟩
 ·have hm:(setF l f').map (·.name)=l.map (·.name):=by
   unfold setF;rw [List.map_map];apply List.map_congr_left;intro g hg;simp only [Function.comp];split
   ·rename_i q;exact q.symm
   ·rfl
  have h1:(l.map (·.name)).Pairwise (· < ·):=List.pairwise_map.2 h.rise;rw [←hm] at h1;exact List.pairwise_map.1 h1
 ·obtain ⟨x,hx,he⟩:=List.mem_map.1 hg';by_cases q:x.name=f'.name
  ·rw [if_pos q] at he;rw [←he];exact hf
  ·rw [if_neg q] at he;rw [←he];exact h.files x hx
 ·have:=zoZ l f' f h.rise hg;omega
theorem FlOk.write {f:Fl} (h:FlOk f) {off:Nat} {b:List UInt8} (ho:off≤f.now.length) (hm:off+b.length≤16777216):FlOk (zaU f off b):=by
 have hl:(zaU f off b).now.length=max f.now.length (off+b.length):=zdO f.now off b ho;refine ⟨h.name,by have:=h.size;omega,by have:=h.lasts;show f.lasts.length≤_;omega,fun k hk=>?_⟩;rw [hl];have hk':(f.loose k||(decide (0<b.length)&&decide (off/64≤k)&&decide (k≤(off+b.length-1)/64)))=true:=hk;rw [Bool.or_eq_true] at hk';rcases hk' with h1|h1
 ·have:=h.loose k h1;have:=zhi (show f.now.length≤max f.now.length (off+b.length) by omega);omega
 ·simp only [Bool.and_eq_true,decide_eq_true_eq] at h1;unfold sect;omega
theorem FlOk.sync {f:Fl} (h:FlOk f):FlOk (syncF f):=⟨h.name,h.size,Nat.le_refl _,fun k hk=>by cases hk⟩
theorem FlOk.fresh {nm:List UInt8} (h:zaf nm=true):FlOk ⟨nm,[],[],fun _=>false⟩:=⟨h,by simp,by simp,fun k hk=>by cases hk⟩
section
variable {w w':World} {b:Nat} {F:Nat→Prop} {s:Ds}
theorem Dk.lok (h:Dk w b F s):LOk s.l:=⟨h.ok.rise,h.ok.files,h.used⟩
theorem Dk.make {F':Nat→Prop} {l':List Fl} (h:Dk w b F s) (hl:LOk l') (hat:∃ mf ml fb col,Box w' b 88 (dkC mf ml s.q s.armed s.off)∧DkX w' b F' l' mf ml fb col):Dk w' b F' {s with l:=l'}:=
 ⟨⟨hl.rise,hl.files,h.ok.q⟩,h.dead,h.armed,hl.used,hat⟩
theorem ziJ {l:List Fl} {fb:List UInt8→Nat} {nm:List UInt8} (hg:getF l nm=none):nm∉(l.map fun f=>(f.name,fb f.name)).map Prod.fst:=by
 rw [List.map_map];intro hm;obtain ⟨f,hf,he⟩:=List.mem_map.1 hm;exact zdE hg f hf he
theorem DkX.put {l:List Fl} {mf ml:Nat} {fb:List UInt8→Nat} {col:Nat→Option (List UInt8)} (h:DkX w b F l mf ml fb col) {nm:List UInt8} (hg:getF l nm=none) {k:Nat} (hk:w.heap.size≤k) (hk2:k<w'.heap.size)
 (hM:zd6 w' mf (putM (l.map fun f=>(f.name,fb f.name)) nm k)) (hb:Box w' k 83 #[.slice none 0 0, .slice none 0 0]) (hO:Only w w' (fun c=>c=mf)) :
 DkX w' b (fun i=>F i∨i=k) (putF l ⟨nm,[],[],fun _=>false⟩) mf ml (fun n=>if n=nm then k else fb n) (fun i=>if i=k then some nm else col i):=by
 have hne:∀ i,F i→i≠k:=fun i hi e=>by have:=h.lt i hi;omega
 have hs:∀ i,F i→i≠mf→w'.heap[i]? = w.heap[i]?:=fun i hi hne=>hO.block i (h.lt i hi) hne
 have hmem:∀ {g:Fl},g∈putF l ⟨nm,[],[],fun _=>false⟩→g=⟨nm,[],[],fun _=>false⟩∨g∈l:=fun {g} hgm=>List.mem_cons.1 ((zcV l _).mem_iff.1 hgm)
 obtain ⟨l2,h2,h3⟩:=h.loose;refine ⟨fun i hi=>?_,⟨.inl h.nb.1,by rw [if_neg (hne b h.nb.1)];exact h.nb.2⟩,⟨.inl h.nf.1,by rw [if_neg (hne mf h.nf.1)];exact h.nf.2⟩,⟨.inl h.nl.1,by rw [if_neg (hne ml h.nl.1)];exact h.nl.2⟩,h.ne,?_,⟨l2,h2.same (hs ml h.nl.1 (fun e=>h.ne e.symm)),fun p=>?_⟩,fun g hg'=>?_⟩
 ·rcases hi with hi|rfl
  ·exact Nat.lt_of_lt_of_le (h.lt i hi) hO.size
  ·exact hk2
 ·refine hM.perm ?_;unfold putM;rw [zbZ (ziJ hg)];have h4:=(((zcV l ⟨nm,[],[],fun _=>false⟩).map fun f=>(f.name,if f.name=nm then k else fb f.name)));refine List.Perm.trans ?_ h4.symm;rw [List.map_cons];have:(l.map fun f=>(f.name,if f.name=nm then k else fb f.name))=l.map fun f=>(f.name,fb f.name):=by
   apply List.map_congr_left;intro f hf;rw [if_neg (zdE hg f hf)]
  rw [this,if_pos rfl]
 ·rw [h3];constructor
  ·rintro ⟨g,hg',q1,q2⟩;exact ⟨g,(zcV l _).mem_iff.2 (List.mem_cons_of_mem _ hg'),q1,q2⟩
  ·rintro ⟨g,hg',q1,q2⟩;rcases hmem hg' with rfl|hg2
   ·cases q2
   ·exact ⟨g,hg2,q1,q2⟩
 ·rcases hmem hg' with rfl|hg2
  ·refine ⟨.slice none 0 0, .slice none 0 0,?_⟩;simp only [if_true];exact ⟨hb,Own.nil _ _ _ _,Own.nil _ _ _ _,⟨.inr rfl,by rw [if_pos rfl]⟩,fun g hgg=>(by cases hgg),fun g hgg=>(by cases hgg), .inl rfl⟩
  ·obtain ⟨v1,v2,q⟩:=h.each g hg2;rw [if_neg (zdE hg g hg2)];refine ⟨v1,v2,(q.same fun i hi=>hs i hi.1 (fun e=>by have:=hi.2;rw [e,h.nf.2] at this;cases this)).wide fun i hi=>⟨.inl hi.1,by rw [if_neg (hne i hi.1)];exact hi.2⟩⟩
theorem zlX (h:Dk w b F s) (nm:List UInt8) (hnm:nm.length≤maxLen) :
 Calls Tryz.prog 108 #[dpt b,strV nm] w fun e w'=>e = .returned (.int .i64 ((zaw s nm).2:Int))∧∃ F',Dk w' b F' (zaw s nm).1∧Turns w w' F F':=by
 show Calls _ _ #[.pointer (some ⟨b,0,none⟩), .string (str nm)] w _;have BG:=zH (zer h);have TB:=zH (fun (V:World) (hO:Only w V (fun c=>c=b))=>h.turnsB hO);have GL:=zH (zcp h).1;cases ho:(goneS s).off
 ·rw [ho] at BG;cases hn:zaf nm
  ·have e:zaw s nm=(goneS s,1):=by unfold zaw;rw [ho,hn];simp
   rw [e];clear e;go_enter Tryz.func108,Tryz.ntmps108;go_wp2_with (first
    | (go_at_call 144;refine BG.out.mono ?_;rintro e w1 ⟨rfl,hD,hO⟩)
    | (go_at_call 145;obtain ⟨mf,ml,fb,col,hb,hx⟩:=hD.at_;refine (zaY hb hx nm hnm).mono ?_;rw [zcq hn];rintro e w' ⟨rfl,rfl⟩))
   go_ret;exact ⟨rfl,F,hD,TB.out _ hO⟩
  ·cases hg:getF s.l nm with
   | some f=>
    have e:zaw s nm=(goneS s,4):=by unfold zaw;rw [ho,hn,hg];simp
    rw [e];have hg2:getF (goneS s).l nm=some f:=by rw [GL.out];exact hg
    clear e;go_enter Tryz.func108,Tryz.ntmps108;go_wp2_with (first
     | (go_at_call 144;refine BG.out.mono ?_;rintro e w1 ⟨rfl,hD,hO⟩)
     | (go_at_call 145;obtain ⟨mf,ml,fb,col,hb,hx⟩:=hD.at_;refine (zaY hb hx nm hnm).mono ?_;rw [zbD hn hg2];rintro e w' ⟨rfl,rfl⟩))
    go_ret;exact ⟨rfl,F,hD,TB.out _ hO⟩
   | none=>
    have e:zaw s nm=({goneS s with l:=putF s.l ⟨nm,[],[],fun _=>false⟩},0):=by unfold zaw;rw [ho,hn,hg];simp
    rw [e];have hg2:getF (goneS s).l nm=none:=by rw [GL.out];exact hg
    rw [←GL.out];clear e;go_enter Tryz.func108,Tryz.ntmps108;go_wp2_with (first
     | (go_at_call 144;refine BG.out.mono ?_;rintro e w1 ⟨rfl,hD,hO⟩)
     | (go_at_call 145;obtain ⟨mf,ml,fb,col,hb,hx⟩:=hD.at_;refine (zaY hb hx nm hnm).mono ?_;rw [zb1 hn hg2];rintro e w' ⟨rfl,rfl⟩;have c0:=hb.cell 0 rfl;have HM:=hx.files)
     | (at_mapUpdate;refine zfD _ rfl _ _ _ rfl zco mf _ rfl (HM.keep (zA _ _)) nm rfl w1.heap.size rfl ?_;intro w2 hM2 hO2))
    have k1:=zA w1 (.cells #[.slice none 0 0, .slice none 0 0] 83);have hOO:Only w1 w2 (fun c=>c=mf):=((Only.of_keeps k1).weak (fun _ e=>e.elim)).trans hO2 (fun i hi=>.inl hi);have hmf:=hx.lt mf hx.nf.1;have bk:Box w2 w1.heap.size 83 #[.slice none 0 0, .slice none 0 0]:=(hO2.block _ (by simp) (by omega)).trans (Box.new w1 83 _);have X2:=hx.put hg2 (Nat.le_refl _) (by have:=hO2.size;simp at this;omega) hM2 bk hOO;have B2:Box w2 b 88 (dkC mf ml (goneS s).q (goneS s).armed (goneS s).off):=(hOO.block b hb.lt (HM.ne hb)).trans hb;have D2:=hD.make (hD.lok.put (f:=⟨nm,[],[],fun _=>false⟩) hg2 (FlOk.fresh hn) (by show usedL (goneS s).l+sect 0≤_;have:=hD.used;unfold sect;omega)) ⟨mf,ml,_,_,B2,X2⟩;have T2:=(TB.out _ hO).trans (T:=F) (U:=fun i=>F i∨i=w1.heap.size) (Turns.mk (hOO.weak fun i hi=>by rw [hi];exact hx.nf.1) fun i hi=>by
     rcases hi with hi|hi
     ·exact .inl hi
     ·exact .inr (by omega))
    go_ret;exact ⟨rfl,_,D2,T2⟩
 ·rw [ho] at BG;have e:zaw s nm=(goneS s,6):=by unfold zaw;rw [ho];simp
  rw [e];clear e;go_enter Tryz.func108,Tryz.ntmps108;go_wp2_with (go_at_call 144;refine BG.out.mono ?_;rintro e w1 ⟨rfl,hD,hO⟩)
  go_ret;exact ⟨rfl,F,hD,TB.out _ hO⟩
end
section
variable {w w':World} {b:Nat} {F:Nat→Prop} {s:Ds}
theorem Dk.keep (h:Dk w b F s) (k:Keeps w w'):Dk w' b F s:=h.same (fun i hi=>k.block i (h.lt i hi)) k.size
theorem DkX.relist {l l':List Fl} {mf ml:Nat} {fb:List UInt8→Nat} {col:Nat→Option (List UInt8)} (h:DkX w b F l mf ml fb col) (hsub:∀ g∈l',∃ f∈l,f.name=g.name∧f.now=g.now∧f.lasts=g.lasts)
 (hM:zd6 w' mf (l'.map fun f=>(f.name,fb f.name))) (hL:∃ l2,zaW w' ml l2∧∀ p,p∈l2.map Prod.fst↔zbo l' p) (hO:Only w w' (fun c=>c=mf∨c=ml∨¬ F c)):DkX w' b F l' mf ml fb col:=by
 refine ⟨fun i hi=>Nat.lt_of_lt_of_le (h.lt i hi) hO.size,h.nb,h.nf,h.nl,h.ne,hM,hL,fun g hg=>?_⟩;obtain ⟨f,hf,e1,e2,e3⟩:=hsub g hg;obtain ⟨v1,v2,q⟩:=h.each f hf;rw [e1,e2,e3] at q;exact ⟨v1,v2,q.same fun i hi=>hO.block i (h.lt i hi.1) (fun e=>by
  rcases e with e|e|e
  ·have:=hi.2;rw [e,h.nf.2] at this;cases this
  ·have:=hi.2;rw [e,h.nl.2] at this;cases this
  ·exact e hi.1)⟩
def NameJ (bn:Nat) (nm:List UInt8) (_:List Pl) (T:Nat→Prop) (W:World):Prop:=T=(fun c=>c=bn)∧Box W bn 9 #[.string (str nm)]
theorem ze5 (a c:List UInt8):((str a).toList == (str c).toList)=decide (a=c):=by
 rw [zaL,zaL];by_cases h:a=c<;>simp [h]
theorem zkv (bn:Nat) (nm:List UInt8) (x:Pl) (W:World) (hb:Box W bn 9 #[.string (str nm)]) :
 Calls Tryz.prog 169 (#[.agg #[.string (str x.1), .int .i64 (x.2:Int)]] ++ #[.pointer (some ⟨bn,0,none⟩)]) W fun e W'=>e = .returned (.bool (decide (x.1=nm)))∧Keeps W W':=by
 have k:=zA W (.cells #[.string (str x.1), .int .i64 (x.2:Int)] 49);have c0:=(hb.keep k).cell 0 rfl;have hbl:=hb.lt;show Calls _ _ #[.agg #[.string (str x.1), .int .i64 (x.2:Int)], .pointer (some ⟨bn,0,none⟩)] W _;have he:=ze5 x.1 nm;have HE:=zH he;clear hb;go_enter Tryz.func169,Tryz.ntmps169;go_wp2;go_ret;exact ⟨by first|rfl|(rw [HE.out])|(congr 2;exact HE.out),k⟩
theorem znm (bn:Nat) (nm:List UInt8) (x:Pl) (W:World) (hb:Box W bn 9 #[.string (str nm)]) :
 Calls Tryz.prog 225 (#[.agg #[.string (str x.1), .int .i64 (x.2:Int)]] ++ #[.pointer (some ⟨bn,0,none⟩)]) W fun e W'=>e = .returned (.bool (decide (x.1=nm)))∧Keeps W W':=by
 have k:=zA W (.cells #[.string (str x.1), .int .i64 (x.2:Int)] 49);have c0:=(hb.keep k).cell 0 rfl;have hbl:=hb.lt;show Calls _ _ #[.agg #[.string (str x.1), .int .i64 (x.2:Int)], .pointer (some ⟨bn,0,none⟩)] W _;have he:=ze5 x.1 nm;have HE:=zH he;clear hb;go_enter Tryz.func225,Tryz.ntmps225;go_wp2;go_ret;exact ⟨by first|rfl|(rw [HE.out])|(congr 2;exact HE.out),k⟩
theorem zfJ {mf ml q armed:Nat} {off:Bool} (h:Box w b 88 (dkC mf ml q armed off)) {l2:List (Pl×Unit)} (hm:zaW w ml l2) (g:FuncId) (lb:Array Value) (eg:∀ args w,(callFunc g args).run Tryz.prog w = .ok (.enter g args) w)
 (pq:Pl→Bool) (T:Nat→Prop) (hT:∀ c,T c→c<w.heap.size∧c≠b∧c≠ml)
 (hq:∀ (x:Pl) W,(∀ c,T c→W.heap[c]? = w.heap[c]?)→Calls Tryz.prog g (#[.agg #[.string (str x.1), .int .i64 (x.2:Int)]]++lb) W fun e W'=>e = .returned (.bool (pq x))∧Keeps W W') :
 Calls Tryz.prog 168 #[.pointer (some ⟨b,0,none⟩), .func (.func g) #[] lb] w fun e w'=>e = .returned (.tuple #[])∧zaW w' ml (l2.filter fun p=>!pq p.1)∧Only w w' (fun c=>c=ml∨T c):=by
 refine (zlV h hm g lb eg pq (fun _ T' W=>T'=T∧(∀ c,T c→W.heap[c]? = w.heap[c]?)∧w.heap.size≤W.heap.size) T hT ⟨rfl,fun _ _=>rfl,Nat.le_refl _⟩ ?_ ?_ ?_).mono ?_
 ·rintro pre T' W W' ⟨rfl,h1,h2⟩ hs hsz;exact ⟨rfl,fun c hc=>(hs c hc).trans (h1 c hc),Nat.le_trans h2 hsz⟩
 ·rintro pre T' W ⟨rfl,h1,h2⟩ c hc;exact Nat.lt_of_lt_of_le (hT c hc).1 h2
 ·rintro pre T' x W ⟨rfl,h1,h2⟩ -;refine (hq x W h1).mono ?_;rintro e W' ⟨rfl,k⟩;exact ⟨rfl,T',⟨rfl,fun c hc=>(k.block c (Nat.lt_of_lt_of_le (hT c hc).1 h2)).trans (h1 c hc),Nat.le_trans h2 k.size⟩,Turns.of_keeps k⟩
 ·rintro e W' ⟨rfl,ss,T',-,⟨rfl,h1,h2⟩,hM,hO,-⟩;exact ⟨rfl,hM,hO⟩
theorem zhn {mf ml q armed:Nat} {off:Bool} (h:Box w b 88 (dkC mf ml q armed off)) {l2:List (Pl×Unit)} (hm:zaW w ml l2) (g:FuncId) (hg:g=169) (bn:Nat) (nm:List UInt8) (hb:Box w bn 9 #[.string (str nm)]) (hne:bn≠b) :
 Calls Tryz.prog 168 #[.pointer (some ⟨b,0,none⟩), .func (.func g) #[] #[.pointer (some ⟨bn,0,none⟩)]] w fun e w'=>e = .returned (.tuple #[])∧zaW w' ml (l2.filter fun p=>!decide (p.1.1=nm))∧Only w w' (fun c=>c=ml∨c=bn):=by
 have hne2:bn≠ml:=hm.ne hb;refine zfJ h hm g _ ?_ (fun p=>decide (p.1=nm)) (fun c=>c=bn) (fun c hc=>by rw [hc];exact ⟨hb.lt,hne,hne2⟩) ?_
 ·subst hg;exact enters_of Tryz.func169 (by kernel_rfl) rfl
 ·intro x W hW;subst hg;exact zkv bn nm x W ((hW bn rfl).trans hb)
theorem zho {mf ml q armed:Nat} {off:Bool} (h:Box w b 88 (dkC mf ml q armed off)) {l2:List (Pl×Unit)} (hm:zaW w ml l2) (g:FuncId) (hg:g=225) (bn:Nat) (nm:List UInt8) (hb:Box w bn 9 #[.string (str nm)]) (hne:bn≠b) :
 Calls Tryz.prog 168 #[.pointer (some ⟨b,0,none⟩), .func (.func g) #[] #[.pointer (some ⟨bn,0,none⟩)]] w fun e w'=>e = .returned (.tuple #[])∧zaW w' ml (l2.filter fun p=>!decide (p.1.1=nm))∧Only w w' (fun c=>c=ml∨c=bn):=by
 have hne2:bn≠ml:=hm.ne hb;refine zfJ h hm g _ ?_ (fun p=>decide (p.1=nm)) (fun c=>c=bn) (fun c hc=>by rw [hc];exact ⟨hb.lt,hne,hne2⟩) ?_
 ·subst hg;exact enters_of Tryz.func225 (by kernel_rfl) rfl
 ·intro x W hW;subst hg;exact znm bn nm x W ((hW bn rfl).trans hb)
theorem zlY (h:Dk w b F s) (nm:List UInt8) (hnm:nm.length≤maxLen) :
 Calls Tryz.prog 124 #[dpt b,strV nm] w fun e w'=>e = .returned (.int .i64 ((zaE s nm).2:Int))∧∃ F',Dk w' b F' (zaE s nm).1∧Turns w w' F F':=by
 show Calls _ _ #[.pointer (some ⟨b,0,none⟩), .string (str nm)] w _;have k0:=zA w (.cells #[.string (str nm)] 9);have h0:=h.keep k0;have hFl:=h.lt;have bx:=Box.new w 9 #[.string (str nm)];have BG:=zH (zer h0);have TB:=zH (fun (V:World) (hO:Only (w.alloc (.cells #[.string (str nm)] 9)) V (fun c=>c=b))=>(Turns.of_keeps (S:=F) k0).trans (h0.turnsB hO));have GL:=zH (zcp h).1;have hbw:b<w.heap.size:=by
  obtain ⟨mf,ml,fb,col,hb,hx⟩:=h.at_;exact hb.lt
 have NB:=zH (fun (V:World) (hO:Only (w.alloc (.cells #[.string (str nm)] 9)) V (fun c=>c=b))=>show Box V w.heap.size 9 #[.string (str nm)] from (hO.block _ bx.lt (by omega)).trans bx);cases ho:(goneS s).off
 ·rw [ho] at BG;cases hn:zaf nm
  ·have e:zaE s nm=(goneS s,1):=by unfold zaE;rw [ho,hn];simp
   rw [e];clear e h h0 bx;go_enter Tryz.func124,Tryz.ntmps124;go_wp2_with (first
    | (go_at_call 144;refine BG.out.mono ?_;rintro e w1 ⟨rfl,hD,hO⟩;have n0:=(NB.out _ hO).cell 0 rfl)
    | (go_at_call 145;obtain ⟨mf,ml,fb,col,hb,hx⟩:=hD.at_;refine (zaY hb hx nm hnm).mono ?_;rw [zcq hn];rintro e w' ⟨rfl,rfl⟩))
   go_ret;exact ⟨rfl,F,hD,TB.out _ hO⟩
  ·cases hg:getF s.l nm with
   | none=>
    have e:zaE s nm=(goneS s,3):=by unfold zaE;rw [ho,hn,hg];simp
    rw [e];have hg2:getF (goneS s).l nm=none:=by rw [GL.out];exact hg
    clear e h h0 bx;go_enter Tryz.func124,Tryz.ntmps124;go_wp2_with (first
     | (go_at_call 144;refine BG.out.mono ?_;rintro e w1 ⟨rfl,hD,hO⟩;have n0:=(NB.out _ hO).cell 0 rfl)
     | (go_at_call 145;obtain ⟨mf,ml,fb,col,hb,hx⟩:=hD.at_;refine (zaY hb hx nm hnm).mono ?_;rw [zb1 hn hg2];rintro e w' ⟨rfl,rfl⟩))
    go_ret;exact ⟨rfl,F,hD,TB.out _ hO⟩
   | some f=>
    have e:zaE s nm=({goneS s with l:=delF s.l nm},0):=by unfold zaE;rw [ho,hn,hg];simp
    rw [e];have hg2:getF (goneS s).l nm=some f:=by rw [GL.out];exact hg
    rw [←GL.out];clear e h h0 bx;go_enter Tryz.func124,Tryz.ntmps124;go_wp2_with (first
     | (go_at_call 144;refine BG.out.mono ?_;rintro e w1 ⟨rfl,hD,hO⟩;have n0:=(NB.out _ hO).cell 0 rfl)
     | (go_at_call 145;obtain ⟨mf,ml,fb,col,hb,hx⟩:=hD.at_;refine (zaY hb hx nm hnm).mono ?_;rw [zbD hn hg2];rintro e w' ⟨rfl,rfl⟩))
    have c0:w1.cell? ⟨b,0,none⟩=some (.map (some mf)):=hb.cell 0 rfl;have HB:=zH hb;have HX:=zH hx;have HO:=zH hO;have HD:=zH hD;have hlb:=hb.lt;have hls:w.heap.size<w1.heap.size:=(NB.out _ hO).lt;clear hb hx hD
    go_region_law ((refine zng _ rfl (.tmp 25) (.tmp 26) rfl zco mf _ (by simp [Act.eval,Act.put]) (HX.out.files.keep (zD _)) nm (by simp [Act.eval,Act.put,strW]) ?_);intro w2 hM2 hO2)
    all_goals
     have O2:Only w1 w2 (fun c=>c=mf):=((Only.of_keeps (zD w1)).weak (fun _ e=>e.elim)).trans hO2 (fun i hi=>.inl hi);obtain ⟨l2,hm2,hmem⟩:=HX.out.loose;have B2:Box w2 b 88 (dkC mf ml (goneS s).q (goneS s).armed (goneS s).off):=(O2.block b HB.out.lt (HX.out.files.ne HB.out)).trans HB.out;have N2:Box w2 w.heap.size 9 #[.string (str nm)]:=(O2.block _ hls (HX.out.files.ne (NB.out _ HO.out))).trans (NB.out _ HO.out);have M2:zaW w2 ml l2:=hm2.same (O2.block ml hm2.lt (fun e=>HX.out.ne e.symm));have FG:=zH (zhn B2 M2 169 rfl w.heap.size nm N2 (by omega));have FIN:=zH (show ∀ w3,zaW w3 ml (l2.filter fun p=>!decide (p.1.1=nm))→Only w2 w3 (fun c=>c=ml∨c=w.heap.size)→Dk w3 b F {goneS s with l:=delF (goneS s).l nm}∧Turns w w3 F F from fun w3 hL3 hO3=>by
      have O3:Only w1 w3 (fun c=>c=mf∨c=ml∨c=w.heap.size):=(O2.weak (fun i hi=>.inl hi)).trans hO3 (fun i hi=>.inl (.inr hi));have nF:¬ F w.heap.size:=fun e=>by have:=hFl _ e;omega
      have hM3:zd6 w3 mf ((delF (goneS s).l nm).map fun f=>(f.name,fb f.name)):=by
       have h3:zd6 w3 mf (delM ((goneS s).l.map fun f=>(f.name,fb f.name)) nm):=hM2.same (hO3.block mf hM2.lt (fun e=>by
        rcases e with e|e
        ·exact HX.out.ne e
        ·exact nF (by rw [←e];exact HX.out.nf.1)))
       have e3:delM ((goneS s).l.map fun f=>(f.name,fb f.name)) nm=(delF (goneS s).l nm).map fun f=>(f.name,fb f.name):=by
        unfold delM delF;rw [List.filter_map];rfl
       rw [e3] at h3;exact h3
      have X3:=HX.out.relist (l':=delF (goneS s).l nm) (fun g hg=>⟨g,(List.mem_filter.1 hg).1,rfl,rfl,rfl⟩) hM3 ⟨_,hL3,fun p=>by
       have h4:=hmem p;constructor
       ·intro hp;obtain ⟨q,hq,rfl⟩:=List.mem_map.1 hp;obtain ⟨q1,q2⟩:=List.mem_filter.1 hq;obtain ⟨g,hg,g1,g2⟩:=h4.1 (List.mem_map.2 ⟨q,q1,rfl⟩);refine ⟨g,List.mem_filter.2 ⟨hg,?_⟩,g1,g2⟩;simp only [Bool.not_eq_true',decide_eq_false_iff_not] at q2;rw [g1];exact decide_eq_true q2
       ·rintro ⟨g,hg,g1,g2⟩;obtain ⟨hg1,hg3⟩:=List.mem_filter.1 hg;obtain ⟨q,hq,rfl⟩:=List.mem_map.1 (h4.2 ⟨g,hg1,g1,g2⟩);refine List.mem_map.2 ⟨q,List.mem_filter.2 ⟨hq,?_⟩,rfl⟩;have:=of_decide_eq_true hg3;rw [g1] at this;simp [this]⟩ (O3.weak (fun i hi=>by
       rcases hi with hi|hi|hi
       ·exact .inl hi
       ·exact .inr (.inl hi)
       ·exact .inr (.inr (by rw [hi];exact nF))))
      refine ⟨HD.out.make (HD.out.lok.del nm) ⟨mf,ml,fb,col,(O3.block b HB.out.lt (fun e=>?_)).trans HB.out,X3⟩,⟨(TB.out _ HO.out).only.trans O3 (fun i hi=>?_),fun _ hi=>.inl hi⟩⟩
      ·rcases e with e|e|e
       ·exact HX.out.files.ne HB.out e
       ·exact hm2.ne HB.out e
       ·omega
      ·rcases hi with hi|hi|hi
       ·exact .inl (by rw [hi];exact HX.out.nf.1)
       ·exact .inl (by rw [hi];exact HX.out.nl.1)
       ·exact .inr (by omega))
     clear hM2 hO2 O2 hm2 hmem B2 N2 M2 c0 n0;go_wp2_with (go_at_call 168;refine FG.out.mono ?_;rintro e w3 ⟨rfl,hL3,hO3⟩)
     have FF:=FIN.out w3 hL3 hO3;go_ret;exact ⟨rfl,F,FF.1,FF.2⟩
 ·rw [ho] at BG;have e:zaE s nm=(goneS s,6):=by unfold zaE;rw [ho];simp
  rw [e];clear e h h0 bx;go_enter Tryz.func124,Tryz.ntmps124;go_wp2_with (go_at_call 144;refine BG.out.mono ?_;rintro e w1 ⟨rfl,hD,hO⟩)
  go_ret;exact ⟨rfl,F,hD,TB.out _ hO⟩
end
theorem znn {l:List Fl} (hn:(l.map (·.name)).Nodup) {f g:Fl} (hf:f∈l) (hg:g∈l) (he:g.name=f.name):g=f:=by
 have e1:=zb0 hn hg;have e2:=zb0 hn hf;rw [he,e2] at e1;exact (Option.some.inj e1).symm
theorem zfK {l:List Fl} (hn:(l.map (·.name)).Nodup) {f:Fl} (hf:f∈l) {p:List UInt8×Nat} (hp:p.1=f.name):zbo l p↔f.loose p.2=true:=by
 constructor
 ·rintro ⟨g,hg,g1,g2⟩
  rwa [znn hn hf hg (g1.trans hp)] at g2
 ·intro h;exact ⟨f,hf,hp.symm,h⟩
theorem ze6 {l:List Fl} (hn:(l.map (·.name)).Nodup) {f f':Fl} (hf:f∈l) (he:f'.name=f.name) (p:List UInt8×Nat):zbo (setF l f') p↔(p.1≠f.name∧zbo l p)∨(p.1=f.name∧f'.loose p.2=true):=by
 constructor
 ·rintro ⟨g,hg,h1,h2⟩;rcases zeo hg with ⟨rfl,-⟩|⟨hg',hne⟩
  ·exact .inr ⟨by rw [←h1,he],h2⟩
  ·exact .inl ⟨fun e=>hne (by rw [h1,e,he]),g,hg',h1,h2⟩
 ·rintro (⟨h1,g,hg,g1,g2⟩|⟨h1,h2⟩)
  ·exact ⟨g,zep hg (fun e=>h1 (by rw [←g1,e,he])),g1,g2⟩
  ·exact ⟨f',ze4 hf he.symm,by rw [he,h1],h2⟩
theorem zno {l2:List (Pl×Unit)} (q:Pl→Bool) (p:Pl):p∈(l2.filter fun x=>q x.1).map Prod.fst↔p∈l2.map Prod.fst∧q p=true:=by
 constructor
 ·intro h;obtain ⟨x,hx,rfl⟩:=List.mem_map.1 h;obtain ⟨h1,h2⟩:=List.mem_filter.1 hx;exact ⟨List.mem_map.2 ⟨x,h1,rfl⟩,h2⟩
 ·rintro ⟨h1,h2⟩;obtain ⟨x,hx,rfl⟩:=List.mem_map.1 h1;exact List.mem_map.2 ⟨x,List.mem_filter.2 ⟨hx,h2⟩,rfl⟩
section
variable {w w':World} {b:Nat} {F:Nat→Prop} {s:Ds}
theorem DkX.remark {l:List Fl} {f1 f2:Fl} {mf ml:Nat} {fb:List UInt8→Nat} {col:Nat→Option (List UInt8)} (h:DkX w b F (setF l f1) mf ml fb col) (e1:f2.name=f1.name) (e2:f2.now=f1.now) (e3:f2.lasts=f1.lasts)
 (hL:∃ l3,zaW w' ml l3∧∀ p,p∈l3.map Prod.fst↔zbo (setF l f2) p) (hO:Only w w' (fun c=>c=ml∨¬ F c)):DkX w' b F (setF l f2) mf ml fb col:=by
 refine h.relist (fun g hg=>?_) ?_ hL (hO.weak fun i hi=>by
  rcases hi with hi|hi
  ·exact .inr (.inl hi)
  ·exact .inr (.inr hi))
 ·rcases zeo hg with ⟨rfl,f,hf,hfn⟩|⟨hg',hne⟩
  ·exact ⟨f1,ze4 hf (by rw [hfn,e1]),e1.symm,e2.symm,e3.symm⟩
  ·exact ⟨g,zep hg' (by rw [←e1];exact hne),rfl,rfl,rfl⟩
 ·rw [zh2 (setF l f1) (setF l f2) fb (by rw [zeq,zeq])];exact h.files.same (hO.block mf h.files.lt (fun e=>by
   rcases e with e|e
   ·exact h.ne e
   ·exact e h.nf.1))
theorem zpm (h:Dk w b F s) (nm:List UInt8) (hnm:nm.length≤maxLen) :
 Calls Tryz.prog 202 #[dpt b,strV nm] w fun e w'=>e = .returned (.int .i64 ((syncS s nm).2:Int))∧∃ F',Dk w' b F' (syncS s nm).1∧Turns w w' F F':=by
 show Calls _ _ #[.pointer (some ⟨b,0,none⟩), .string (str nm)] w _;obtain ⟨i0,hi,hz0,hz1,hz2⟩:=info_parts zhY;have k0:=zA w (.cells #[.string (str nm)] 9);have h0:=h.keep k0;have hFl:=h.lt;have bx:=Box.new w 9 #[.string (str nm)];have BG:=zH (zer h0);have TB:=zH (fun (V:World) (hO:Only (w.alloc (.cells #[.string (str nm)] 9)) V (fun c=>c=b))=>(Turns.of_keeps (S:=F) k0).trans (h0.turnsB hO));have GL:=zH (zcp h).1;have hbw:b<w.heap.size:=by
  obtain ⟨mf,ml,fb,col,hb,hx⟩:=h.at_;exact hb.lt
 have NB:=zH (fun (V:World) (hO:Only (w.alloc (.cells #[.string (str nm)] 9)) V (fun c=>c=b))=>show Box V w.heap.size 9 #[.string (str nm)] from (hO.block _ bx.lt (by omega)).trans bx);cases ho:(goneS s).off
 ·rw [ho] at BG;cases hn:zaf nm
  ·have e:syncS s nm=(goneS s,1):=by unfold syncS;rw [ho,hn];simp
   rw [e];clear e h h0 bx;go_enter Tryz.func202,Tryz.ntmps202;go_wp2_with (first
    | (go_at_call 144;refine BG.out.mono ?_;rintro e w1 ⟨rfl,hD,hO⟩;have n0:=(NB.out _ hO).cell 0 rfl)
    | (go_at_call 145;obtain ⟨mf,ml,fb,col,hb,hx⟩:=hD.at_;refine (zaY hb hx nm hnm).mono ?_;rw [zcq hn];rintro e w' ⟨rfl,rfl⟩))
   go_ret;exact ⟨rfl,F,hD,TB.out _ hO⟩
  ·cases hg:getF s.l nm with
   | none=>
    have e:syncS s nm=(goneS s,3):=by unfold syncS;rw [ho,hn,hg];simp
    rw [e];have hg2:getF (goneS s).l nm=none:=by rw [GL.out];exact hg
    clear e h h0 bx;go_enter Tryz.func202,Tryz.ntmps202;go_wp2_with (first
     | (go_at_call 144;refine BG.out.mono ?_;rintro e w1 ⟨rfl,hD,hO⟩;have n0:=(NB.out _ hO).cell 0 rfl)
     | (go_at_call 145;obtain ⟨mf,ml,fb,col,hb,hx⟩:=hD.at_;refine (zaY hb hx nm hnm).mono ?_;rw [zb1 hn hg2];rintro e w' ⟨rfl,rfl⟩))
    go_ret;exact ⟨rfl,F,hD,TB.out _ hO⟩
   | some f=>
    have e:syncS s nm=({goneS s with l:=setF s.l (syncF f)},0):=by unfold syncS;rw [ho,hn,hg];simp
    rw [e];have hg2:getF (goneS s).l nm=some f:=by rw [GL.out];exact hg
    rw [←GL.out];have HFN:=zH (zbq hg);clear e h h0 bx;go_enter Tryz.func202,Tryz.ntmps202;go_wp2_with (first
     | (go_at_call 144;refine BG.out.mono ?_;rintro e w1 ⟨rfl,hD,hO⟩;have n0:=(NB.out _ hO).cell 0 rfl)
     | (go_at_call 145;obtain ⟨mf,ml,fb,col,hb,hx⟩:=hD.at_;refine (zaY hb hx nm hnm).mono ?_;rw [zbD hn hg2];rintro e w' ⟨rfl,rfl⟩))
    have hfm:=zaR hg2;have hfo:=hD.ok.files f hfm;obtain ⟨v1,v2,hA⟩:=hx.each f hfm;obtain ⟨A,cap,rfl,hcap,hcm,-⟩:=hA.own1.form;obtain ⟨A2,cap2,rfl,hcap2,hcm2,-⟩:=hA.own2.form;have c0:w1.cell? ⟨fb f.name,0,none⟩=some (.slice A f.now.length cap):=hA.box.cell 0 rfl;have c1:w1.cell? ⟨fb f.name,1,none⟩=some (.slice A2 f.lasts.length cap2):=hA.box.cell 1 rfl;have f1:=hA.box.frozen 1;have hkl:=hA.lt;have CUT:=zH (hA.own2.cut1 (Nat.zero_le f.lasts.length));have bxn:(Value.slice A2 0 cap2).ownBlock≠some (fb f.name):=by rw [zb6 (n:=0) (m:=f.lasts.length)];exact hA.own2.not_box hA.box zdf
    have HB:=zH hb;have HX:=zH hx;have HO:=zH hO;have HD:=zH hD;have HA:=zH hA;have HFO:=zH hfo;have HSZ:=zH hfo.size;have HFM:=zH hfm;have hlb:=hb.lt;have hls:w.heap.size<w1.heap.size:=(NB.out _ hO).lt;have hlf:(f.lasts.length:Int)≤(cap2:Int):=by omega
    clear hb hx hD hA hfo hfm hcm hcm2
    go_region_law ((refine zh1 _ rfl (.tmp 27) (.tmp 31) 39 rfl 0 5 i0 (.int .u8 0) 1 1 Tryz.underlying39 hi hz0 hz1 hz2 rfl (by decide) (.slice A2 0 cap2) 0 [] (by simp [Act.eval,Act.put]) ((by simpa using CUT.out:Own w1 0 5 1 (.slice A2 0 cap2) 0 []).keep (zD _)) _ A f.now.length cap (cel f.now) (by simp [Act.eval,Act.put]) (by rw [zaq,Nat.mul_one]) (HA.out.own1.at_.keep (zD _)) (za3 _) (by have:=HSZ.out;unfold maxLen;omega) (by have:=HSZ.out;omega) (Nat.zero_le _) ?_);intro v' w3 hown' hgrow hblk;obtain ⟨A',cap',rfl,-⟩:=hown'.form;have hb3:Box w3 (fb f.name) 83 #[.slice A f.now.length cap, .slice A2 f.lasts.length cap2]:=(hgrow.block _ (by simp;omega) (fun e=>bxn e.symm)).trans (HA.out.box.keep (zD _));have z0:=hb3.cell 1 rfl;have z1:=hb3.frozen 1)
    all_goals
     have hown2:Own w3 0 5 1 (.slice A' f.now.length cap') f.now.length (cel f.now):=(by simpa using hown');have hgr:w1.grownBy w3 (Value.slice A2 f.lasts.length cap2).ownBlock:=by
      rw [zb6 (n:=f.lasts.length) (m:=0)];exact zbb ((zD _).grown_ _) hgrow (.inl rfl)
     rw [Nat.zero_add] at hblk;have FP:=HA.out.put2 hgr hown2 (by
      rw [zb6 (n:=f.lasts.length) (m:=0)];rcases hblk with e|e
      ·exact .inl e
      ·exact .inr ⟨_,e,Nat.le_refl _⟩)
     clear hown' hgrow hblk hb3 z0 z1 c0 c1 f1 hown2 hgr;generalize w3.setCell ⟨fb f.name,1,none⟩ (.slice A' f.now.length cap')=w4 at *;obtain ⟨F4,O4⟩:=FP;have X4:=HX.out.turn (f':={f with lasts:=f.now}) HFM.out rfl (fun _=>rfl) O4 F4;have T4:Turns w1 w4 F (more w1 w4 F):=zgH O4 (fun i hi=>hi.1);have B4:Box w4 b 88 (dkC mf ml (goneS s).q (goneS s).armed (goneS s).off):=HX.out.box HB.out O4;have nF:¬ F w.heap.size:=fun e=>by have:=hFl _ e;omega
     have N4:Box w4 w.heap.size 9 #[.string (str nm)]:=(O4.block _ hls (fun e=>nF e.1)).trans (NB.out _ HO.out);obtain ⟨l4,hm4,hmem⟩:=X4.loose;have FG:=zH (zho B4 hm4 225 rfl w.heap.size nm N4 (by omega));have FIN:=zH (show ∀ w5,zaW w5 ml (l4.filter fun p=>!decide (p.1.1=nm))→Only w4 w5 (fun c=>c=ml∨c=w.heap.size)→Dk w5 b (more w1 w4 F) {goneS s with l:=setF (goneS s).l (syncF f)}∧Turns w w5 F (more w1 w4 F) from fun w5 hL5 hO5=>by
      have nF4:¬ more w1 w4 F w.heap.size:=fun e=>by
       rcases e with e|e
       ·exact nF e
       ·omega
      have X5:=X4.remark (f2:=syncF f) rfl rfl rfl ⟨_,hL5,fun p=>by
       rw [zno (fun q=>!decide (q.1=nm)),hmem p,zdU (f:=f) (f':={f with lasts:=f.now}) HX.out.nodup HFM.out rfl (fun _=>rfl) p,ze6 (f:=f) (f':=syncF f) HX.out.nodup HFM.out rfl p];simp only [Bool.not_eq_true',decide_eq_false_iff_not];rw [HFN.out];constructor
       ·rintro ⟨h1,h2⟩;exact .inl ⟨h2,h1⟩
       ·rintro (⟨h1,h2⟩|⟨h1,h2⟩)
        ·exact ⟨h2,h1⟩
        ·cases h2⟩ (hO5.weak fun i hi=>by
       rcases hi with hi|hi
       ·exact .inl hi
       ·exact .inr (by rw [hi];exact nF4))
      have hne:b≠ml:=hm4.ne B4;refine ⟨HD.out.make (HD.out.lok.set (f:=f) (f':=syncF f) (by show getF _ f.name=_;rw [HFN.out];exact hg2) HFO.out.sync (by show usedL (goneS s).l+sect f.now.length≤_;have:=HD.out.used;omega)) ⟨mf,ml,fb,_,(hO5.block b B4.lt (fun e=>?_)).trans B4,X5⟩,⟨((TB.out _ HO.out).trans T4).only.trans hO5 (fun i hi=>?_),((TB.out _ HO.out).trans T4).next⟩⟩
      ·rcases e with e|e
       ·exact hne e
       ·omega
      ·rcases hi with hi|hi
       ·exact .inl (by rw [hi];exact HX.out.nl.1)
       ·exact .inr (by omega))
     clear F4 O4 X4 T4 B4 N4 hm4 hmem n0 nF;go_wp2_with (go_at_call 168;refine FG.out.mono ?_;rintro e w5 ⟨rfl,hL5,hO5⟩)
     have FF:=FIN.out w5 hL5 hO5;go_ret;exact ⟨rfl,_,FF.1,FF.2⟩
 ·rw [ho] at BG;have e:syncS s nm=(goneS s,6):=by unfold syncS;rw [ho];simp
  rw [e];clear e h h0 bx;go_enter Tryz.func202,Tryz.ntmps202;go_wp2_with (go_at_call 144;refine BG.out.mono ?_;rintro e w1 ⟨rfl,hD,hO⟩)
  go_ret;exact ⟨rfl,F,hD,TB.out _ hO⟩
end
section
variable {w w':World} {b:Nat} {F:Nat→Prop} {s:Ds}
end
end Go.Proofs.YtjpldnjldindkaaGreatDoor
