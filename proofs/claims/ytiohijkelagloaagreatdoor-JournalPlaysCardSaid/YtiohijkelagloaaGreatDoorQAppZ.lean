/- append(b, make([]byte, m)...) onto a row of the call's own; of no program. -/
import Derived.Test.YtiohijkelagloaaGreatDoorQBase
import Derived.Lib.AppendZerosOnto
import Derived.Test.YtiohijkelagloaaGreatDoorQOctet
import Derived.Test.YtiohijkelagloaaGreatDoorQCrc
import Derived.Test.YtiohijkelagloaaGreatDoorQJrMath
import Derived.Test.YtiohijkelagloaaGreatDoorQRefA
import Derived.Deep.RegionHeld3
namespace Go.Proofs.YtiohijkelagloaaGreatDoor
open Go.RowKit
set_option linter.unusedSimpArgs false
set_option linter.unusedVariables false
set_option maxRecDepth 100000

theorem zeroU8 (m : Nat) : (Builtin.zeroCells (Value.int .u8 0).cells m).toList = cel (List.replicate m 0) := by
  have h : ∀ i : Nat, [Value.int IntKind.u8 0][i % 1]?.getD default = Value.int IntKind.u8 0 := fun i => by rw [Nat.mod_one]; rfl
  simp [Builtin.zeroCells, Value.cells, cel, h, List.map_const']
section
variable {P : Program} (w : World)
theorem run_appZj (base : Nat) (t tn ty e : TypeId) (i : TypeInfo) (kn kq : IntKind) (ht : P.underlying t = some (.slice e)) (htn : P.underlying tn = some (.int kn)) (hi : P.info? e = some i) (hz : i.zero = some (.int .u8 0)) (hsize : i.size = 1) (hby : i.bytes = 1)
    (v : Value) (n : Nat) (xs : List Value) (hown : Own w base e 1 v n xs) (m : Nat) (hpos : 0 < m) (hv0 : 0 < n) (h63 : n + m ≤ 140737488355328) (hbase : base ≤ w.heap.size) :
    ∃ v' w', (Builtin.append_ #[t, tn] ty #[v, .int kq (m : Int)]).run P w = .ok v' w' ∧ Own w' base e 1 v' (n + m) (xs ++ cel (List.replicate m 0)) ∧ w.grownBy w' v.ownBlock ∧
      (v'.ownBlock = v.ownBlock ∨ v'.ownBlock = some w.heap.size) := by
  rcases hown.2 with ⟨rfl, rfl⟩ | ⟨g, cap, cur, fz, rfl, hbg, hg, hfz, hnc, hcm, hcs, htake⟩
  · omega
  · have hlx := hown.1
    have hzl : (cel (List.replicate m 0)).length = m := by rw [cel_length, List.length_replicate]
    have hlen : (xs ++ cel (List.replicate m 0)).length = (n + m) * 1 := by rw [List.length_append, hzl, hlx]; omega
    by_cases hroom : n + m ≤ cap
    · have hst := storeCells_own P g (n * 1) e fz (cel (List.replicate m 0)) 0 cur w hg hfz (by rw [hzl]; omega) (cel_one _)
      simp only [Nat.add_zero, Nat.mul_one] at hst
      have hm0 : m ≠ 0 := by omega
      have hw : IntKind.i64.wrap (m : Int) = m := by rw [IntKind.wrap_i64]; omega
      have hneg : ¬ ((m : Int) < 0) := by omega
      have h48i : ¬ (281474976710656 < (m : Int)) := by omega
      have hst2 : (storeCells ⟨g, n, none⟩ (Builtin.zeroCells (Value.int .u8 0).cells m).toList).run P w = .ok () (w.setRow g (cur.toList.take n ++ cel (List.replicate m 0) ++ cur.toList.drop (n + (cel (List.replicate m 0)).length)).toArray) := by
        rw [zeroU8]; exact hst
      have hadd : (⟨g, 0, none⟩ : Addr).add n = ⟨g, n, none⟩ := by rw [Addr.add_lit, Nat.zero_add]
      have hrun : (Builtin.append_ #[t, tn] ty #[.slice (some ⟨g, 0, none⟩) n cap, .int kq (m : Int)]).run P w =
          .ok (.slice (some ⟨g, 0, none⟩) (n + m) cap) (w.setRow g (cur.toList.take n ++ cel (List.replicate m 0) ++ cur.toList.drop (n + (cel (List.replicate m 0)).length)).toArray) := by
        generalize hL : (Builtin.zeroCells (Value.int .u8 0).cells m) = L at *
        simp [Builtin.append_, run_underlying ht, run_underlying htn, sizeOf, typeInfo, zeroValue, hi, hz, hsize, hby, asInt, asIntOf, hw, hneg, h48i, hroom, hm0, hL, hadd, hst2]
      rw [Nat.mul_one] at htake hcs
      have hlt : (cur.toList.take n).length = n := by rw [htake]; omega
      refine ⟨_, _, hrun, ⟨hlen, .inr ⟨g, cap, _, fz, rfl, hbg, setRow_heap w g cur _ e _ hg, ?_, hroom, hcm, ?_, ?_⟩⟩, ⟨rfl, rfl, rfl, by simp, fun k _ hk => setRow_other w g k _ (fun e => hk (by simp [Value.ownBlock, e]))⟩, .inl rfl⟩
      · rcases hfz with h | h
        · exact .inl h
        · right
          simp only [List.size_toArray, List.length_append, List.length_take, List.length_drop, Array.length_toList, hzl]
          omega
      · simp only [List.size_toArray, List.length_append, List.length_take, List.length_drop, Array.length_toList, hzl]
        omega
      · rw [htake, ← hlen]
        exact List.take_left
    · have holds : (Builtin.firstCells i.size n (.slice (some ⟨g, 0, none⟩) n cap)).run P w.drew = .ok xs.toArray w.drew := by
        rw [hsize]
        refine run_firstCells_some (P := P) w.drew 1 n ⟨g, 0, none⟩ n cap xs (by omega) fun j u hu => ?_
        rcases Own.at_ (hown.keep (keeps_drew w)) with hx | ⟨ad', e', _, hc⟩
        · subst hx; simp at hu
        · obtain rfl := Option.some.inj e'
          exact hc j u hu
      have hrun := Lib.run_append_grow_zeros (P := P) w t tn ty e i (.int .u8 0) kq kn ht htn hi hz (some ⟨g, 0, none⟩) n cap xs holds m hpos (by omega) (by omega) (by omega) (by rw [hby]; omega) (by rw [hby]; exact growslice_fits (by omega) (by omega))
      have hge := grownCap_ge w (n + m) cap e
      have hcm2 : grownCap w (n + m) cap e ≤ maxLen := grownCap_le_maxLen w (n + m) cap e (by unfold maxLen; omega)
      refine ⟨_, _, hrun, ⟨hlen, .inr ⟨w.heap.size, _, _, _, rfl, hbase, heap_alloc_new w.drew _, .inl rfl, hge, hcm2, ?_, ?_⟩⟩, ⟨rfl, rfl, rfl, by simp, fun k hk _ => _root_.Go.heap_alloc_old w.drew _ hk⟩, .inr rfl⟩
      · have e1 : (Builtin.zeroCells (Value.int .u8 0).cells m).size = m := by rw [← Array.length_toList, zeroU8, hzl]
        have e2 : ∀ q, (Builtin.zeroCells (Value.int .u8 0).cells q).size = q := fun q => by rw [← Array.length_toList, zeroU8, cel_length, List.length_replicate]
        simp only [Array.size_append, List.size_toArray, e2, hlx]
        omega
      · simp only [Array.toList_append, zeroU8]
        rw [← hlen]
        exact List.take_left
end
end Go.Proofs.YtiohijkelagloaaGreatDoor
/- The code of package journal: a sector put field by field, and read. -/
namespace Go.Proofs.YtiohijkelagloaaGreatDoor
open Go.RowKit
set_option linter.unusedSimpArgs false
set_option linter.unusedVariables false
set_option maxRecDepth 100000

def u32C (fs : List Nat) : List Value := fs.map fun (x : Nat) => .int .u32 (x : Int)
def fieldsB (fs : List Nat) : List UInt8 := fs.flatMap (nb 4)
theorem fieldsB_snoc (fs : List Nat) (x : Nat) : fieldsB (fs ++ [x]) = fieldsB fs ++ nb 4 x := by simp [fieldsB]
theorem fieldsB_len (fs : List Nat) : (fieldsB fs).length = 4 * fs.length := by
  induction fs with
  | nil => rfl
  | cons x fs ih => simp only [fieldsB, List.flatMap_cons, List.length_append, nb_length, List.length_cons] at ih ⊢; omega
set_option maxHeartbeats 4000000 in
theorem jput_any (A : Option Addr) (n c : Nat) (l : List UInt8) (B : Option Addr) (m d : Nat) (fs : List Nat) (w : World) (hS : Sizes w) (hB : Bs w A l) (hn : n = l.length) (hF : At w w.heap.size B (u32C fs)) (hm : m = fs.length)
    (h0 : 0 < m) (h32 : ∀ x ∈ fs, x < 4294967296) (hnx : n ≤ 100000) (hmx : m ≤ 100) :
    Calls Tryz.prog 110 #[.slice A n c, .slice B m d] w (Made w (l ++ fieldsB fs)) := by
  have HS := Lib.hid hS
  have HB := Lib.hid hB
  have HF := Lib.hid hF
  have HM := Lib.hid hm
  have HN := Lib.hid hn
  have H3 := Lib.hid h32
  have hmi : (m : Int) ≤ 100 := by omega
  clear hS hB hn hF hm h32
  go_enter Tryz.func110, Tryz.ntmps110
  go_wp2_with fail
  go_loopw [9, 0] (fun i b wr => ∃ (j : Nat) (A1 : Option Addr) (n1 c1 : Nat), j ≤ m ∧ i = .int .i64 j ∧ b = .slice A1 n1 c1 ∧ Hid (n1 = l.length + 4 * j) ∧ Hid (Bs wr A1 (l ++ fieldsB (fs.take j))) ∧ Hid (0 < j → Own wr w.heap.size 5 1 (.slice A1 n1 c1) n1 (cel (l ++ fieldsB (fs.take j)))) ∧ Hid (Keeps w wr)) (fun i _ _ => m - (intOf i).toNat)
  case atStart => exact ⟨0, A, n, c, Nat.zero_le _, rfl, rfl, Lib.hid (by have := HN.out; omega), Lib.hid (by simpa [fieldsB] using HB.out), Lib.hid (fun h => absurd h (by omega)), Lib.hid (keeps_refl _)⟩
  case round =>
    obtain ⟨j, A1, n1, c1, hj, rfl, rfl, HN1, HB1, HO1, KR⟩ := hrel
    by_cases hlt : j < m
    · have hjm : (j : Int) < (m : Int) := by omega
      obtain ⟨x, hx⟩ : ∃ x, fs[j]? = some x := ⟨_, List.getElem?_eq_getElem (by have := HM.out; omega)⟩
      obtain ⟨bd, rfl, -, hc⟩ := At.get (HF.out.keep KR.out) (k := j) (by simp [u32C]; have := HM.out; omega)
      have hc2 : (u32C fs)[j]? = some (.int .u32 (x : Int)) := by simp [u32C, hx]
      rw [hc2] at hc
      have hx32 := H3.out x (List.mem_of_getElem? hx)
      have ht : fs.take (j + 1) = fs.take j ++ [x] := by rw [List.take_add_one, hx]; rfl
      have P := putO_any A1 n1 c1 (l ++ fieldsB (fs.take j)) x 4 wr (HS.out.keep KR.out) HB1.out (by rw [List.length_append, fieldsB_len, List.length_take, HN1.out]; have := HM.out; omega) (by omega) (by have := HN1.out; have := HN.out; omega)
      rw [show (isSz 4) = true from rfl, if_pos rfl, show (4 : Int).toNat = 4 from rfl, List.append_assoc, ← fieldsB_snoc, ← ht] at P
      have PP := Lib.hid P
      have TL := Lib.hid (show (l ++ fieldsB (fs.take (j + 1))).length = l.length + 4 * (j + 1) by rw [List.length_append, fieldsB_len, List.length_take]; have := HM.out; omega)
      have hxw : (x : Int) % 18446744073709551616 = (x : Int) := by omega
      clear hc2 hx ht P hlt
      go_wp2_with fail
      refine PP.out.mono ?_
      rintro e w2 ⟨v2, rfl, o2, k2⟩
      rw [TL.out] at o2
      obtain ⟨A2, c2, rfl, -⟩ := o2.form
      have K2 := Lib.hid (keeps_trans KR.out k2)
      have O2 := Lib.hid (o2.base_le KR.out.size)
      clear o2 k2
      go_wp2_with fail
      go_roundw
      case rel => exact ⟨j + 1, A2, _, c2, by omega, by go_num, rfl, Lib.hid rfl, Lib.hid O2.out.at_, Lib.hid (fun _ => O2.out), K2⟩
      case measure => simp [intOf]; omega
    · obtain rfl : j = m := by omega
      clear hlt hj
      go_wp2_with fail
      go_ret
      have o := HO1.out h0
      rw [List.take_of_length_le (by have := HM.out; omega)] at o
      have e : (l ++ fieldsB fs).length = n1 := by rw [List.length_append, fieldsB_len, HN1.out, HM.out]
      exact ⟨_, rfl, by rw [e]; exact o, KR.out⟩
theorem jget_yes (A : Option Addr) (n c : Nat) (l : List UInt8) (p : Nat) (w : World) (hS : Sizes w) (hB : Bs w A l) (hnl : n = l.length) (hc : n ≤ c) (hn : n ≤ 9223372036854775000) (hp : p + 4 ≤ n) :
    Calls Tryz.prog 137 #[.slice A n c, .int .i64 (p : Int)] w fun e w' => e = .returned (.int .u32 (numAt l p 4 : Int)) ∧ w = w' := by
  have G := Lib.hid (get_yes A n c l p 4 w hS hB hnl hc hn (by decide) hp)
  have hlt := numAt_lt4 l p
  clear hB hnl
  generalize numAt l p 4 = x at *
  have hxw : (x : Int) % 4294967296 = (x : Int) := by omega
  go_enter Tryz.func137, Tryz.ntmps137
  go_wp2_with (go_at_call 154; refine G.out.mono ?_; rintro e w' ⟨rfl, rfl⟩)
  go_ret
  exact ⟨rfl, rfl⟩
theorem jget_no (A : Option Addr) (n c : Nat) (p : Nat) (w : World) (hS : Sizes w) (hn : n ≤ 1000) (hp : n < p + 4) (hpx : p ≤ 1000) :
    Calls Tryz.prog 137 #[.slice A n c, .int .i64 (p : Int)] w fun e w' => e = .returned (.int .u32 0) ∧ w = w' := by
  have G := Lib.hid (get_no A n c (p : Int) 4 w hS (by omega) (by omega) (by omega) (.inr (.inr (by omega))))
  go_enter Tryz.func137, Tryz.ntmps137
  go_wp2_with (go_at_call 154; refine G.out.mono ?_; rintro e w' ⟨rfl, rfl⟩)
  go_ret
  exact ⟨rfl, rfl⟩
/-- a field of a sector, 0 where it lies behind the end -/
def fieldAt (l : List UInt8) (p : Nat) : Nat := if p + 4 ≤ l.length then numAt l p 4 else 0
theorem fieldAt_lt (l : List UInt8) (p : Nat) : fieldAt l p < 4294967296 := by
  unfold fieldAt
  split
  · exact numAt_lt4 l p
  · omega
theorem jget_any (A : Option Addr) (n c : Nat) (l : List UInt8) (p : Nat) (w : World) (hS : Sizes w) (hB : Bs w A l) (hnl : n = l.length) (hc : n ≤ c) (hn : n ≤ 1000) (hpx : p ≤ 1000) :
    Calls Tryz.prog 137 #[.slice A n c, .int .i64 (p : Int)] w fun e w' => e = .returned (.int .u32 (fieldAt l p : Int)) ∧ w = w' := by
  unfold fieldAt
  by_cases h : p + 4 ≤ l.length
  · rw [if_pos h]
    exact jget_yes A n c l p w hS hB hnl hc (by omega) (by omega)
  · rw [if_neg h]
    exact jget_no A n c p w hS hn (by omega) hpx
def saidF (l : List UInt8) : RecS := ⟨fieldAt l 4, fieldAt l 8, fieldAt l 12⟩
theorem saidF_ok (l : List UInt8) : RecOk (saidF l) := ⟨fieldAt_lt _ _, fieldAt_lt _ _, fieldAt_lt _ _⟩
theorem saidF_eq {l : List UInt8} (h : l.length = 64) : saidF l = saidR l := by
  unfold saidF saidR fieldAt
  rw [if_pos (by omega), if_pos (by omega), if_pos (by omega)]
theorem isRec_F (l : List UInt8) (n : Nat) : IsRec l n ↔ (saidF l).kind ≠ 0 ∧ l = sectB n (saidF l) := by
  by_cases h : l.length = 64
  · rw [saidF_eq h]; rfl
  · constructor
    · intro hh; exact absurd hh.length h
    · rintro ⟨-, hh⟩
      exact absurd (by rw [hh, sectB_length]) h
theorem info_u32j : (Tryz.prog.info? 36).map (fun i => (i.zero, i.size, i.bytes)) = some (some (.int .u32 0), 1, 4) := by kernel_rfl
theorem headR_fields (n : Nat) (r : RecS) : fieldsB [n, r.kind, r.a, r.b] = headR n r := by simp [fieldsB, headR]
theorem noughts_rep (k : Nat) : List.replicate k (0 : UInt8) = noughts k := rfl
set_option maxHeartbeats 8000000 in
theorem jsector_any (n : Nat) (r : RecS) (w : World) (hS : Sizes w) (hr : RecOk r) (hn : n < 4294967296) :
    Calls Tryz.prog 70 #[.int .i64 (n : Int), .agg (recC r).toArray] w (Made w (sectB n r)) := by
  obtain ⟨i0, hi, hz0, hz1, hz2⟩ := info_parts info_u8
  have kB := keeps_alloc w (.cells (recC r).toArray 38)
  have kF := keeps_alloc (w.alloc (.cells (recC r).toArray 38)) (.cells (u32C [n, r.kind, r.a, r.b]).toArray 36)
  have hAF := At.new (w.alloc (.cells (recC r).toArray 38)) (u32C [n, r.kind, r.a, r.b]) 36 ((w.alloc (.cells (recC r).toArray 38)).alloc (.cells (u32C [n, r.kind, r.a, r.b]).toArray 36)).heap.size (by simp)
  rw [show (w.alloc (.cells (recC r).toArray 38)).heap.size = w.heap.size + 1 from World.size_alloc _ _] at hAF
  have P1 := Lib.hid (jput_any none 0 0 [] (some ⟨w.heap.size + 1, 0, none⟩) 4 4 [n, r.kind, r.a, r.b] ((w.alloc (.cells (recC r).toArray 38)).alloc (.cells (u32C [n, r.kind, r.a, r.b]).toArray 36)) (hS.keep (keeps_trans kB kF)) (Bs.nil _ _) rfl hAF rfl (by decide) (by
      intro x hx
      simp only [List.mem_cons, List.not_mem_nil, or_false] at hx
      rcases hx with rfl | rfl | rfl | rfl
      · exact hn
      · exact hr.kind
      · exact hr.a
      · exact hr.b) (by decide) (by decide))
  rw [List.nil_append, headR_fields] at P1
  have HS0 := Lib.hid hS
  have KW := Lib.hid (keeps_trans kB kF)
  have HL := Lib.hid (headR_length n r)
  have hnw : (n : Int) % 4294967296 = (n : Int) := by omega
  have SUM := Lib.hid (fun (V : World) (A : Option Addr) (c : Nat) (h : Bs V A (bodyR n r)) => sum_any A 60 c (bodyR n r) V h (bodyR_length n r).symm (by decide))
  have hsl := extC_lt (s := 0) (by decide) (bodyR n r)
  have PUT2 := Lib.hid (fun (V : World) (A : Option Addr) (c : Nat) (B : Addr) (hv : Sizes V) (h : Bs V A (bodyR n r)) (hf : At V V.heap.size (some B) (u32C [extC 0 (bodyR n r)])) => jput_any A 60 c (bodyR n r) (some B) 1 1 [extC 0 (bodyR n r)] V hv h (bodyR_length n r).symm hf rfl (by decide) (by simpa using hsl) (by decide) (by decide))
  have FIN := Lib.hid (show bodyR n r ++ fieldsB [extC 0 (bodyR n r)] = sectB n r by simp [fieldsB, sectB])
  have BD := Lib.hid (show headR n r ++ noughts 44 = bodyR n r from rfl)
  have BL := Lib.hid (bodyR_length n r)
  have o1 : ∀ (V : World) (v : Value), Own V w.heap.size 5 1 v 16 (cel (headR n r)) → Keeps w V → ∃ A c, v = .slice A 16 c ∧ ∃ v' W, (Builtin.append_ #[40, 3] 40 #[v, .int .i64 44]).run Tryz.prog V = .ok v' W ∧ Own W w.heap.size 5 1 v' 60 (cel (bodyR n r)) ∧ Keeps w W := by
    intro V v o k
    obtain ⟨A, c, rfl, -⟩ := o.form
    obtain ⟨v', W, h1, h2, h3, h4⟩ := run_appZj V w.heap.size 40 3 40 5 i0 .i64 .i64 Tryz.underlying40 Tryz.underlying3 hi hz0 hz1 hz2 _ 16 _ o 44 (by decide) (by decide) (by decide) k.size
    refine ⟨A, c, rfl, v', W, h1, ?_, Below.grown k h3 k.size (fun g hg => (o.lt g hg).1)⟩
    rw [← cel_append, noughts_rep, BD.out] at h2
    exact h2
  have O1 := Lib.hid o1
  unfold recC u32C at *
  clear kB kF hS hr hn o1
  generalize headR n r = hd at *
  generalize bodyR n r = bd at *
  generalize sectB n r = sb at *
  generalize extC 0 bd = su at *
  go_enter Tryz.func70, Tryz.ntmps70
  go_wp2_with fail
  refine P1.out.mono ?_
  rintro e w1 ⟨v1, rfl, o1, k1⟩
  rw [HL.out] at o1
  have K1 := Lib.hid (keeps_trans KW.out k1)
  obtain ⟨A1, c1, rfl, v2, w2, run2, o2, k2⟩ := O1.out w1 v1 (o1.base_le KW.out.size) K1.out
  obtain ⟨A2, c2, rfl, -⟩ := o2.form
  have K2 := Lib.hid k2
  have O2 := Lib.hid o2
  clear o1 k1 o2 k2
  go_wp2_with (at_builtin; refine Lib.wpList_append_run _ rfl _ _ _ _ rfl _ _ rfl rfl _ _ run2 ?_)
  refine (SUM.out _ A2 c2 O2.out.at_).mono ?_
  rintro e w3 ⟨rfl, k3⟩
  have kG := keeps_alloc w3 (.cells #[.int .u32 (su : Int)] 36)
  have K3 := Lib.hid (keeps_trans (keeps_trans K2.out k3) kG)
  have hAG := At.new w3 (u32C [su]) 36 (w3.alloc (.cells #[.int .u32 (su : Int)] 36)).heap.size (by simp)
  have P2 := Lib.hid (PUT2.out _ A2 c2 ⟨w3.heap.size, 0, none⟩ (HS0.out.keep K3.out) ((O2.out.keep k3).keep kG).at_ hAG)
  rw [FIN.out] at P2
  clear k3 kG hAG
  go_wp2_with fail
  refine P2.out.mono ?_
  rintro e w4 ⟨v4, rfl, o4, k4⟩
  go_wp2_with fail
  go_ret
  exact ⟨v4, rfl, o4.base_le K3.out.size, keeps_trans K3.out k4⟩
end Go.Proofs.YtiohijkelagloaaGreatDoor
/- The code of package journal: the record that a sector says. -/
namespace Go.Proofs.YtiohijkelagloaaGreatDoor
open Go.RowKit
set_option linter.unusedSimpArgs false
set_option linter.unusedVariables false
set_option maxRecDepth 100000

theorem box_sndj (w : World) (x : Obj) (T : TypeId) (cs : Array Value) : Box ((w.alloc x).alloc (.cells cs T)) (w.heap.size + 1) T cs := by
  have := Box.new (w.alloc x) T cs
  simpa using this
theorem bytesEq_any (A : Option Addr) (n c : Nat) (l : List UInt8) (B : Option Addr) (m d : Nat) (k : List UInt8) (w : World) (hA : Bs w A l) (hn : n = l.length) (hB : Bs w B k) (hm : m = k.length) :
    Calls Tryz.prog 138 #[.slice A n c, .slice B m d] w fun e w' => e = .returned (.bool (decide (l = k))) ∧ w = w' := by
  have k1 := convTo w A l n c hn hA
  have k2 := convTo w B k m d hm hB
  have e1 : (decide (l = k)) = ((str l).toList == (str k).toList) := by
    rw [str_toList, str_toList]
    by_cases e : l = k <;> simp [e]
  rw [e1]
  clear hn hm e1 hA hB
  go_enter Tryz.func138, Tryz.ntmps138
  go_wp2
  go_ret
  exact ⟨rfl, rfl⟩
def zeroR : RecS := ⟨0, 0, 0⟩
def ToldR (w : World) (l : List UInt8) (n : Nat) (e : Ending) (w' : World) : Prop :=
  e = .returned (.tuple #[.agg (recC (if IsRec l n then saidR l else zeroR)).toArray, .bool (decide (IsRec l n))]) ∧ Keeps w w'
set_option maxHeartbeats 8000000 in
theorem jrecord_any (A : Option Addr) (n c : Nat) (l : List UInt8) (num : Nat) (w : World) (hS : Sizes w) (hB : Bs w A l) (hnl : n = l.length) (hc : n ≤ c) (hn : n ≤ 64) (hnum : num < 4294967296) :
    Calls Tryz.prog 107 #[.slice A n c, .int .i64 (num : Int)] w (ToldR w l num) := by
  have k0 := keeps_alloc w (.cells #[.int .u32 0, .int .u32 0, .int .u32 0] 38)
  have G := Lib.hid (fun (p : Nat) (hp : p ≤ 1000) => jget_any A n c l p (w.alloc (.cells #[.int .u32 0, .int .u32 0, .int .u32 0] 38)) (hS.keep k0) (hB.keep k0) hnl hc (by omega) hp)
  have g1 : Calls Tryz.prog 137 #[.slice A n c, .int .i64 4] _ _ := G.out 4 (by decide)
  have g2 : Calls Tryz.prog 137 #[.slice A n c, .int .i64 8] _ _ := G.out 8 (by decide)
  have g3 : Calls Tryz.prog 137 #[.slice A n c, .int .i64 12] _ _ := G.out 12 (by decide)
  have G1 := Lib.hid g1
  have G2 := Lib.hid g2
  have G3 := Lib.hid g3
  have SE := Lib.hid (fun (V : World) (k : Keeps w V) => jsector_any num (saidF l) V (hS.keep k) (saidF_ok l) hnum)
  have EQ := Lib.hid (fun (V : World) (k : Keeps w V) (B : Option Addr) (d : Nat) (h : Bs V B (sectB num (saidF l))) => bytesEq_any A n c l B 64 d (sectB num (saidF l)) V (hB.keep k) hnl h (sectB_length _ _).symm)
  have SL := Lib.hid (sectB_length num (saidF l))
  have ISR := isRec_F l num
  have LR := Lib.hid (fun h : IsRec l num => (saidF_eq h.length).symm)
  unfold ToldR
  clear G g1 g2 g3 hB hnl
  by_cases hk : (saidF l).kind = 0
  · have hno : ¬ IsRec l num := fun h => (ISR.1 h).1 hk
    rw [if_neg hno, decide_eq_false hno]
    have hkk : ((saidF l).kind : Int) = 0 := by omega
    unfold recC zeroR at *
    have HK := Lib.hid hkk
    clear ISR LR SE EQ SL hno hk hkk
    unfold saidF at *
    simp only at *
    rw [HK.out] at G1
    generalize fieldAt l 8 = x2 at *
    generalize fieldAt l 12 = x3 at *
    clear HK
    go_enter Tryz.func107, Tryz.ntmps107
    go_wp2_with fail
    refine G1.out.mono ?_
    rintro e w' ⟨rfl, rfl⟩
    go_wp2_with fail
    refine G2.out.mono ?_
    rintro e w' ⟨rfl, rfl⟩
    go_wp2_with fail
    refine G3.out.mono ?_
    rintro e w' ⟨rfl, rfl⟩
    go_wp2_with fail
    exact bodyPost_ret (v := .tuple #[.agg #[.int .u32 0, .int .u32 0, .int .u32 0], .bool false]) (by simp [results, Tryz.results107, go_sem]) rfl ⟨rfl, keeps_trans k0 (keeps_alloc _ _)⟩
  · have hkk : (((saidF l).kind : Int) == 0) = false := by rw [beq_eq_false_iff_ne]; omega
    have HKK := Lib.hid hkk
    have ISR2 := Lib.hid (show IsRec l num ↔ l = sectB num (saidF l) from ⟨fun h => (ISR.1 h).2, fun h => ISR.2 ⟨hk, h⟩⟩)
    obtain ⟨sb, hsb⟩ : ∃ sb, sectB num (saidF l) = sb := ⟨_, rfl⟩
    rw [hsb] at SE EQ SL ISR2
    clear ISR hk hkk hsb
    have SF : saidF l = ⟨fieldAt l 4, fieldAt l 8, fieldAt l 12⟩ := rfl
    rw [SF] at SE HKK LR
    simp only at HKK
    have hkk := HKK.out
    unfold recC zeroR at *
    simp only at SE LR
    generalize fieldAt l 4 = x1 at *
    generalize fieldAt l 8 = x2 at *
    generalize fieldAt l 12 = x3 at *
    clear HKK SF
    by_cases he : l = sb
    · have hyes := ISR2.out.2 he
      rw [if_pos hyes, decide_eq_true hyes, LR.out hyes]
      rw [decide_eq_true he] at EQ
      clear he hyes LR ISR2
      go_enter Tryz.func107, Tryz.ntmps107
      go_wp2_with fail
      refine G1.out.mono ?_
      rintro e w' ⟨rfl, rfl⟩
      go_wp2_with fail
      refine G2.out.mono ?_
      rintro e w' ⟨rfl, rfl⟩
      go_wp2_with fail
      refine G3.out.mono ?_
      rintro e w' ⟨rfl, rfl⟩
      go_wp2_with fail
      refine (SE.out _ (keeps_trans k0 (keeps_alloc _ _))).mono ?_
      rintro e w5 ⟨v5, rfl, o5, k5⟩
      rw [SL.out] at o5
      obtain ⟨A5, c5, rfl, -⟩ := o5.form
      have K5 := Lib.hid (keeps_trans (keeps_trans k0 (keeps_alloc _ _)) k5)
      have E5 := Lib.hid (EQ.out _ K5.out A5 c5 o5.at_)
      have b4 := (Box.new w 38 #[.int .u32 0, .int .u32 0, .int .u32 0]).keep (keeps_trans (keeps_alloc _ _) k5)
      have b6 := (box_sndj w (.cells #[.int .u32 0, .int .u32 0, .int .u32 0] 38) 38 #[.int .u32 (x1 : Int), .int .u32 (x2 : Int), .int .u32 (x3 : Int)]).keep k5
      have q0 := b4.cell 0 rfl
      have q1 := b4.cell 1 rfl
      have q2 := b4.cell 2 rfl
      have f0 := b4.frozen 0
      have f1 := b4.frozen 1
      have f2 := b4.frozen 2
      have p0 := b6.cell 0 rfl
      have p1 := b6.cell 1 rfl
      have p2 := b6.cell 2 rfl
      have B4 := Lib.hid b4
      clear o5 k5 b4 b6
      go_wp2_with fail
      refine E5.out.mono ?_
      rintro e w6 ⟨rfl, rfl⟩
      go_wp2_with fail
      have XB : Box (((w5.setCell ⟨w.heap.size, 0, none⟩ (.int .u32 (x1 : Int))).setCell ⟨w.heap.size, 1, none⟩ (.int .u32 (x2 : Int))).setCell ⟨w.heap.size, 2, none⟩ (.int .u32 (x3 : Int))) w.heap.size 38 #[.int .u32 (x1 : Int), .int .u32 (x2 : Int), .int .u32 (x3 : Int)] := by
        simpa using ((B4.out.set 0 (.int .u32 (x1 : Int))).set 1 (.int .u32 (x2 : Int))).set 2 (.int .u32 (x3 : Int))
      have XK : Keeps w (((w5.setCell ⟨w.heap.size, 0, none⟩ (.int .u32 (x1 : Int))).setCell ⟨w.heap.size, 1, none⟩ (.int .u32 (x2 : Int))).setCell ⟨w.heap.size, 2, none⟩ (.int .u32 (x3 : Int))) :=
        ((K5.out.setCell (p := ⟨w.heap.size, 0, none⟩) (Nat.le_refl _) _).setCell (p := ⟨w.heap.size, 1, none⟩) (Nat.le_refl _) _).setCell (p := ⟨w.heap.size, 2, none⟩) (Nat.le_refl _) _
      generalize ((w5.setCell ⟨w.heap.size, 0, none⟩ (.int .u32 (x1 : Int))).setCell ⟨w.heap.size, 1, none⟩ (.int .u32 (x2 : Int))).setCell ⟨w.heap.size, 2, none⟩ (.int .u32 (x3 : Int)) = W9 at *
      have d0 := XB.cell 0 rfl
      have d1 := XB.cell 1 rfl
      have d2 := XB.cell 2 rfl
      exact bodyPost_ret (v := .tuple #[.agg #[.int .u32 (x1 : Int), .int .u32 (x2 : Int), .int .u32 (x3 : Int)], .bool true]) (by simp [results, Tryz.results107, go_sem, d0, d1, d2]) rfl ⟨rfl, XK⟩
    · have hno : ¬ IsRec l num := fun h => he (ISR2.out.1 h)
      rw [if_neg hno, decide_eq_false hno]
      rw [decide_eq_false he] at EQ
      clear he hno LR ISR2
      go_enter Tryz.func107, Tryz.ntmps107
      go_wp2_with fail
      refine G1.out.mono ?_
      rintro e w' ⟨rfl, rfl⟩
      go_wp2_with fail
      refine G2.out.mono ?_
      rintro e w' ⟨rfl, rfl⟩
      go_wp2_with fail
      refine G3.out.mono ?_
      rintro e w' ⟨rfl, rfl⟩
      go_wp2_with fail
      refine (SE.out _ (keeps_trans k0 (keeps_alloc _ _))).mono ?_
      rintro e w5 ⟨v5, rfl, o5, k5⟩
      rw [SL.out] at o5
      obtain ⟨A5, c5, rfl, -⟩ := o5.form
      have K5 := Lib.hid (keeps_trans (keeps_trans k0 (keeps_alloc _ _)) k5)
      have E5 := Lib.hid (EQ.out _ K5.out A5 c5 o5.at_)
      have b4 := (Box.new w 38 #[.int .u32 0, .int .u32 0, .int .u32 0]).keep (keeps_trans (keeps_alloc _ _) k5)
      have b6 := (box_sndj w (.cells #[.int .u32 0, .int .u32 0, .int .u32 0] 38) 38 #[.int .u32 (x1 : Int), .int .u32 (x2 : Int), .int .u32 (x3 : Int)]).keep k5
      have q0 := b4.cell 0 rfl
      have q1 := b4.cell 1 rfl
      have q2 := b4.cell 2 rfl
      have f0 := b4.frozen 0
      have f1 := b4.frozen 1
      have f2 := b4.frozen 2
      have p0 := b6.cell 0 rfl
      have p1 := b6.cell 1 rfl
      have p2 := b6.cell 2 rfl
      have B4 := Lib.hid b4
      clear o5 k5 b4 b6
      go_wp2_with fail
      refine E5.out.mono ?_
      rintro e w6 ⟨rfl, rfl⟩
      go_wp2_with fail
      have XB : Box (((w5.setCell ⟨w.heap.size, 0, none⟩ (.int .u32 0)).setCell ⟨w.heap.size, 1, none⟩ (.int .u32 0)).setCell ⟨w.heap.size, 2, none⟩ (.int .u32 0)) w.heap.size 38 #[.int .u32 0, .int .u32 0, .int .u32 0] := by
        simpa using ((B4.out.set 0 (.int .u32 0)).set 1 (.int .u32 0)).set 2 (.int .u32 0)
      have XK : Keeps w (((w5.setCell ⟨w.heap.size, 0, none⟩ (.int .u32 0)).setCell ⟨w.heap.size, 1, none⟩ (.int .u32 0)).setCell ⟨w.heap.size, 2, none⟩ (.int .u32 0)) :=
        ((K5.out.setCell (p := ⟨w.heap.size, 0, none⟩) (Nat.le_refl _) _).setCell (p := ⟨w.heap.size, 1, none⟩) (Nat.le_refl _) _).setCell (p := ⟨w.heap.size, 2, none⟩) (Nat.le_refl _) _
      generalize ((w5.setCell ⟨w.heap.size, 0, none⟩ (.int .u32 0)).setCell ⟨w.heap.size, 1, none⟩ (.int .u32 0)).setCell ⟨w.heap.size, 2, none⟩ (.int .u32 0) = W9 at *
      have d0 := XB.cell 0 rfl
      have d1 := XB.cell 1 rfl
      have d2 := XB.cell 2 rfl
      exact bodyPost_ret (v := .tuple #[.agg #[.int .u32 0, .int .u32 0, .int .u32 0], .bool false]) (by simp [results, Tryz.results107, go_sem, d0, d1, d2]) rfl ⟨rfl, XK⟩
theorem jrecord_yes (A : Option Addr) (n c : Nat) (l : List UInt8) (num : Nat) (w : World) (hS : Sizes w) (hB : Bs w A l) (hnl : n = l.length) (hc : n ≤ c) (hn : n ≤ 64) (hnum : num < 4294967296) (h : IsRec l num) :
    Calls Tryz.prog 107 #[.slice A n c, .int .i64 (num : Int)] w fun e w' => e = .returned (.tuple #[.agg #[.int .u32 ((saidR l).kind : Int), .int .u32 ((saidR l).a : Int), .int .u32 ((saidR l).b : Int)], .bool true]) ∧ Keeps w w' :=
  (jrecord_any A n c l num w hS hB hnl hc hn hnum).mono fun e w' q => by
    unfold ToldR at q
    rw [if_pos h, decide_eq_true h] at q
    exact q
theorem jrecord_no (A : Option Addr) (n c : Nat) (l : List UInt8) (num : Nat) (w : World) (hS : Sizes w) (hB : Bs w A l) (hnl : n = l.length) (hc : n ≤ c) (hn : n ≤ 64) (hnum : num < 4294967296) (h : ¬ IsRec l num) :
    Calls Tryz.prog 107 #[.slice A n c, .int .i64 (num : Int)] w fun e w' => e = .returned (.tuple #[.agg #[.int .u32 0, .int .u32 0, .int .u32 0], .bool false]) ∧ Keeps w w' :=
  (jrecord_any A n c l num w hS hB hnl hc hn hnum).mono fun e w' q => by
    unfold ToldR at q
    rw [if_neg h, decide_eq_false h] at q
    exact q
end Go.Proofs.YtiohijkelagloaaGreatDoor
