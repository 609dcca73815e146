/- The walks of PageMakes and PageOpens. -/
import Derived.Test.YtbpiiegjbcoapaaDoorQOctetRows
import Derived.Test.YtbpiiegjbcoapaaDoorRefA
import Derived.Deep.RegionHeld3
import Derived.Lib.SlBytesConst
import Derived.Test.YtbpiiegjbcoapaaDoorOctet
import Derived.ChangeKeysEq
import Derived.Laws.StructEq
import Derived.MapKept
import Derived.Test.YtbpiiegjbcoapaaDoorBox
import Derived.Test.YtbpiiegjbcoapaaDoorCopyO
import Derived.Test.YtbpiiegjbcoapaaDoorClone
import Derived.OwnWalk
namespace Go.Proofs.YtbpiiegjbcoapaaDoor
open Go.RowKit
set_option linter.unusedSimpArgs false
set_option linter.unusedVariables false
set_option maxRecDepth 100000

/-- bytes in new memory, and an error: either -/
def Res (w : World) (L : List UInt8) (k : Int) (e : Ending) (w' : World) : Prop :=
  ∃ A c, e = .returned (.tuple #[.slice A L.length c, .int .i64 k]) ∧ Own w' w.heap.size 5 1 (.slice A L.length c) L.length (cel L) ∧ L.length ≤ c ∧ c ≤ maxLen ∧ Keeps w w'
theorem Res.of_gave {w w' : World} {L : List UInt8} {e : Ending} (h : Gave w L e w') : Res w L 0 e w' := by
  obtain ⟨v, rfl, o, k⟩ := h
  obtain ⟨A, c, rfl, h1, h2, -, -⟩ := o.form
  exact ⟨A, c, rfl, o, h1, h2, k⟩
theorem Res.of_refused {w w' : World} {k : Int} {e : Ending} (h : Refused w k e w') : Res w [] k e w' := by
  obtain ⟨rfl, q⟩ := h
  exact ⟨none, 0, rfl, Own.nil _ _ _ _, Nat.le_refl _, Nat.zero_le _, q⟩
def makeL (t n : Nat) (b : List UInt8) : List UInt8 := if b.length ≤ 240 then pageB t n b else []
def makeK (b : List UInt8) : Int := if b.length ≤ 240 then 0 else 9
theorem makeL_le (t n : Nat) (b : List UInt8) : (makeL t n b).length ≤ 256 := by
  unfold makeL; split
  · rename_i h; rw [pageB_length t n h]; exact Nat.le_refl _
  · simp
instance (p : List UInt8) (t n : Nat) : Decidable (IsPage p t n) := by unfold IsPage; exact inferInstance
def openL (p : List UInt8) (t n : Nat) : List UInt8 := if IsPage p t n then saidB p else []
def openK (p : List UInt8) (t n : Nat) : Int := if IsPage p t n then 0 else 7
theorem openL_le (p : List UInt8) (t n : Nat) : (openL p t n).length ≤ 240 := by
  unfold openL; split
  · rename_i h; exact saidB_le h
  · simp

theorem make_res (K : PageOk) (t n : Nat) (ht : t < 4294967296) (hn : n < 4294967296) (A : Option Addr) (m c : Nat) (b : List UInt8) (w : World) (hS : Sizes w) (hB : Bs w A b) (hm : m = b.length) (hc : m ≤ c) (hc2 : c ≤ maxLen) :
    Calls Tryd.prog 33 #[.int .u32 t, .int .u32 n, .slice A m c] w (Res w (makeL t n b) (makeK b)) := by
  unfold makeL makeK
  by_cases h : b.length ≤ 240
  · rw [if_pos h, if_pos h]
    exact (K.make t n ht hn A m c b w hS hB hm hc hc2 h).mono fun _ _ => Res.of_gave
  · rw [if_neg h, if_neg h]
    exact (K.many t n A m c w (by omega) (by omega)).mono fun _ _ => Res.of_refused
theorem open_res (K : PageOk) (t n : Nat) (ht : t < 4294967296) (hn : n < 4294967296) (A : Option Addr) (m c : Nat) (p : List UInt8) (w : World) (hS : Sizes w) (hB : Bs w A p) (hm : m = p.length) (hc : m ≤ c) (hc2 : c ≤ maxLen) :
    Calls Tryd.prog 31 #[.slice A m c, .int .u32 t, .int .u32 n] w (Res w (openL p t n) (openK p t n)) := by
  unfold openL openK
  by_cases h : IsPage p t n
  · rw [if_pos h, if_pos h]
    exact (K.takes t n ht hn A m c p w hS hB hm hc hc2 h).mono fun _ _ => Res.of_gave
  · rw [if_neg h, if_neg h]
    exact (K.rot t n ht hn A m c p w hS hB hm hc hc2 h).mono fun _ _ => Res.of_refused
end Go.Proofs.YtbpiiegjbcoapaaDoor
/- The contract of milepostlaw02.Turned: bytes of which a burst turned some bits. -/
namespace Go.Proofs.YtbpiiegjbcoapaaDoor
open Go.RowKit
set_option linter.unusedSimpArgs false
set_option linter.unusedVariables false
set_option maxRecDepth 100000

theorem cel_set (l : List UInt8) (q : Nat) (b : UInt8) : cel (l.set q b) = (cel l).set q (.int .u8 (b.toNat : Int)) := by simp [cel, List.map_set]
theorem mask_bit (m k : Nat) (hm : m < 4294967296) : bits .and .u32 ((m : Int) / 2 ^ k) 1 = (m.testBit k).toNat := by
  have e : (m : Int) / 2 ^ k = ((m / 2 ^ k : Nat) : Int) := by simp
  have hlt : m / 2 ^ k < 4294967296 := Nat.lt_of_le_of_lt (Nat.div_le_self _ _) hm
  have h := u32_and_nat (m / 2 ^ k) 1 hlt (by decide)
  rw [e]
  refine h.trans ?_
  rw [Nat.and_one_is_mod, Nat.testBit_eq_decide_div_mod_eq]
  rcases Nat.mod_two_eq_zero_or_one (m / 2 ^ k) with h0 | h0 <;> rw [h0] <;> rfl

end Go.Proofs.YtbpiiegjbcoapaaDoor
/- The walks of layer 2's statements, from the contracts of crc.Extend and crc.Sum. -/
namespace Go.Proofs.YtbpiiegjbcoapaaDoor
open Go.RowKit
set_option linter.unusedSimpArgs false
set_option linter.unusedVariables false
set_option maxRecDepth 100000

/-- What a law leaves. -/
def YesC (w : World) (e : Ending) (w' : World) : Prop := e = .returned (.bool true) ∧ Keeps w w'
/-- What the two calls of package crc answer. -/
structure CrcOk : Prop where
  ext : ∀ (s : Nat), s < 4294967296 → ∀ (A : Option Addr) (n c : Nat) (l : List UInt8) (w : World), Bs w A l → n = l.length → n ≤ c → n ≤ 1000000 →
    Calls Tryd.prog 66 #[.int .u32 s, .slice A n c] w fun e w' => e = .returned (.int .u32 (extC s l)) ∧ Keeps w w'
  sum : ∀ (A : Option Addr) (n c : Nat) (l : List UInt8) (w : World), Bs w A l → n = l.length → n ≤ c → n ≤ 1000000 →
    Calls Tryd.prog 51 #[.slice A n c] w fun e w' => e = .returned (.int .u32 (extC 0 l)) ∧ Keeps w w'

def nine : List UInt8 := [49, 50, 51, 52, 53, 54, 55, 56, 57]
theorem nine_sum : extC 0 nine = 3808858755 := by kernel_rfl
theorem none_sum : extC 7 [] = 7 := by kernel_rfl

theorem At.newMarked (w : World) (cs : List Value) (e : TypeId) (fz : Nat × Nat) (B : Nat) (hB : w.heap.size < B) : At (w.alloc (.cells cs.toArray e fz)) B (some ⟨w.heap.size, 0, none⟩) cs := by
  refine .inr ⟨_, rfl, hB, fun j u hu => ?_⟩
  rw [Addr.add_lit, Nat.zero_add, cell_of_row _ _ j cs.toArray e fz (heap_alloc_new w _)]
  simpa using hu

theorem infoC_u8 : (Tryd.prog.info? 5).map (fun i => (i.zero, i.size, i.bytes)) = some (some (.int .u8 0), 1, 1) := by kernel_rfl
theorem byteC (x k : Nat) : ((x : Int) / 2 ^ (8 * k) % 256) = ((UInt8.ofNat (x / 256 ^ k % 256)).toNat : Int) := by
  have e : (256 : Nat) ^ k = 2 ^ (8 * k) := by rw [Nat.pow_mul]
  rw [e]
  simp

end Go.Proofs.YtbpiiegjbcoapaaDoor
/- Pairs of numbers, and page heads, compared as a whole. -/
namespace Go.Proofs.YtbpiiegjbcoapaaDoor
open Go.RowKit
set_option linter.unusedSimpArgs false
set_option linter.unusedVariables false
set_option maxRecDepth 100000

theorem info_u32 : (Tryd.prog.info? 47).map (fun i => (i.zero, i.size, i.bytes)) = some (some (.int .u32 0), 1, 4) := by kernel_rfl
theorem run_head (a b c d a' b' c' d' : Int) (w : World) : (Op.equalIn 10000 93 (.agg #[.int .u32 a, .int .u32 b, .int .u16 c, .int .u16 d]) (.agg #[.int .u32 a', .int .u32 b', .int .u16 c', .int .u16 d'])).run Tryd.prog w = .ok (a == a' && b == b' && c == c' && d == d') w := by
  have hu := Tryd.underlying47
  have hv := Tryd.underlying46
  have hS : Tryd.prog.underlying 93 = some (.struct (Tryd.prog.fieldsOf 93)) := by simp [Program.fieldsOf, Tryd.underlying93]
  have hF : (Tryd.prog.fieldsOf 93).toList.map (fun f => (f.name, f.type, f.offset)) = [("tag", 47, 0), ("number", 47, 1), ("size", 46, 2), ("zero", 46, 3)] := by kernel_rfl
  show (Op.equalIn (9999 + 1) 93 _ _).run Tryd.prog w = _
  rw [run_equalIn_struct w 9999 93 _ _ hS (by kernel_rfl)]
  have hL : (Tryd.prog.fieldsOf 93).toList.length = 4 := by kernel_rfl
  generalize (Tryd.prog.fieldsOf 93).toList = fs at hF hL ⊢
  match fs, hL with
  | [f1, f2, f3, f4], _ =>
    simp only [List.map_cons, List.map_nil, List.cons.injEq, Prod.mk.injEq, and_true] at hF
    obtain ⟨⟨n1, t1, o1⟩, ⟨n2, t2, o2⟩, ⟨n3, t3, o3⟩, ⟨n4, t4, o4⟩⟩ := hF
    have he : ∀ (x y : Int) (w : World), (Op.equalIn 9999 47 (.int .u32 x) (.int .u32 y)).run Tryd.prog w = .ok (x == y) w := fun x y w => run_equalIn_int w 9998 47 .u32 .u32 _ _ hu
    have hg : ∀ (x y : Int) (w : World), (Op.equalIn 9999 46 (.int .u16 x) (.int .u16 y)).run Tryd.prog w = .ok (x == y) w := fun x y w => run_equalIn_int w 9998 46 .u16 .u16 _ _ hv
    have p0 : ∀ (a b c d : Int) (w : World), (part 47 #[.int .u32 a, .int .u32 b, .int .u16 c, .int .u16 d] 0).run Tryd.prog w = .ok (.int .u32 a) w := fun a b c d w => by simp [part, hu, underlying, isAgg]
    have p1 : ∀ (a b c d : Int) (w : World), (part 47 #[.int .u32 a, .int .u32 b, .int .u16 c, .int .u16 d] 1).run Tryd.prog w = .ok (.int .u32 b) w := fun a b c d w => by simp [part, hu, underlying, isAgg]
    have p2 : ∀ (a b c d : Int) (w : World), (part 46 #[.int .u32 a, .int .u32 b, .int .u16 c, .int .u16 d] 2).run Tryd.prog w = .ok (.int .u16 c) w := fun a b c d w => by simp [part, hv, underlying, isAgg]
    have p3 : ∀ (a b c d : Int) (w : World), (part 46 #[.int .u32 a, .int .u32 b, .int .u16 c, .int .u16 d] 3).run Tryd.prog w = .ok (.int .u16 d) w := fun a b c d w => by simp [part, hv, underlying, isAgg]
    generalize 9999 = dd at *
    simp only [Op.eqFields, n1, n2, n3, n4, t1, t2, t3, t4, o1, o2, o3, o4, Sem.run_bind, Sem.run_ite, p0, p1, p2, p3, Result.andThen_ok, he, hg]
    by_cases h1 : a = a'
    · by_cases h2 : b = b'
      · by_cases h3 : c = c'
        · by_cases h4 : d = d'
          · simp [h1, h2, h3, h4]
          · simp [h1, h2, h3, h4]
        · simp [h1, h2, h3]
      · simp [h1, h2]
    · simp [h1]
end Go.Proofs.YtbpiiegjbcoapaaDoor
/- The code of package page: what its functions answer. -/
namespace Go.Proofs.YtbpiiegjbcoapaaDoor
open Go.RowKit
set_option linter.unusedSimpArgs false
set_option linter.unusedVariables false
set_option maxRecDepth 100000

theorem pget_any (A : Option Addr) (n c : Nat) (l : List UInt8) (p s : Nat) (w : World) (hS : Sizes w) (hB : Bs w A l) (hnl : n = l.length) (hc : n ≤ c) (hn : n ≤ 9223372036854775000)
    (hs : isSz (s : Int) = true) (hp : p + s ≤ n) :
    Calls Tryd.prog 65 #[.slice A n c, .int .i64 p, .int .i64 s] w fun e w' => e = .returned (.int .u64 (numAt l p s)) ∧ w = w' := by
  have G := Lib.hid (get_yes A n c l p s w hS hB hnl hc hn hs hp)
  clear hB hnl
  go_enter Tryd.func65, Tryd.ntmps65
  go_wp2_with (go_at_call 74; refine G.out.mono ?_; rintro e w' ⟨rfl, rfl⟩)
  go_ret
  exact ⟨rfl, rfl⟩

theorem numAt_lt8 (l : List UInt8) (p s : Nat) : numAt l p s < 256 ^ s := by
  have h := le_lt ((l.drop p).take s)
  refine Nat.lt_of_lt_of_le h (Nat.pow_le_pow_right (by decide) ?_)
  rw [List.length_take]; omega

def headV (p : List UInt8) : Value := .agg #[.int .u32 (numAt p 0 4 : Int), .int .u32 (numAt p 4 4 : Int), .int .u16 (numAt p 8 2 : Int), .int .u16 (numAt p 10 2 : Int)]
set_option maxHeartbeats 800000 in
theorem headOf_any (A : Option Addr) (c : Nat) (p : List UInt8) (w : World) (hS : Sizes w) (hB : Bs w A p) (hp : p.length = 256) (hc : 256 ≤ c) :
    Calls Tryd.prog 48 #[.slice A 256 c] w fun e w' => e = .returned (headV p) ∧ Keeps w w' := by
  have G := Lib.hid (fun W (k : Keeps w W) a s hs ha => pget_any A 256 c p a s W (hS.keep k) (hB.keep k) hp.symm hc (by decide) hs ha)
  have k0 := keeps_alloc w (.cells #[.int .u32 0, .int .u32 0, .int .u16 0, .int .u16 0] 93)
  have h0 := numAt_lt8 p 0 4
  have h1 := numAt_lt8 p 4 4
  have h2 := numAt_lt8 p 8 2
  have h3 := numAt_lt8 p 10 2
  have g0 : Calls Tryd.prog 65 #[.slice A 256 c, .int .i64 0, .int .i64 4] _ _ := G.out _ k0 0 4 (by decide) (by decide)
  have g1 : Calls Tryd.prog 65 #[.slice A 256 c, .int .i64 4, .int .i64 4] _ _ := G.out _ k0 4 4 (by decide) (by decide)
  have g2 : Calls Tryd.prog 65 #[.slice A 256 c, .int .i64 8, .int .i64 2] _ _ := G.out _ k0 8 2 (by decide) (by decide)
  have g3 : Calls Tryd.prog 65 #[.slice A 256 c, .int .i64 10, .int .i64 2] _ _ := G.out _ k0 10 2 (by decide) (by decide)
  have G0 := Lib.hid g0
  have G1 := Lib.hid g1
  have G2 := Lib.hid g2
  have G3 := Lib.hid g3
  unfold headV
  clear G hB hp g0 g1 g2 g3
  generalize numAt p 0 4 = x0 at *
  generalize numAt p 4 4 = x1 at *
  generalize numAt p 8 2 = x2 at *
  generalize numAt p 10 2 = x3 at *
  go_enter Tryd.func48, Tryd.ntmps48
  go_wp2_with fail
  refine G0.out.mono ?_
  rintro e w' ⟨rfl, rfl⟩
  go_wp2_with fail
  refine G1.out.mono ?_
  rintro e w' ⟨rfl, rfl⟩
  go_wp2_with fail
  refine G2.out.mono ?_
  rintro e w' ⟨rfl, rfl⟩
  go_wp2_with fail
  refine G3.out.mono ?_
  rintro e w' ⟨rfl, rfl⟩
  go_wp2_with fail
  exact bodyPost_ret (v := .agg #[.int .u32 (x0 : Int), .int .u32 (x1 : Int), .int .u16 (x2 : Int), .int .u16 (x3 : Int)]) (by simp [results, Tryd.results48, go_sem]) rfl ⟨rfl, keeps_alloc w _⟩

set_option maxHeartbeats 800000 in
theorem areNoughts_any (A : Option Addr) (n c : Nat) (l : List UInt8) (w : World) (hB : Bs w A l) (hn : n = l.length) (hlen : n ≤ 1000000) :
    Calls Tryd.prog 49 #[.slice A n c] w fun e w' => e = .returned (.bool (decide (l = noughts n))) ∧ w = w' := by
  subst hn
  have HB := Lib.hid hB
  clear hB
  generalize hr : decide (l = noughts l.length) = r
  have HR := Lib.hid hr
  clear hr
  go_enter Tryd.func49, Tryd.ntmps49
  go_wp2
  go_loop [7] (fun i => ∃ k : Nat, k ≤ l.length ∧ i = .int .i64 k ∧ l.take k = noughts k) (fun i => l.length - (intOf i).toNat)
  case atStart => exact ⟨0, Nat.zero_le _, rfl, rfl⟩
  case round =>
    obtain ⟨k, hk, rfl, ht⟩ := hrel
    by_cases hlt : k < l.length
    · obtain ⟨ad, rfl, hc⟩ := HB.out.at_ hlt
      have hg := List.take_succ_eq_append_getElem hlt
      by_cases hz : l.getD k 0 = 0
      · have hz' : ((((l.getD k 0).toNat : Nat) : Int) == 0) = true := by rw [hz]; rfl
        have hnext : l.take (k + 1) = noughts (k + 1) := by
          rw [hg, ht, ← getD_lt l hlt, hz]
          simp [noughts, List.replicate_succ']
        have HN := Lib.hid hnext
        clear hnext hz ht hg
        generalize (l.getD k 0).toNat = y at *
        go_wp2
        go_round
        case rel => exact ⟨k + 1, by omega, by go_num, HN.out⟩
        case measure => simp [intOf]; omega
      · have hz' : ((((l.getD k 0).toNat : Nat) : Int) == 0) = false := by
          have : ¬ (l.getD k 0).toNat = 0 := fun e => hz (UInt8.toNat_inj.1 (by simpa using e))
          simp only [beq_eq_false_iff_ne, ne_eq]; omega
        have hno : decide (l = noughts l.length) = false := decide_eq_false (fun e => hz (by
          rw [getD_lt l hlt]
          have : l[k]? = some 0 := by rw [e]; simp [noughts, hlt]
          rw [List.getElem?_eq_getElem hlt] at this
          exact Option.some.inj this))
        have HNO := Lib.hid hno
        clear hno hz ht hg
        generalize (l.getD k 0).toNat = y at *
        go_wp2
        go_ret
        exact ⟨by rw [← HR.out, HNO.out]; rfl, rfl⟩
    · obtain rfl : k = l.length := by omega
      rw [List.take_length] at ht
      have HT := Lib.hid (decide_eq_true ht)
      clear ht
      go_wp2
      go_ret
      exact ⟨by rw [← HR.out, HT.out]; rfl, rfl⟩

set_option maxHeartbeats 800000 in
theorem sumFits_any (K : CrcOk) (A : Option Addr) (c : Nat) (p : List UInt8) (w : World) (hS : Sizes w) (hB : Bs w A p) (hp : p.length = 256) (hc : 256 ≤ c) :
    Calls Tryd.prog 50 #[.slice A 256 c] w fun e w' => e = .returned (.bool (decide (numAt p 252 4 = extC 0 (p.take 252)))) ∧ Keeps w w' := by
  have G := Lib.hid (fun W (k : Keeps w W) => pget_any A 256 c p 252 4 W (hS.keep k) (hB.keep k) hp.symm hc (by decide) (by decide) (by decide))
  have C := Lib.hid (fun W (k : Keeps w W) => K.sum A 252 c (p.take 252) W ((hB.keep k).take 252) (by rw [List.length_take, hp]; rfl) (by omega) (by decide))
  have hs := extC_lt (s := 0) (by decide) (p.take 252)
  clear hB hp
  generalize extC 0 (p.take 252) = s at *
  generalize numAt p 252 4 = x at *
  have hb : ((x : Int) == (s : Int)) = decide (x = s) := by
    by_cases e : x = s
    · simp [e]
    · have : ¬ (x : Int) = (s : Int) := by omega
      simp [e, this]
  rw [← hb]
  have hc' : (252 : Int) ≤ (c : Int) := by omega
  have hw : IntKind.u64.wrap (s : Int) = (s : Int) := by
    simp [IntKind.wrap, IntKind.signed, IntKind.bits]; omega
  clear hb
  go_enter Tryd.func50, Tryd.ntmps50
  go_wp2_with fail
  go_region_held3 (fun _ => True) (trivial) (first
    | (go_at_call 65; refine (G.out _ (keeps_drew _)).mono ?_; rintro e w1 ⟨rfl, rfl⟩; have k1 := keeps_drew w; clear G)
    | (go_at_call 51; refine (C.out _ k1).mono ?_; rintro e w2 ⟨rfl, k2⟩; replace k2 := keeps_trans k1 k2; clear C))
  go_wp2_with fail
  go_ret
  exact ⟨rfl, k2⟩

theorem put4 (A : Option Addr) (n c : Nat) (l : List UInt8) (x : Nat) (w : World) (hS : Sizes w) (hB : Bs w A l) (hnl : n = l.length) (hx : x < 18446744073709551616) (hn : n ≤ 140737488354000) :
    Calls Tryd.prog 53 #[.slice A n c, .int .u64 x, .int .i64 4] w (Made w (l ++ nb 4 x)) := putO_any A n c l x 4 w hS hB hnl hx hn
theorem put2 (A : Option Addr) (n c : Nat) (l : List UInt8) (x : Nat) (w : World) (hS : Sizes w) (hB : Bs w A l) (hnl : n = l.length) (hx : x < 18446744073709551616) (hn : n ≤ 140737488354000) :
    Calls Tryd.prog 53 #[.slice A n c, .int .u64 x, .int .i64 2] w (Made w (l ++ nb 2 x)) := putO_any A n c l x 2 w hS hB hnl hx hn
theorem nb_size {s : Nat} (h : s ≤ 240) : nb 2 s ++ nb 2 0 = nb 4 s := by
  have e : s / 256 / 256 = 0 := by omega
  simp [nb, e]

set_option maxHeartbeats 1600000 in
theorem toBytes_any (t n s : Nat) (ht : t < 4294967296) (hn : n < 4294967296) (hs : s ≤ 240) (w : World) (hS : Sizes w) :
    Calls Tryd.prog 52 #[.agg #[.int .u32 t, .int .u32 n, .int .u16 s, .int .u16 0]] w (Made w (headB t n s)) := by
  have k0 := keeps_alloc w (.cells #[.int .u32 t, .int .u32 n, .int .u16 s, .int .u16 0] 93)
  have bx := Box.new w 93 #[.int .u32 t, .int .u32 n, .int .u16 s, .int .u16 0]
  have P1 := Lib.hid (put4 none 0 0 [] t _ (hS.keep k0) (Bs.nil _ _) rfl (by omega) (by decide))
  go_enter Tryd.func52, Tryd.ntmps52
  go_wp2_with fail
  refine P1.out.mono ?_
  generalize (w.alloc (.cells #[.int .u32 t, .int .u32 n, .int .u16 s, .int .u16 0] 93)) = w0 at *
  rintro e w1 ⟨v1, rfl, o1, k1⟩
  obtain ⟨A1, c1, rfl, -, -, -, -⟩ := o1.form
  rw [List.nil_append, nb_length] at o1
  have q1 := keeps_trans k0 k1
  have z1 := (bx.keep k1).cell 1 rfl
  have P2 := Lib.hid (put4 A1 4 c1 (nb 4 t) n w1 (hS.keep q1) (Own.at_ o1) (nb_length _ _).symm (by omega) (by omega))
  clear o1 P1
  go_wp2_with fail
  refine P2.out.mono ?_
  rintro e w2 ⟨v2, rfl, o2, k2⟩
  obtain ⟨A2, c2, rfl, -, -, -, -⟩ := o2.form
  rw [List.length_append, nb_length, nb_length] at o2
  have q2 := keeps_trans q1 k2
  clear z1
  have z2 := (bx.keep (keeps_trans k1 k2)).cell 2 rfl
  have P3 := Lib.hid (put2 A2 8 c2 (nb 4 t ++ nb 4 n) s w2 (hS.keep q2) (Own.at_ o2) (by simp [nb_length]) (by omega) (by omega))
  clear o2 P2
  go_wp2_with fail
  refine P3.out.mono ?_
  rintro e w3 ⟨v3, rfl, o3, k3⟩
  obtain ⟨A3, c3, rfl, -, -, -, -⟩ := o3.form
  rw [show (nb 4 t ++ nb 4 n ++ nb 2 s).length = 10 by simp [nb_length]] at o3
  have q3 := keeps_trans q2 k3
  clear z2
  have z3 := (bx.keep (keeps_trans k1 (keeps_trans k2 k3))).cell 3 rfl
  have P4 := Lib.hid (put2 A3 10 c3 (nb 4 t ++ nb 4 n ++ nb 2 s) 0 w3 (hS.keep q3) (Own.at_ o3) (by simp [nb_length]) (by omega) (by omega))
  have e4 : nb 4 t ++ nb 4 n ++ nb 2 s ++ nb 2 0 = headB t n s := by rw [List.append_assoc, nb_size hs]; rfl
  rw [e4] at P4
  clear o3 P3 e4
  go_wp2_with fail
  refine P4.out.mono ?_
  rintro e w4 ⟨v4, rfl, o4, k4⟩
  go_wp2_with fail
  go_ret
  exact ⟨_, rfl, o4.base_le q3.size, keeps_trans q3 k4⟩

theorem tag_any (K : CrcOk) (l : List UInt8) (w : World) (hl : l.length ≤ 100000) : Calls Tryd.prog 32 #[.string (str l)] w fun e w' => e = .returned (.int .u32 (extC 0 l)) ∧ Keeps w w' := by
  have cv := convFrom w (str l)
  have o := bytesWorld_own w 5 l (by unfold maxLen; omega)
  have k := bytesWorld_keeps w 5 (str l)
  rw [← str_size l] at o
  have R := Lib.hid (K.sum _ _ (grownCap w (str l).size 0 5) l _ (Own.at_ o) (str_size l) (grownCap_ge _ _ _ _) (by rw [str_size]; omega))
  generalize Lib.bytesWorld w 5 (str l) = w1 at *
  generalize grownCap w (str l).size 0 5 = cap at *
  generalize str l = x at *
  clear o
  go_enter Tryd.func32, Tryd.ntmps32
  go_wp2_with (first
    | (go_at_call 51; refine R.out.mono ?_; rintro e w' ⟨rfl, k2⟩))
  go_ret
  exact ⟨rfl, keeps_trans k k2⟩

theorem many_any (t n : Nat) (A : Option Addr) (m c : Nat) (w : World) (hm : 240 < m) (hm2 : m ≤ maxLen) :
    Calls Tryd.prog 33 #[.int .u32 t, .int .u32 n, .slice A m c] w (Refused w 9) := by
  unfold maxLen at hm2
  go_enter Tryd.func33, Tryd.ntmps33
  go_wp2
  go_ret2
  exact ⟨rfl, keeps_refl _⟩
end Go.Proofs.YtbpiiegjbcoapaaDoor
/- The walk of PageSizes. -/
namespace Go.Proofs.YtbpiiegjbcoapaaDoor
open Go.RowKit
set_option linter.unusedSimpArgs false
set_option linter.unusedVariables false
set_option maxRecDepth 100000

theorem made_noughts (s : Nat) : (madeCells (Value.int .u8 0).cells (s * 1)).toList = cel (noughts s) := by
  rw [Nat.mul_one]
  apply List.ext_getElem?
  intro j
  by_cases hj : j < s
  · simp [madeCells, noughts, cel, hj, Value.cells, Nat.mod_one]
  · simp [madeCells, noughts, cel, hj, Value.cells]

end Go.Proofs.YtbpiiegjbcoapaaDoor
