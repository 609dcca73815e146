/- The code of package page: what its functions answer. -/
import Derived.Test.YtllmmmggepgblaaDoorLawPage2
import Derived.Test.YtllmmmggepgblaaDoorLawCrc
import Derived.Test.YtllmmmggepgblaaDoorBox
import Derived.Test.YtllmmmggepgblaaDoorPageEq
import Derived.Test.YtllmmmggepgblaaDoorCopyO
import Derived.Test.YtllmmmggepgblaaDoorClone
import Derived.OwnWalk
import Derived.Deep.RegionHeld3
namespace Go.Proofs.YtllmmmggepgblaaDoor
open Go.RowKit
set_option linter.unusedSimpArgs false
set_option linter.unusedVariables false
set_option maxRecDepth 100000

theorem pget_any (A : Option Addr) (n c : Nat) (l : List UInt8) (p s : Nat) (w : World) (hS : Sizes w) (hB : Bs w A l) (hnl : n = l.length) (hc : n ≤ c) (hn : n ≤ 9223372036854775000)
    (hs : isSz (s : Int) = true) (hp : p + s ≤ n) :
    Calls Tryd.prog 44 #[.slice A n c, .int .i64 p, .int .i64 s] w fun e w' => e = .returned (.int .u64 (numAt l p s)) ∧ w = w' := by
  have G := Lib.hid (get_yes A n c l p s w hS hB hnl hc hn hs hp)
  clear hB hnl
  go_enter Tryd.func44, Tryd.ntmps44
  go_wp2_with (go_at_call 46; refine G.out.mono ?_; rintro e w' ⟨rfl, rfl⟩)
  go_ret
  exact ⟨rfl, rfl⟩

theorem numAt_lt8 (l : List UInt8) (p s : Nat) : numAt l p s < 256 ^ s := by
  have h := le_lt ((l.drop p).take s)
  refine Nat.lt_of_lt_of_le h (Nat.pow_le_pow_right (by decide) ?_)
  rw [List.length_take]; omega

def headV (p : List UInt8) : Value := .agg #[.int .u32 (numAt p 0 4 : Int), .int .u32 (numAt p 4 4 : Int), .int .u16 (numAt p 8 2 : Int), .int .u16 (numAt p 10 2 : Int)]
set_option maxHeartbeats 800000 in
theorem headOf_any (A : Option Addr) (c : Nat) (p : List UInt8) (w : World) (hS : Sizes w) (hB : Bs w A p) (hp : p.length = 256) (hc : 256 ≤ c) :
    Calls Tryd.prog 33 #[.slice A 256 c] w fun e w' => e = .returned (headV p) ∧ Keeps w w' := by
  have G := Lib.hid (fun W (k : Keeps w W) a s hs ha => pget_any A 256 c p a s W (hS.keep k) (hB.keep k) hp.symm hc (by decide) hs ha)
  have k0 := keeps_alloc w (.cells #[.int .u32 0, .int .u32 0, .int .u16 0, .int .u16 0] 51)
  have h0 := numAt_lt8 p 0 4
  have h1 := numAt_lt8 p 4 4
  have h2 := numAt_lt8 p 8 2
  have h3 := numAt_lt8 p 10 2
  have g0 : Calls Tryd.prog 44 #[.slice A 256 c, .int .i64 0, .int .i64 4] _ _ := G.out _ k0 0 4 (by decide) (by decide)
  have g1 : Calls Tryd.prog 44 #[.slice A 256 c, .int .i64 4, .int .i64 4] _ _ := G.out _ k0 4 4 (by decide) (by decide)
  have g2 : Calls Tryd.prog 44 #[.slice A 256 c, .int .i64 8, .int .i64 2] _ _ := G.out _ k0 8 2 (by decide) (by decide)
  have g3 : Calls Tryd.prog 44 #[.slice A 256 c, .int .i64 10, .int .i64 2] _ _ := G.out _ k0 10 2 (by decide) (by decide)
  have G0 := Lib.hid g0
  have G1 := Lib.hid g1
  have G2 := Lib.hid g2
  have G3 := Lib.hid g3
  unfold headV
  clear G hB hp g0 g1 g2 g3
  generalize numAt p 0 4 = x0 at *
  generalize numAt p 4 4 = x1 at *
  generalize numAt p 8 2 = x2 at *
  generalize numAt p 10 2 = x3 at *
  go_enter Tryd.func33, Tryd.ntmps33
  go_wp2_with fail
  refine G0.out.mono ?_
  rintro e w' ⟨rfl, rfl⟩
  go_wp2_with fail
  refine G1.out.mono ?_
  rintro e w' ⟨rfl, rfl⟩
  go_wp2_with fail
  refine G2.out.mono ?_
  rintro e w' ⟨rfl, rfl⟩
  go_wp2_with fail
  refine G3.out.mono ?_
  rintro e w' ⟨rfl, rfl⟩
  go_wp2_with fail
  exact bodyPost_ret (v := .agg #[.int .u32 (x0 : Int), .int .u32 (x1 : Int), .int .u16 (x2 : Int), .int .u16 (x3 : Int)]) (by simp [results, Tryd.results33, go_sem]) rfl ⟨rfl, keeps_alloc w _⟩

set_option maxHeartbeats 800000 in
theorem areNoughts_any (A : Option Addr) (n c : Nat) (l : List UInt8) (w : World) (hB : Bs w A l) (hn : n = l.length) (hlen : n ≤ 1000000) :
    Calls Tryd.prog 34 #[.slice A n c] w fun e w' => e = .returned (.bool (decide (l = noughts n))) ∧ w = w' := by
  subst hn
  have HB := Lib.hid hB
  clear hB
  generalize hr : decide (l = noughts l.length) = r
  have HR := Lib.hid hr
  clear hr
  go_enter Tryd.func34, Tryd.ntmps34
  go_wp2
  go_loop [7] (fun i => ∃ k : Nat, k ≤ l.length ∧ i = .int .i64 k ∧ l.take k = noughts k) (fun i => l.length - (intOf i).toNat)
  case atStart => exact ⟨0, Nat.zero_le _, rfl, rfl⟩
  case round =>
    obtain ⟨k, hk, rfl, ht⟩ := hrel
    by_cases hlt : k < l.length
    · obtain ⟨ad, rfl, hc⟩ := HB.out.at_ hlt
      have hg := List.take_succ_eq_append_getElem hlt
      by_cases hz : l.getD k 0 = 0
      · have hz' : ((((l.getD k 0).toNat : Nat) : Int) == 0) = true := by rw [hz]; rfl
        have hnext : l.take (k + 1) = noughts (k + 1) := by
          rw [hg, ht, ← getD_lt l hlt, hz]
          simp [noughts, List.replicate_succ']
        have HN := Lib.hid hnext
        clear hnext hz ht hg
        generalize (l.getD k 0).toNat = y at *
        go_wp2
        go_round
        case rel => exact ⟨k + 1, by omega, by go_num, HN.out⟩
        case measure => simp [intOf]; omega
      · have hz' : ((((l.getD k 0).toNat : Nat) : Int) == 0) = false := by
          have : ¬ (l.getD k 0).toNat = 0 := fun e => hz (UInt8.toNat_inj.1 (by simpa using e))
          simp only [beq_eq_false_iff_ne, ne_eq]; omega
        have hno : decide (l = noughts l.length) = false := decide_eq_false (fun e => hz (by
          rw [getD_lt l hlt]
          have : l[k]? = some 0 := by rw [e]; simp [noughts, hlt]
          rw [List.getElem?_eq_getElem hlt] at this
          exact Option.some.inj this))
        have HNO := Lib.hid hno
        clear hno hz ht hg
        generalize (l.getD k 0).toNat = y at *
        go_wp2
        go_ret
        exact ⟨by rw [← HR.out, HNO.out]; rfl, rfl⟩
    · obtain rfl : k = l.length := by omega
      rw [List.take_length] at ht
      have HT := Lib.hid (decide_eq_true ht)
      clear ht
      go_wp2
      go_ret
      exact ⟨by rw [← HR.out, HT.out]; rfl, rfl⟩

set_option maxHeartbeats 800000 in
theorem sumFits_any (K : CrcOk) (A : Option Addr) (c : Nat) (p : List UInt8) (w : World) (hS : Sizes w) (hB : Bs w A p) (hp : p.length = 256) (hc : 256 ≤ c) :
    Calls Tryd.prog 35 #[.slice A 256 c] w fun e w' => e = .returned (.bool (decide (numAt p 252 4 = extC 0 (p.take 252)))) ∧ Keeps w w' := by
  have G := Lib.hid (fun W (k : Keeps w W) => pget_any A 256 c p 252 4 W (hS.keep k) (hB.keep k) hp.symm hc (by decide) (by decide) (by decide))
  have C := Lib.hid (fun W (k : Keeps w W) => K.sum A 252 c (p.take 252) W ((hB.keep k).take 252) (by rw [List.length_take, hp]; rfl) (by omega) (by decide))
  have hs := extC_lt (s := 0) (by decide) (p.take 252)
  clear hB hp
  generalize extC 0 (p.take 252) = s at *
  generalize numAt p 252 4 = x at *
  have hb : ((x : Int) == (s : Int)) = decide (x = s) := by
    by_cases e : x = s
    · simp [e]
    · have : ¬ (x : Int) = (s : Int) := by omega
      simp [e, this]
  rw [← hb]
  have hc' : (252 : Int) ≤ (c : Int) := by omega
  have hw : IntKind.u64.wrap (s : Int) = (s : Int) := by
    simp [IntKind.wrap, IntKind.signed, IntKind.bits]; omega
  clear hb
  go_enter Tryd.func35, Tryd.ntmps35
  go_wp2_with fail
  go_region_held3 (fun _ => True) (trivial) (first
    | (go_at_call 44; refine (G.out _ (keeps_drew _)).mono ?_; rintro e w1 ⟨rfl, rfl⟩; have k1 := keeps_drew w; clear G)
    | (go_at_call 27; refine (C.out _ k1).mono ?_; rintro e w2 ⟨rfl, k2⟩; replace k2 := keeps_trans k1 k2; clear C))
  go_wp2_with fail
  go_ret
  exact ⟨rfl, k2⟩

theorem put4 (A : Option Addr) (n c : Nat) (l : List UInt8) (x : Nat) (w : World) (hS : Sizes w) (hB : Bs w A l) (hnl : n = l.length) (hx : x < 18446744073709551616) (hn : n ≤ 140737488354000) :
    Calls Tryd.prog 26 #[.slice A n c, .int .u64 x, .int .i64 4] w (Made w (l ++ nb 4 x)) := put_any A n c l x 4 w hS hB hnl hx hn
theorem put2 (A : Option Addr) (n c : Nat) (l : List UInt8) (x : Nat) (w : World) (hS : Sizes w) (hB : Bs w A l) (hnl : n = l.length) (hx : x < 18446744073709551616) (hn : n ≤ 140737488354000) :
    Calls Tryd.prog 26 #[.slice A n c, .int .u64 x, .int .i64 2] w (Made w (l ++ nb 2 x)) := put_any A n c l x 2 w hS hB hnl hx hn
theorem nb_size {s : Nat} (h : s ≤ 240) : nb 2 s ++ nb 2 0 = nb 4 s := by
  have e : s / 256 / 256 = 0 := by omega
  simp [nb, e]

set_option maxHeartbeats 1600000 in
theorem toBytes_any (t n s : Nat) (ht : t < 4294967296) (hn : n < 4294967296) (hs : s ≤ 240) (w : World) (hS : Sizes w) :
    Calls Tryd.prog 25 #[.agg #[.int .u32 t, .int .u32 n, .int .u16 s, .int .u16 0]] w (Made w (headB t n s)) := by
  have k0 := keeps_alloc w (.cells #[.int .u32 t, .int .u32 n, .int .u16 s, .int .u16 0] 51)
  have bx := Box.new w 51 #[.int .u32 t, .int .u32 n, .int .u16 s, .int .u16 0]
  have P1 := Lib.hid (put4 none 0 0 [] t _ (hS.keep k0) (Bs.nil _ _) rfl (by omega) (by decide))
  go_enter Tryd.func25, Tryd.ntmps25
  go_wp2_with fail
  refine P1.out.mono ?_
  generalize (w.alloc (.cells #[.int .u32 t, .int .u32 n, .int .u16 s, .int .u16 0] 51)) = w0 at *
  rintro e w1 ⟨v1, rfl, o1, k1⟩
  obtain ⟨A1, c1, rfl, -, -, -, -⟩ := o1.form
  rw [List.nil_append, nb_length] at o1
  have q1 := keeps_trans k0 k1
  have z1 := (bx.keep k1).cell 1 rfl
  have P2 := Lib.hid (put4 A1 4 c1 (nb 4 t) n w1 (hS.keep q1) (Own.at_ o1) (nb_length _ _).symm (by omega) (by omega))
  clear o1 P1
  go_wp2_with fail
  refine P2.out.mono ?_
  rintro e w2 ⟨v2, rfl, o2, k2⟩
  obtain ⟨A2, c2, rfl, -, -, -, -⟩ := o2.form
  rw [List.length_append, nb_length, nb_length] at o2
  have q2 := keeps_trans q1 k2
  clear z1
  have z2 := (bx.keep (keeps_trans k1 k2)).cell 2 rfl
  have P3 := Lib.hid (put2 A2 8 c2 (nb 4 t ++ nb 4 n) s w2 (hS.keep q2) (Own.at_ o2) (by simp [nb_length]) (by omega) (by omega))
  clear o2 P2
  go_wp2_with fail
  refine P3.out.mono ?_
  rintro e w3 ⟨v3, rfl, o3, k3⟩
  obtain ⟨A3, c3, rfl, -, -, -, -⟩ := o3.form
  rw [show (nb 4 t ++ nb 4 n ++ nb 2 s).length = 10 by simp [nb_length]] at o3
  have q3 := keeps_trans q2 k3
  clear z2
  have z3 := (bx.keep (keeps_trans k1 (keeps_trans k2 k3))).cell 3 rfl
  have P4 := Lib.hid (put2 A3 10 c3 (nb 4 t ++ nb 4 n ++ nb 2 s) 0 w3 (hS.keep q3) (Own.at_ o3) (by simp [nb_length]) (by omega) (by omega))
  have e4 : nb 4 t ++ nb 4 n ++ nb 2 s ++ nb 2 0 = headB t n s := by rw [List.append_assoc, nb_size hs]; rfl
  rw [e4] at P4
  clear o3 P3 e4
  go_wp2_with fail
  refine P4.out.mono ?_
  rintro e w4 ⟨v4, rfl, o4, k4⟩
  go_wp2_with fail
  go_ret
  exact ⟨_, rfl, o4.base_le q3.size, keeps_trans q3 k4⟩

theorem tag_any (K : CrcOk) (l : List UInt8) (w : World) (hl : l.length ≤ 100000) : Calls Tryd.prog 16 #[.string (str l)] w fun e w' => e = .returned (.int .u32 (extC 0 l)) ∧ Keeps w w' := by
  have cv := convFrom w (str l)
  have o := bytesWorld_own w 5 l (by unfold maxLen; omega)
  have k := bytesWorld_keeps w 5 (str l)
  rw [← str_size l] at o
  have R := Lib.hid (K.sum _ _ (grownCap w (str l).size 0 5) l _ (Own.at_ o) (str_size l) (grownCap_ge _ _ _ _) (by rw [str_size]; omega))
  generalize Lib.bytesWorld w 5 (str l) = w1 at *
  generalize grownCap w (str l).size 0 5 = cap at *
  generalize str l = x at *
  clear o
  go_enter Tryd.func16, Tryd.ntmps16
  go_wp2_with (first
    | (go_at_call 27; refine R.out.mono ?_; rintro e w' ⟨rfl, k2⟩))
  go_ret
  exact ⟨rfl, keeps_trans k k2⟩

theorem many_any (t n : Nat) (A : Option Addr) (m c : Nat) (w : World) (hm : 240 < m) (hm2 : m ≤ maxLen) :
    Calls Tryd.prog 12 #[.int .u32 t, .int .u32 n, .slice A m c] w (Refused w 9) := by
  unfold maxLen at hm2
  go_enter Tryd.func12, Tryd.ntmps12
  go_wp2
  go_ret2
  exact ⟨rfl, keeps_refl _⟩
end Go.Proofs.YtllmmmggepgblaaDoor
