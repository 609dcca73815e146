/- The reference of layer 7: milepostref07.Make, Open and Tag. -/
import Derived.Test.YtamboappeahgpaaGreatDoorQLawPage
import Derived.Test.YtamboappeahgpaaGreatDoorQOctetRows
import Derived.Test.YtamboappeahgpaaGreatDoorQBase
namespace Go.Proofs.YtamboappeahgpaaGreatDoor
open Go.RowKit
set_option linter.unusedSimpArgs false
set_option linter.unusedVariables false
set_option maxRecDepth 100000

def lenV : Value → Nat
  | .slice _ n _ => n
  | _ => 0
theorem sz4 (l : List UInt8) (x : Nat) : (l ++ if isSz 4 then nb (4 : Int).toNat x else []) = l ++ nb 4 x := rfl
theorem noughts_succ (k : Nat) : noughts (k + 1) = noughts k ++ [0] := by simp [noughts, List.replicate_succ']

theorem refPut4 (A : Option Addr) (n c : Nat) (l : List UInt8) (x : Nat) (w : World) (hB : Bs w A l) (hnl : n = l.length) (hx : x < 18446744073709551616) (hn : n ≤ 140737488354000) :
    Calls Tryz.prog 145 #[.slice A n c, .int .u64 x, .int .i64 4] w (New w (l ++ nb 4 x)) := refPut_any A n c l x 4 w hB hnl hx hn

set_option maxHeartbeats 800000 in
theorem refMake_many (t n : Nat) (A : Option Addr) (m c : Nat) (w : World) (hm : 240 < m) (hm2 : m ≤ maxLen) :
    Calls Tryz.prog 98 #[.int .u32 t, .int .u32 n, .slice A m c] w fun e w' => e = .returned (.tuple #[.slice none 0 0, .int .i64 9]) ∧ w = w' := by
  unfold maxLen at hm2
  go_enter Tryz.func98, Tryz.ntmps98
  go_wp2
  go_ret2
  exact ⟨rfl, rfl⟩

set_option maxHeartbeats 1600000 in
theorem refMake_any (t n : Nat) (ht : t < 4294967296) (hn : n < 4294967296) (A : Option Addr) (m c : Nat) (b : List UInt8) (w : World) (hB : Bs w A b) (hm : m = b.length) (hb : b.length ≤ 240) :
    Calls Tryz.prog 98 #[.int .u32 t, .int .u32 n, .slice A m c] w (Gave w (pageB t n b)) := by
  obtain ⟨i0, hi, hz0, hz1, hz2⟩ := info_parts info_u8
  have hbody := bodyB_length (b := b) t n hb
  have hpage := pageB_length (b := b) t n hb
  have P1 := Lib.hid (refPut4 none 0 0 [] t w (Bs.nil _ _) rfl (by omega) (by decide))
  have hm240 : m ≤ 240 := by omega
  have hbm : b.length = m := hm.symm
  have HM := Lib.hid hm
  have HB := Lib.hid hb
  clear hm hb
  go_enter Tryz.func98, Tryz.ntmps98
  go_wp2_with fail
  refine P1.out.mono ?_
  rintro e w1 ⟨v1, rfl, o1, k1⟩
  obtain ⟨A1, c1, rfl, -, -, -, -⟩ := o1.form
  rw [List.nil_append, nb_length] at o1
  go_wp2_with fail
  refine (refPut4 A1 4 c1 (nb 4 t) n w1 (Own.at_ o1) (nb_length _ _).symm (by omega) (by omega)).mono ?_
  rintro e w2 ⟨v2, rfl, o2, k2⟩
  obtain ⟨A2, c2, rfl, -, -, -, -⟩ := o2.form
  rw [List.length_append, nb_length, nb_length] at o2
  have q2 := keeps_trans k1 k2
  go_wp2_with fail
  refine (refPut4 A2 8 c2 (nb 4 t ++ nb 4 n) m w2 (Own.at_ o2) (by simp [nb_length]) (by omega) (by omega)).mono ?_
  rintro e w3 ⟨v3, rfl, o3, k3⟩
  have q3 := keeps_trans q2 k3
  have e3 : nb 4 t ++ nb 4 n ++ nb 4 m = headB t n b.length := by rw [HM.out]; rfl
  rw [e3, headB_length] at o3
  have o3' := o3.base_le q2.size
  clear o3 o2 o1
  go_wp2_with (first
    | (at_builtin; refine wpList_app _ rfl _ _ 34 rfl w.heap.size 5 i0 (.int .u8 0) 1 1 Tryz.underlying34 hi hz0 hz1 hz2 rfl (by decide) _ _ _ rfl o3' w3.heap.size A m c (cel b) rfl (by rw [cel_length, hbm, Nat.mul_one]) (hB.keep q3) (cel_one b) (by unfold maxLen; omega) (by omega) q3.size ?_; intro v4 w4 o4 g4 b4))
  have k4 : Keeps w w4 := Below.grown q3 g4 q3.size (fun g hg => (o3'.lt g hg).1)
  rw [← cel_append] at o4
  have st : Own w4 w.heap.size 5 1 v4 (12 + m + 0) (cel (headB t n b.length ++ (b ++ noughts 0))) := by simpa [noughts] using o4
  clear o4 g4 b4 o3'
  go_loopw [8] (fun v wr => ∃ k N : Nat, k ≤ 240 - m ∧ N = 12 + m + k ∧ Own wr w.heap.size 5 1 v N (cel (headB t n b.length ++ (b ++ noughts k))) ∧ Keeps w wr) (fun v _ => 252 - lenV v)
  case atStart => exact ⟨0, _, by omega, rfl, st, k4⟩
  case round =>
    obtain ⟨k, N, hk, hN, o5, k5⟩ := hrel
    obtain ⟨A5, c5, rfl, hc5, hc5', -, -⟩ := o5.form
    by_cases hlt : k < 240 - m
    · have hlt1 : (N : Int) < 252 := by omega
      have hS := k5.size
      go_wp2_with (first
        | (at_builtin; refine wpList_app _ rfl _ _ 34 rfl w.heap.size 5 i0 (.int .u8 0) 1 1 Tryz.underlying34 hi hz0 hz1 hz2 rfl (by decide) _ _ _ rfl (o5.keep (keeps_alloc _ _)) (wr.heap.size + 1) _ 1 1 [.int .u8 0] rfl rfl (At.new _ _ _ _ (by omega)) (fun u hu => by simp at hu; subst hu; rfl) (by unfold maxLen; omega) (by omega) (by simp; omega) ?_; intro v6 w6 o6 g6 b6))
      have k6 : Keeps w w6 := Below.grown (keeps_trans k5 (keeps_alloc wr _)) g6 (by simp; omega) (fun g hg => (o5.lt g hg).1)
      have o7 : Own w6 w.heap.size 5 1 v6 (N + 1) (cel (headB t n b.length ++ (b ++ noughts (k + 1)))) := by
        rw [noughts_succ, ← List.append_assoc, ← List.append_assoc, cel_append]
        rw [← List.append_assoc] at o6
        exact o6
      obtain ⟨A6, c6, rfl, hc6, hc6', -, -⟩ := o7.form
      go_roundw
      case rel => exact ⟨k + 1, N + 1, by omega, by omega, o7, k6⟩
      case measure => simp [lenV]; omega
    · obtain rfl : k = 240 - m := by omega
      obtain rfl : N = 252 := by omega
      have e5 : headB t n b.length ++ (b ++ noughts (240 - m)) = bodyB t n b := by rw [HM.out]; rfl
      rw [e5] at o5
      have R := Lib.hid (refSum_any A5 252 c5 (bodyB t n b) wr (Own.at_ o5) hbody.symm (by decide))
      have hsum := extC_lt (s := 0) (by decide) (bodyB t n b)
      have PS := Lib.hid (refPut4 A5 252 c5 (bodyB t n b) (extC 0 (bodyB t n b)) wr (Own.at_ o5) hbody.symm (by omega) (by decide))
      clear hlt hk hN e5
      have hpg : bodyB t n b ++ nb 4 (extC 0 (bodyB t n b)) = pageB t n b := rfl
      rw [hpg] at PS
      generalize extC 0 (bodyB t n b) = x at *
      go_wp2_with (first
        | (go_at_call 144; refine R.out.mono ?_; rintro e w' ⟨rfl, rfl⟩)
        | (go_at_call 145; refine PS.out.mono ?_; rintro e w7 ⟨v7, rfl, o7, k7⟩))
      go_ret2
      exact ⟨v7, rfl, o7.base_le k5.size, keeps_trans k5 k7⟩

set_option maxHeartbeats 1600000 in
theorem refOpen_yes (t n : Nat) (ht : t < 4294967296) (hn : n < 4294967296) (A : Option Addr) (m c : Nat) (p : List UInt8) (w : World) (hB : Bs w A p) (hm : m = p.length) (hc : m ≤ c) (hp : IsPage p t n) :
    Calls Tryz.prog 96 #[.slice A m c, .int .u32 t, .int .u32 n] w (Gave w (saidB p)) := by
  obtain ⟨ad, rfl⟩ := hB.some_ (by rw [hp.1]; decide)
  obtain rfl : m = 256 := by rw [hm, hp.1]
  have hlen := saidB_length hp.1 hp.2.1
  have hle := hp.2.1
  have heq := hp.2.2
  have hl := hp.1
  have G := Lib.hid (refGet_yes (some ad) 256 c p 8 4 w hB hm (by decide) (by decide) (by decide))
  have hsub : Bs w (some ⟨ad.block, ad.off + 12, none⟩) (saidB p) := (hB.drop 12).take (numAt p 8 4)
  generalize numAt p 8 4 = s at *
  have C := Lib.hid (copyBytes_any (some ⟨ad.block, ad.off + 12, none⟩) s (c - 12) (saidB p) w hsub hlen.symm (by unfold maxLen; omega))
  have M := Lib.hid (fun A' c' W hB' => refMake_any t n ht hn A' s c' (saidB p) W hB' hlen.symm (by omega))
  rw [← heq] at M
  generalize saidB p = b at *
  clear hm hp heq
  go_enter Tryz.func96, Tryz.ntmps96
  go_wp2_with (first
    | (go_at_call 143; refine G.out.mono ?_; rintro e w' ⟨rfl, rfl⟩)
    | (go_at_call 48; refine C.out.mono ?_; rintro e w1 ⟨v1, rfl, o1, k1⟩; rw [hlen] at o1; obtain ⟨A1, c1, rfl, g1, g2, -, -⟩ := o1.form; have B1 := Own.at_ o1)
    | (go_at_call 98; refine (M.out A1 c1 w1 B1).mono ?_; rintro e w2 ⟨v2, rfl, o2, k2⟩; rw [hl] at o2; obtain ⟨A2, c2, rfl, g3, g4, -, -⟩ := o2.form; have B2 := Own.at_ o2)
    | (go_at_call 33; refine (eqBytes_one (some ad) 256 c p A2 256 c2 w2 (hB.keep (keeps_trans k1 k2)) hl.symm B2 hl.symm).mono ?_; rintro e w' ⟨rfl, rfl⟩))
  go_ret2
  exact ⟨_, rfl, by rw [hlen]; exact o1.keep k2, keeps_trans k1 k2⟩

set_option maxHeartbeats 1600000 in
theorem refOpen_no (t n : Nat) (ht : t < 4294967296) (hn : n < 4294967296) (A : Option Addr) (m c : Nat) (p : List UInt8) (w : World) (hB : Bs w A p) (hm : m = p.length) (hc : m ≤ c) (hmax : m ≤ 1000000) (hp : ¬ IsPage p t n) :
    Calls Tryz.prog 96 #[.slice A m c, .int .u32 t, .int .u32 n] w (Refused w 7) := by
  by_cases h256 : m = 256
  · subst h256
    obtain ⟨ad, rfl⟩ := hB.some_ (by omega)
    have G := Lib.hid (refGet_yes (some ad) 256 c p 8 4 w hB hm (by decide) (by decide) (by decide))
    have hs : numAt p 8 4 < 4294967296 := numAt_lt p 8 4
    by_cases hle : numAt p 8 4 ≤ 240
    · have hlen := saidB_length hm.symm hle
      have hne : ¬ p = pageB t n (saidB p) := fun e => hp ⟨hm.symm, hle, e⟩
      have hsub : Bs w (some ⟨ad.block, ad.off + 12, none⟩) (saidB p) := (hB.drop 12).take (numAt p 8 4)
      have hpl := pageB_length (b := saidB p) t n (by omega)
      generalize numAt p 8 4 = s at *
      have C := Lib.hid (copyBytes_any (some ⟨ad.block, ad.off + 12, none⟩) s (c - 12) (saidB p) w hsub hlen.symm (by unfold maxLen; omega))
      have M := Lib.hid (fun A' c' W hB' => refMake_any t n ht hn A' s c' (saidB p) W hB' hlen.symm (by omega))
      generalize saidB p = b at *
      have hdec : decide (p = pageB t n b) = false := decide_eq_false hne
      generalize pageB t n b = q at *
      have E := Lib.hid (fun A2 c2 w2 (k : Keeps w w2) (hB2 : Bs w2 A2 q) => eqBytes_any (some ad) 256 c p A2 256 c2 q w2 (hB.keep k) hm hB2 hpl.symm)
      rw [hdec] at E
      clear hm hp hne hdec
      go_enter Tryz.func96, Tryz.ntmps96
      go_wp2_with (first
        | (go_at_call 143; refine G.out.mono ?_; rintro e w' ⟨rfl, rfl⟩)
        | (go_at_call 48; refine C.out.mono ?_; rintro e w1 ⟨v1, rfl, o1, k1⟩; rw [hlen] at o1; obtain ⟨A1, c1, rfl, g1, g2, -, -⟩ := o1.form; have B1 := Own.at_ o1)
        | (go_at_call 98; refine (M.out A1 c1 w1 B1).mono ?_; rintro e w2 ⟨v2, rfl, o2, k2⟩; rw [hpl] at o2; obtain ⟨A2, c2, rfl, g3, g4, -, -⟩ := o2.form; have B2 := Own.at_ o2)
        | (go_at_call 33; refine (E.out A2 c2 w2 (keeps_trans k1 k2) B2).mono ?_; rintro e w' ⟨rfl, rfl⟩))
      go_ret2
      exact ⟨rfl, keeps_trans k1 k2⟩
    · have hgt : 240 < numAt p 8 4 := by omega
      generalize numAt p 8 4 = s at *
      clear hm hp hle
      go_enter Tryz.func96, Tryz.ntmps96
      go_wp2_with (first
        | (go_at_call 143; refine G.out.mono ?_; rintro e w' ⟨rfl, rfl⟩))
      go_ret2
      exact ⟨rfl, keeps_refl _⟩
  · have hne : ((m : Int) == 256) = false := by simp; omega
    clear hm hp
    go_enter Tryz.func96, Tryz.ntmps96
    go_wp2
    go_ret2
    exact ⟨rfl, keeps_refl _⟩

set_option maxHeartbeats 400000 in
theorem refTag_any (l : List UInt8) (w : World) (hl : l.length ≤ 1000000) : Calls Tryz.prog 97 #[.string (str l)] w fun e w' => e = .returned (.int .u32 (extC 0 l)) ∧ Keeps w w' := by
  have cv := convFrom w (str l)
  have o := bytesWorld_own w 5 l (by unfold maxLen; omega)
  have k := bytesWorld_keeps w 5 (str l)
  rw [← str_size l] at o
  have R := Lib.hid (refSum_any _ _ (grownCap w (str l).size 0 5) l _ (Own.at_ o) (str_size l) (by rw [str_size]; omega))
  generalize Lib.bytesWorld w 5 (str l) = w1 at *
  generalize grownCap w (str l).size 0 5 = cap at *
  generalize str l = x at *
  clear o
  go_enter Tryz.func97, Tryz.ntmps97
  go_wp2_with (first
    | (go_at_call 144; refine R.out.mono ?_; rintro e w' ⟨rfl, rfl⟩))
  go_ret
  exact ⟨rfl, k⟩
end Go.Proofs.YtamboappeahgpaaGreatDoor
