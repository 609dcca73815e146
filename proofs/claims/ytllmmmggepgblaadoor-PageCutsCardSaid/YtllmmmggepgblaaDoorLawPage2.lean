/- The walks of PageMakes and PageOpens. -/
import Derived.Test.YtllmmmggepgblaaDoorRefPage
namespace Go.Proofs.YtllmmmggepgblaaDoor
open Go.RowKit
set_option linter.unusedSimpArgs false
set_option linter.unusedVariables false
set_option maxRecDepth 100000

/-- bytes in new memory, and an error: either -/
def Res (w : World) (L : List UInt8) (k : Int) (e : Ending) (w' : World) : Prop :=
  ∃ A c, e = .returned (.tuple #[.slice A L.length c, .int .i64 k]) ∧ Own w' w.heap.size 5 1 (.slice A L.length c) L.length (cel L) ∧ L.length ≤ c ∧ c ≤ maxLen ∧ Keeps w w'
theorem Res.of_gave {w w' : World} {L : List UInt8} {e : Ending} (h : Gave w L e w') : Res w L 0 e w' := by
  obtain ⟨v, rfl, o, k⟩ := h
  obtain ⟨A, c, rfl, h1, h2, -, -⟩ := o.form
  exact ⟨A, c, rfl, o, h1, h2, k⟩
theorem Res.of_refused {w w' : World} {k : Int} {e : Ending} (h : Refused w k e w') : Res w [] k e w' := by
  obtain ⟨rfl, q⟩ := h
  exact ⟨none, 0, rfl, Own.nil _ _ _ _, Nat.le_refl _, Nat.zero_le _, q⟩
def makeL (t n : Nat) (b : List UInt8) : List UInt8 := if b.length ≤ 240 then pageB t n b else []
def makeK (b : List UInt8) : Int := if b.length ≤ 240 then 0 else 9
theorem makeL_le (t n : Nat) (b : List UInt8) : (makeL t n b).length ≤ 256 := by
  unfold makeL; split
  · rename_i h; rw [pageB_length t n h]; exact Nat.le_refl _
  · simp
instance (p : List UInt8) (t n : Nat) : Decidable (IsPage p t n) := by unfold IsPage; exact inferInstance
def openL (p : List UInt8) (t n : Nat) : List UInt8 := if IsPage p t n then saidB p else []
def openK (p : List UInt8) (t n : Nat) : Int := if IsPage p t n then 0 else 7
theorem openL_le (p : List UInt8) (t n : Nat) : (openL p t n).length ≤ 240 := by
  unfold openL; split
  · rename_i h; exact saidB_le h
  · simp

theorem make_res (K : PageOk) (t n : Nat) (ht : t < 4294967296) (hn : n < 4294967296) (A : Option Addr) (m c : Nat) (b : List UInt8) (w : World) (hS : Sizes w) (hB : Bs w A b) (hm : m = b.length) (hc : m ≤ c) (hc2 : c ≤ maxLen) :
    Calls Tryd.prog 12 #[.int .u32 t, .int .u32 n, .slice A m c] w (Res w (makeL t n b) (makeK b)) := by
  unfold makeL makeK
  by_cases h : b.length ≤ 240
  · rw [if_pos h, if_pos h]
    exact (K.make t n ht hn A m c b w hS hB hm hc hc2 h).mono fun _ _ => Res.of_gave
  · rw [if_neg h, if_neg h]
    exact (K.many t n A m c w (by omega) (by omega)).mono fun _ _ => Res.of_refused
theorem open_res (K : PageOk) (t n : Nat) (ht : t < 4294967296) (hn : n < 4294967296) (A : Option Addr) (m c : Nat) (p : List UInt8) (w : World) (hS : Sizes w) (hB : Bs w A p) (hm : m = p.length) (hc : m ≤ c) (hc2 : c ≤ maxLen) :
    Calls Tryd.prog 19 #[.slice A m c, .int .u32 t, .int .u32 n] w (Res w (openL p t n) (openK p t n)) := by
  unfold openL openK
  by_cases h : IsPage p t n
  · rw [if_pos h, if_pos h]
    exact (K.takes t n ht hn A m c p w hS hB hm hc hc2 h).mono fun _ _ => Res.of_gave
  · rw [if_neg h, if_neg h]
    exact (K.rot t n ht hn A m c p w hS hB hm hc hc2 h).mono fun _ _ => Res.of_refused
theorem refMake_res (t n : Nat) (ht : t < 4294967296) (hn : n < 4294967296) (A : Option Addr) (m c : Nat) (b : List UInt8) (w : World) (hB : Bs w A b) (hm : m = b.length) (hm2 : m ≤ maxLen) :
    Calls Tryd.prog 13 #[.int .u32 t, .int .u32 n, .slice A m c] w (Res w (makeL t n b) (makeK b)) := by
  unfold makeL makeK
  by_cases h : b.length ≤ 240
  · rw [if_pos h, if_pos h]
    exact (refMake_any t n ht hn A m c b w hB hm h).mono fun _ _ => Res.of_gave
  · rw [if_neg h, if_neg h]
    refine (refMake_many t n A m c w (by omega) hm2).mono fun e w' h => Res.of_refused ⟨h.1, ?_⟩
    rw [← h.2]; exact keeps_refl _
theorem refOpen_res (t n : Nat) (ht : t < 4294967296) (hn : n < 4294967296) (A : Option Addr) (m c : Nat) (p : List UInt8) (w : World) (hB : Bs w A p) (hm : m = p.length) (hc : m ≤ c) (hmax : m ≤ 1000000) :
    Calls Tryd.prog 20 #[.slice A m c, .int .u32 t, .int .u32 n] w (Res w (openL p t n) (openK p t n)) := by
  unfold openL openK
  by_cases h : IsPage p t n
  · rw [if_pos h, if_pos h]
    exact (refOpen_yes t n ht hn A m c p w hB hm hc h).mono fun _ _ => Res.of_gave
  · rw [if_neg h, if_neg h]
    exact (refOpen_no t n ht hn A m c p w hB hm hc hmax h).mono fun _ _ => Res.of_refused

set_option maxHeartbeats 2000000 in
theorem makes_walk (K : PageOk) (t n : Nat) (ht : t < 4294967296) (hn : n < 4294967296) (A : Option Addr) (m c : Nat) (b : List UInt8) (w : World) (hS : Sizes w) (hB : Bs w A b) (hm : m = b.length) (hc : m ≤ c) (hlen : m ≤ maxLen) :
    Calls Tryd.prog 3 #[.int .u32 t, .int .u32 n, .slice A m c] w (Yes7 w) := by
  unfold maxLen at hlen
  by_cases h : (65536 : Int) < m
  · have W := Lib.hid (works_page K w hS)
    clear hm hB
    go_enter Tryd.func3, Tryd.ntmps3
    go_wp2_with (go_at_call 10; refine W.out.mono ?_; rintro e w1 ⟨rfl, k1⟩)
    go_ret
    exact ⟨rfl, k1⟩
  · have hm' : m ≤ 65536 := by omega
    have R := Lib.hid (roomy_own A m c b w hB hm (by omega))
    have cvs := fun W (k : Keeps w W) => convTo W A b m c hm (hB.keep k)
    have T1 := Lib.hid (fun W => K.tag b W (by omega))
    have T2 := Lib.hid (fun W => refTag_any b W (by omega))
    have HN := Lib.hid hm
    clear hm
    go_enter Tryd.func3, Tryd.ntmps3
    go_wp2_with fail
    refine R.out.mono ?_
    rintro e w1 ⟨ad, cap, rfl, r, o⟩
    have k1 := r.kept
    have hin : Bs w1 (some ad) b := by have := r.bytes.take b.length; rwa [List.take_left] at this
    have hcap : m + 7 ≤ cap := by rw [HN.out]; exact r.fits
    have hcap' : m ≤ cap := by omega
    have hcapm : cap ≤ maxLen := r.max
    have RB := Lib.hid r.bytes
    have O := Lib.hid o
    rw [← HN.out]
    clear r o
    have MK := Lib.hid (fun W (k : Keeps w1 W) => make_res K t n ht hn (some ad) m cap b W (hS.keep (keeps_trans k1 k)) (hin.keep k) HN.out hcap' hcapm)
    have MR := Lib.hid (fun W (k : Keeps w W) => refMake_res t n ht hn A m c b W (hB.keep k) HN.out (by unfold maxLen; omega))
    have hLl : (makeL t n b).length ≤ 256 := makeL_le t n b
    generalize (makeL t n b) = p at *
    generalize (makeK b) = err at *
    go_wp2_with fail
    refine (MK.out w1 (keeps_refl _)).mono ?_
    rintro e w2 ⟨A2, c2, rfl, o2, hc2, hm2, q2⟩
    have O2 := Lib.hid o2
    clear o2
    go_wp2_with fail
    refine (MR.out w2 (keeps_trans k1 q2)).mono ?_
    rintro e w3 ⟨A3, c3, rfl, o3, hc3, hm3, q3⟩
    have B3 : Bs w3 A3 p := Own.at_ o3
    have B2 : Bs w3 A2 p := Own.at_ (O2.out.keep q3)
    have q13 := keeps_trans q2 q3
    clear o3
    go_wp2_with fail
    have EQ := Lib.hid (fun W (k : Keeps w3 W) => eqBytes_one A2 p.length c2 p A3 p.length c3 W (B2.keep k) rfl (B3.keep k) rfl)
    have KP := Lib.hid (fun W (k : Keeps w3 W) => kept_any ad m cap b A m c W (RB.out.keep (keeps_trans q13 k)) HN.out hcap (by omega) (hB.keep (keeps_trans k1 (keeps_trans q13 k))) HN.out)
    have CV := Lib.hid (fun W (k : Keeps w3 W) => cvs W (keeps_trans k1 (keeps_trans q13 k)))
    clear B2 B3 cvs
    go_region_held3 (fun V => (convert 23 9 (.slice A m c)).run Tryd.prog V = .ok (.string (str b)) V) (exact CV.out _ (by first | exact keeps_drew _ | assumption)) (first
      | (go_at_call 14; refine (EQ.out _ (keeps_drew _)).mono ?_; rintro e w4 ⟨rfl, rfl⟩; have k4 := keeps_drew w3; clear EQ)
      | (go_at_call 15; refine (KP.out _ k4).mono ?_; rintro e w5 ⟨rfl, k5⟩; replace k5 := keeps_trans k4 k5; clear KP)
      | (go_at_call 16; refine (T1.out _).mono ?_; rintro e w6 ⟨rfl, k6⟩; replace k6 := keeps_trans k5 k6; clear T1)
      | (go_at_call 17; refine (T2.out _).mono ?_; rintro e w7 ⟨rfl, k7⟩; replace k7 := keeps_trans k6 k7; clear T2))
    go_wp2_with fail
    have q17 := keeps_trans q13 k7
    refine (MK.out _ q17).mono ?_
    rintro e w8 ⟨A5, c5, rfl, oc, hc5, hm5, q8⟩
    have OC := Lib.hid oc
    clear oc
    have q18 := keeps_trans q17 q8
    go_wp2_with fail
    have q28 := keeps_trans q3 (keeps_trans k7 q8)
    have AH := Lib.hid (ahead3 (base := w.heap.size) ((O2.out.keep q28).base_le k1.size) (OC.out.base_le (keeps_trans k1 q17).size) ((show Own w1 w.heap.size 5 1 (.slice (some ad) m cap) b.length (cel b) by have := O.out; rwa [← HN.out] at this ⊢).keep q18) (keeps_trans k1 q18).size
      O2.out.lt OC.out.lt (show ∀ g, (Value.slice (some ad) m cap).ownBlock = some g → w.heap.size ≤ g ∧ g < w1.heap.size from fun g hg => O.out.lt g hg) (.inl (keeps_trans q3 k7).size) (.inr (Nat.le_refl _)) (.inr q17.size)
      (by omega) (by omega) (by rw [← HN.out]; omega))
    refine (apart_any (some ⟨w8.heap.size, 0, none⟩) 3 3 _ w.heap.size _ AH.out rfl (Nat.le_refl _)).mono ?_
    rintro e w9 ⟨rfl, only⟩
    have k9 : Keeps w w9 := Below.trans (keeps_trans (keeps_trans k1 q18) (keeps_alloc _ _)) (only.below (fun k ⟨j, p, hp, hk⟩ => ((AH.out.rows j p hp).lt k hk).1) AH.out.base)
    clear only AH
    go_wp2_with fail
    refine (works_page K w9 (hS.keep k9)).mono ?_
    rintro e w10 ⟨rfl, q10⟩
    go_wp2_with fail
    go_ret
    exact ⟨rfl, keeps_trans k9 q10⟩

set_option maxHeartbeats 2000000 in
theorem opens_walk (K : PageOk) (t n : Nat) (ht : t < 4294967296) (hn : n < 4294967296) (A : Option Addr) (m c : Nat) (b : List UInt8) (w : World) (hS : Sizes w) (hB : Bs w A b) (hm : m = b.length) (hc : m ≤ c) (hlen : m ≤ maxLen) :
    Calls Tryd.prog 4 #[.slice A m c, .int .u32 t, .int .u32 n] w (Yes7 w) := by
  unfold maxLen at hlen
  by_cases h : (65536 : Int) < m
  · have W := Lib.hid (works_page K w hS)
    clear hm hB
    go_enter Tryd.func4, Tryd.ntmps4
    go_wp2_with (go_at_call 10; refine W.out.mono ?_; rintro e w1 ⟨rfl, k1⟩)
    go_ret
    exact ⟨rfl, k1⟩
  · have hm' : m ≤ 65536 := by omega
    have R := Lib.hid (roomy_own A m c b w hB hm (by omega))
    have HN := Lib.hid hm
    clear hm
    go_enter Tryd.func4, Tryd.ntmps4
    go_wp2_with fail
    refine R.out.mono ?_
    rintro e w1 ⟨ad, cap, rfl, r, o⟩
    have k1 := r.kept
    have hin : Bs w1 (some ad) b := by have := r.bytes.take b.length; rwa [List.take_left] at this
    have hcap : m + 7 ≤ cap := by rw [HN.out]; exact r.fits
    have hcap' : m ≤ cap := by omega
    have hcapm : cap ≤ maxLen := r.max
    have RB := Lib.hid r.bytes
    have O := Lib.hid o
    rw [← HN.out]
    clear r o
    have MK := Lib.hid (fun W (k : Keeps w1 W) => open_res K t n ht hn (some ad) m cap b W (hS.keep (keeps_trans k1 k)) (hin.keep k) HN.out hcap' hcapm)
    have MR := Lib.hid (fun W (k : Keeps w W) => refOpen_res t n ht hn A m c b W (hB.keep k) HN.out hc (by omega))
    have hLl : (openL b t n).length ≤ 256 := (Nat.le_trans (openL_le b t n) (by decide))
    generalize (openL b t n) = p at *
    generalize (openK b t n) = err at *
    go_wp2_with fail
    refine (MK.out w1 (keeps_refl _)).mono ?_
    rintro e w2 ⟨A2, c2, rfl, o2, hc2, hm2, q2⟩
    have O2 := Lib.hid o2
    clear o2
    go_wp2_with fail
    refine (MR.out w2 (keeps_trans k1 q2)).mono ?_
    rintro e w3 ⟨A3, c3, rfl, o3, hc3, hm3, q3⟩
    have B3 : Bs w3 A3 p := Own.at_ o3
    have B2 : Bs w3 A2 p := Own.at_ (O2.out.keep q3)
    have q13 := keeps_trans q2 q3
    clear o3
    go_wp2_with fail
    have EQ := Lib.hid (fun W (k : Keeps w3 W) => eqBytes_one A2 p.length c2 p A3 p.length c3 W (B2.keep k) rfl (B3.keep k) rfl)
    have KP := Lib.hid (fun W (k : Keeps w3 W) => kept_any ad m cap b A m c W (RB.out.keep (keeps_trans q13 k)) HN.out hcap (by omega) (hB.keep (keeps_trans k1 (keeps_trans q13 k))) HN.out)
    clear B2 B3
    go_wp2_with fail
    refine (EQ.out _ (keeps_refl _)).mono ?_
    rintro e w4 ⟨rfl, rfl⟩
    go_wp2_with fail
    refine (KP.out _ (keeps_refl _)).mono ?_
    rintro e w7 ⟨rfl, k7⟩
    go_wp2_with fail
    have q17 := keeps_trans q13 k7
    refine (MK.out _ q17).mono ?_
    rintro e w8 ⟨A5, c5, rfl, oc, hc5, hm5, q8⟩
    have OC := Lib.hid oc
    clear oc
    have q18 := keeps_trans q17 q8
    go_wp2_with fail
    have q28 := keeps_trans q3 (keeps_trans k7 q8)
    have AH := Lib.hid (ahead3 (base := w.heap.size) ((O2.out.keep q28).base_le k1.size) (OC.out.base_le (keeps_trans k1 q17).size) ((show Own w1 w.heap.size 5 1 (.slice (some ad) m cap) b.length (cel b) by have := O.out; rwa [← HN.out] at this ⊢).keep q18) (keeps_trans k1 q18).size
      O2.out.lt OC.out.lt (show ∀ g, (Value.slice (some ad) m cap).ownBlock = some g → w.heap.size ≤ g ∧ g < w1.heap.size from fun g hg => O.out.lt g hg) (.inl (keeps_trans q3 k7).size) (.inr (Nat.le_refl _)) (.inr q17.size)
      (by omega) (by omega) (by rw [← HN.out]; omega))
    refine (apart_any (some ⟨w8.heap.size, 0, none⟩) 3 3 _ w.heap.size _ AH.out rfl (Nat.le_refl _)).mono ?_
    rintro e w9 ⟨rfl, only⟩
    have k9 : Keeps w w9 := Below.trans (keeps_trans (keeps_trans k1 q18) (keeps_alloc _ _)) (only.below (fun k ⟨j, p, hp, hk⟩ => ((AH.out.rows j p hp).lt k hk).1) AH.out.base)
    clear only AH
    go_wp2_with fail
    refine (works_page K w9 (hS.keep k9)).mono ?_
    rintro e w10 ⟨rfl, q10⟩
    go_wp2_with fail
    go_ret
    exact ⟨rfl, keeps_trans k9 q10⟩
end Go.Proofs.YtllmmmggepgblaaDoor
