/- Package disk: how much room there is; which sectors become loose; Write. -/
import Derived.Test.YtmholhjdpkfleaaDoorQDkE
import Derived.Test.YtmholhjdpkfleaaDoorQIter
import Derived.Test.YtmholhjdpkfleaaDoorQDkA
import Derived.Shelf.Abstract
import Derived.Test.YtmholhjdpkfleaaDoorQDkC
import Derived.Test.YtmholhjdpkfleaaDoorQLaySt
import Derived.Sort.OwnSorted
import Derived.Sort.KeysCollected
namespace Go.Proofs.YtmholhjdpkfleaaDoor
open Go.RowKit Go.Shelf
set_option linter.unusedSimpArgs false
set_option linter.unusedVariables false
set_option maxRecDepth 100000

section
variable {w w' : World} {b : Nat} {F : Nat → Prop} {s : Ds}
def roomE (s : Ds) (len off count : Nat) : Nat := if len < off then 1 else if 16777216 < off + count then 9 else if sect len < sect (max len (off + count)) ∧ s.q < usedL s.l + (sect (max len (off + count)) - sect len) then 5 else 0
set_option maxHeartbeats 8000000 in
theorem checkRoom_any (h : Dk w b F s) {k : Nat} {v1 v2 : Value} {now lasts : List UInt8} {c : Nat → Prop} (hA : FileAt w c k v1 v2 now lasts) (hn : now.length ≤ 16777216) (off count : Nat) (ho : off ≤ 9223372036854775807) (hc : count ≤ 70000) :
    Calls Tryd.prog 84 #[.pointer (some ⟨b, 0, none⟩), .pointer (some ⟨k, 0, none⟩), .int .i64 (off : Int), .int .i64 (count : Int)] w fun e w' => e = .returned (.int .i64 (roomE s now.length off count : Int)) ∧ Keeps w w' := by
  obtain ⟨A, cap, rfl, hcap, hcm, -⟩ := hA.own1.form
  have c0 : w.cell? ⟨k, 0, none⟩ = some (.slice A now.length cap) := hA.box.cell 0 rfl
  have hkl := hA.lt
  obtain ⟨mf, ml, fb, col, hb, hx⟩ := h.at_
  have q2 : w.cell? ⟨b, 2, none⟩ = some (.int .i64 (s.q : Int)) := hb.cell 2 rfl
  have hbl := hb.lt
  have HQ := h.ok.q
  have HU := h.used
  have US := Lib.hid (fun (V : World) (kp : Keeps w V) => show Calls Tryd.prog 95 #[.pointer (some ⟨b, 0, none⟩)] V (fun e w' => e = .returned (.int .i64 (usedL s.l : Int)) ∧ Keeps V w') from used_any (h.keep kp))
  have QS := Lib.hid (fun (V : World) (kp : Keeps w V) => show V.cell? ⟨b, 2, none⟩ = some (.int .i64 (s.q : Int)) from kp.cellOf q2)
  clear hb hx hA hcm hcap h
  generalize hln : now.length = len at *
  clear hln
  by_cases h1 : len < off
  · have e : roomE s len off count = 1 := by unfold roomE; rw [if_pos h1]
    rw [e]
    have h1' : (len : Int) < (off : Int) := by omega
    clear e h1 HQ HU
    go_enter Tryd.func84, Tryd.ntmps84
    go_wp2_with fail
    go_ret
    exact ⟨rfl, keeps_refl _⟩
  · by_cases h2 : 16777216 < off + count
    · have e : roomE s len off count = 9 := by unfold roomE; rw [if_neg h1, if_pos h2]
      rw [e]
      have h1' : (off : Int) ≤ (len : Int) := by omega
      have h1b : (off : Int) ≤ 16777216 := by omega
      have h2' : (16777216 : Int) - (off : Int) < (count : Int) := by omega
      clear e h1 h2 HQ HU hn ho hc
      go_enter Tryd.func84, Tryd.ntmps84
      go_wp2_with fail
      go_ret
      exact ⟨rfl, keeps_refl _⟩
    · obtain ⟨sa, hsa⟩ : ∃ sa, sa = sect (off + count) := ⟨_, rfl⟩
      obtain ⟨sb, hsb⟩ : ∃ sb, sb = sect len := ⟨_, rfl⟩
      have e : roomE s len off count = if sb < sa ∧ s.q < usedL s.l + (sa - sb) then 5 else 0 := by
        unfold roomE
        rw [if_neg h1, if_neg h2]
        by_cases hm : off + count ≤ len
        · have := sect_le hm
          rw [Nat.max_eq_left hm, if_neg (by omega), if_neg (by omega)]
        · rw [Nat.max_eq_right (by omega), hsa, hsb]
      rw [e]
      have S1 := Lib.hid (sectorsOf_any (off + count) (by omega))
      have S2 := Lib.hid (sectorsOf_any len (by omega))
      rw [← hsa] at S1
      rw [← hsb] at S2
      have hsum : ((off + count : Nat) : Int) = (off : Int) + (count : Int) := by omega
      rw [hsum] at S1
      have b1 : (sa : Int) ≤ 262144 := by rw [hsa]; unfold sect; omega
      have b2 : (sb : Int) ≤ 262144 := by rw [hsb]; unfold sect; omega
      have h1' : (off : Int) ≤ (len : Int) := by omega
      have h1b : (off : Int) ≤ 16777216 := by omega
      have h2b : (count : Int) ≤ 70000 := by omega
      have h2' : (count : Int) ≤ (16777216 : Int) - (off : Int) := by omega
      obtain ⟨us, hus⟩ : ∃ us, us = usedL s.l := ⟨_, rfl⟩
      obtain ⟨qq, hqq⟩ : ∃ qq, qq = s.q := ⟨_, rfl⟩
      rw [← hus] at US HU ⊢
      rw [← hqq] at QS q2 HQ ⊢
      have b3 : (us : Int) ≤ 1048576 := by omega
      have b4 : (qq : Int) ≤ 1048576 := by omega
      clear e h1 h2 hn ho hc hsa hsb hsum hus hqq HQ HU
      by_cases h3 : sb < sa
      · have h3' : (0 : Int) < (sa : Int) - (sb : Int) := by omega
        have hdb : (sa : Int) - (sb : Int) ≤ 262144 := by omega
        have hw : IntKind.i64.wrap ((us : Int) + ((sa : Int) - (sb : Int))) = (us : Int) + ((sa : Int) - (sb : Int)) := by simp [IntKind.wrap, IntKind.bits, IntKind.signed]; omega
        by_cases h4 : qq < us + (sa - sb)
        · rw [if_pos ⟨h3, h4⟩]
          have h4' : (qq : Int) < (us : Int) + ((sa : Int) - (sb : Int)) := by omega
          clear h3 h4
          go_enter Tryd.func84, Tryd.ntmps84
          go_wp2_with fail
          go_quiet (first | (go_at_call_of 94 (Value.int .i64 ((off : Int) + (count : Int))); exact Calls.quiet_of_same ((S1.out _).mono fun _ _ h => ⟨h.1, h.2.symm⟩)) | (go_at_call_of 94 (Value.int .i64 (len : Int)); exact Calls.quiet_of_same ((S2.out _).mono fun _ _ h => ⟨h.1, h.2.symm⟩)))
          have k9 := keeps_drewN w nq
          have q9 := QS.out _ k9
          generalize w.drewN nq = wq at *
          have KQ := Lib.hid k9
          clear k9 q2 c0
          go_wp2_with fail
          generalize ((sa : Int) - (sb : Int)) = dd at *
          clear h1' h1b h2b h2' b1 b2
          go_region_held3 (fun V => V.cell? ⟨b, 2, none⟩ = some (.int .i64 (qq : Int)) ∧ Keeps w V) (first | exact ⟨QS.out _ (by first | assumption | exact KQ.out | exact keeps_trans KQ.out (keeps_drew _)), by first | assumption | exact KQ.out | exact keeps_trans KQ.out (keeps_drew _)⟩ | assumption) (first | (go_at_call 95; refine (US.out _ (by first | assumption | exact KQ.out | exact keeps_trans KQ.out (keeps_drew _))).mono ?_; rintro ee w1 ⟨rfl, hk1⟩; have hk2 := keeps_trans (keeps_trans KQ.out (keeps_drew _)) hk1))
          go_wp2_with fail
          go_ret
          exact ⟨rfl, by first | assumption | exact keeps_trans hk2 (keeps_drew _)⟩
        · rw [if_neg (fun h => h4 h.2)]
          have h4' : decide ((qq : Int) < (us : Int) + ((sa : Int) - (sb : Int))) = false := decide_eq_false (by omega)
          clear h3 h4
          go_enter Tryd.func84, Tryd.ntmps84
          go_wp2_with fail
          go_quiet (first | (go_at_call_of 94 (Value.int .i64 ((off : Int) + (count : Int))); exact Calls.quiet_of_same ((S1.out _).mono fun _ _ h => ⟨h.1, h.2.symm⟩)) | (go_at_call_of 94 (Value.int .i64 (len : Int)); exact Calls.quiet_of_same ((S2.out _).mono fun _ _ h => ⟨h.1, h.2.symm⟩)))
          have k9 := keeps_drewN w nq
          have q9 := QS.out _ k9
          generalize w.drewN nq = wq at *
          have KQ := Lib.hid k9
          clear k9 q2 c0
          go_wp2_with fail
          generalize ((sa : Int) - (sb : Int)) = dd at *
          clear h1' h1b h2b h2' b1 b2
          go_region_held3 (fun V => V.cell? ⟨b, 2, none⟩ = some (.int .i64 (qq : Int)) ∧ Keeps w V) (first | exact ⟨QS.out _ (by first | assumption | exact KQ.out | exact keeps_trans KQ.out (keeps_drew _)), by first | assumption | exact KQ.out | exact keeps_trans KQ.out (keeps_drew _)⟩ | assumption) (first | (go_at_call 95; refine (US.out _ (by first | assumption | exact KQ.out | exact keeps_trans KQ.out (keeps_drew _))).mono ?_; rintro ee w1 ⟨rfl, hk1⟩; have hk2 := keeps_trans (keeps_trans KQ.out (keeps_drew _)) hk1))
          go_wp2_with fail
          go_ret
          exact ⟨rfl, by first | assumption | exact keeps_trans hk2 (keeps_drew _)⟩
      · rw [if_neg (fun h => h3 h.1)]
        have h3' : decide (sb < sa) = false := decide_eq_false h3
        clear h3
        go_enter Tryd.func84, Tryd.ntmps84
        go_wp2_with fail
        go_quiet (first | (go_at_call_of 94 (Value.int .i64 ((off : Int) + (count : Int))); exact Calls.quiet_of_same ((S1.out _).mono fun _ _ h => ⟨h.1, h.2.symm⟩)) | (go_at_call_of 94 (Value.int .i64 (len : Int)); exact Calls.quiet_of_same ((S2.out _).mono fun _ _ h => ⟨h.1, h.2.symm⟩)))
        have k9 := keeps_drewN w nq
        generalize w.drewN nq = wq at *
        have KQ := Lib.hid k9
        clear k9 q2 c0
        go_wp2_with fail
        go_quiet (fail)
        go_wp2_with fail
        go_ret
        exact ⟨rfl, keeps_trans KQ.out (keeps_drewN _ _)⟩
end
end Go.Proofs.YtmholhjdpkfleaaDoor
/- Package disk: which sectors become loose; Write. -/
namespace Go.Proofs.YtmholhjdpkfleaaDoor
open Go.RowKit Go.Shelf
set_option linter.unusedSimpArgs false
set_option linter.unusedVariables false
set_option maxRecDepth 100000

section
variable {w w' : World} {b : Nat} {F : Nat → Prop} {s : Ds}
theorem putM_keys (l : List (Pl × Unit)) (k : Pl) (p : Pl) : p ∈ (putM l k ()).map Prod.fst ↔ p = k ∨ p ∈ l.map Prod.fst := by
  unfold putM delM
  rw [List.map_cons, List.mem_cons]
  constructor
  · rintro (h | h)
    · exact .inl h
    · obtain ⟨x, hx, rfl⟩ := List.mem_map.1 h
      exact .inr (List.mem_map.2 ⟨x, (List.mem_filter.1 hx).1, rfl⟩)
  · rintro (h | h)
    · exact .inl h
    · by_cases e : p = k
      · exact .inl e
      · obtain ⟨x, hx, rfl⟩ := List.mem_map.1 h
        exact .inr (List.mem_map.2 ⟨x, List.mem_filter.2 ⟨hx, decide_eq_true e⟩, rfl⟩)
set_option maxHeartbeats 8000000 in
theorem loosen_any {mf ml q armed : Nat} {off : Bool} (h : Box w b 86 (dkC mf ml q armed off)) {l2 : List (Pl × Unit)} (hm : LooseM w ml l2) (nm : List UInt8) (be n : Nat) (hb : be ≤ 16777216) (hn : n ≤ 70000) :
    Calls Tryd.prog 86 #[.pointer (some ⟨b, 0, none⟩), .string (str nm), .int .i64 (be : Int), .int .i64 ((be : Int) + (n : Int))] w fun e w' => e = .returned (.tuple #[]) ∧ ∃ l3, LooseM w' ml l3 ∧ (∀ p, p ∈ l3.map Prod.fst ↔ p ∈ l2.map Prod.fst ∨ (p.1 = nm ∧ 0 < n ∧ be / 64 ≤ p.2 ∧ p.2 ≤ (be + n - 1) / 64)) ∧ Only w w' (fun c => c = ml) := by
  have HB := Lib.hid h
  have HM := Lib.hid hm
  have HNE := Lib.hid (hm.ne h)
  have hbl := h.lt
  have hb2 : (be : Int) ≤ 16777216 := by omega
  have hn2 : (n : Int) ≤ 70000 := by omega
  have BN := Lib.hid (And.intro hb hn)
  obtain ⟨en, hen⟩ : ∃ en, en = be + n := ⟨_, rfl⟩
  have hei : (be : Int) + (n : Int) = (en : Int) := by omega
  have HE := Lib.hid hen
  have he2 : (en : Int) ≤ 16900000 := by omega
  rw [hei]
  clear h hm hb hn hen hei hn2 hb2
  go_enter Tryd.func86, Tryd.ntmps86
  go_wp2_with fail
  go_loopw [8, 9] (fun a _ wr => ∃ (at_ cur : Nat) (l3 : List (Pl × Unit)), a = .int .i64 (at_ : Int) ∧ at_ / 64 = cur ∧ be ≤ at_ ∧ at_ ≤ en + 64 ∧ (be / 64 < cur → at_ = 64 * cur ∧ 64 * (cur - 1) < en ∧ be < en) ∧ (cur = be / 64 → at_ = be) ∧ LooseM wr ml l3 ∧ (∀ p, p ∈ l3.map Prod.fst ↔ p ∈ l2.map Prod.fst ∨ (p.1 = nm ∧ be / 64 ≤ p.2 ∧ p.2 < cur)) ∧ Only w wr (fun c => c = ml)) (fun a _ _ => en + 64 - (intOf a).toNat)
  case atStart => exact ⟨be, be / 64, l2, rfl, rfl, Nat.le_refl _, by have := HE.out; omega, fun h => by omega, fun _ => rfl, HM.out, fun p => ⟨fun h => .inl h, fun h => by rcases h with h | h; exact h; omega⟩, Only.refl _ _⟩
  case round =>
    obtain ⟨at_, cur, l3, rfl, hc, hge, hle, hup, hst, hM3, hk3, hO3⟩ := hrel
    have HC := Lib.hid hc
    have HGE := Lib.hid hge
    have HUP := Lib.hid hup
    have HST := Lib.hid hst
    have HM3 := Lib.hid hM3
    have HK3 := Lib.hid hk3
    have HO3 := Lib.hid hO3
    have HLE := Lib.hid hle
    have ha2 : (at_ : Int) ≤ 16900100 := by omega
    have B3 : Box wr b 86 (dkC mf ml q armed off) := (hO3.block b HB.out.lt HNE.out).trans HB.out
    have c1 : wr.cell? ⟨b, 1, none⟩ = some (.map (some ml)) := B3.cell 1 rfl
    have hlb := B3.lt
    by_cases hlt : at_ < en
    · have hq : Int.tdiv (at_ : Int) 64 = (cur : Int) := by rw [Int.tdiv_eq_ediv_of_nonneg (by omega)]; omega
      have hcb : (cur : Int) ≤ 300000 := by omega
      have hli : (at_ : Int) < (en : Int) := by omega
      have HLT := Lib.hid hlt
      clear hc hge hup hst hM3 hk3 hO3 B3 hlt hle
      go_wp2_with (at_mapUpdate; refine wpList_putV _ rfl _ _ _ rfl looseT ml l3 rfl HM3.out (nm, cur) (by simp [Act.eval, plV, hq]) () rfl ?_; intro w2 hM2 hO2)
      have h1 := HC.out
      have h2 := HGE.out
      have h3 := HLT.out
      have h4 := HLE.out
      refine ⟨⟨64 * (cur + 1), cur + 1, _, by congr 1; omega, by omega, by omega, by omega, fun _ => ⟨rfl, by omega, by omega⟩, fun e => ?_, hM2, fun p => ?_, HO3.out.trans hO2 (fun i hi => .inl hi)⟩, ?_⟩
      · have := HUP.out
        have := HST.out
        omega
      · rw [putM_keys, HK3.out p]
        have h5 : be / 64 ≤ cur := by omega
        constructor
        · rintro (rfl | q | ⟨q1, q2, q3⟩)
          · exact .inr ⟨rfl, h5, by omega⟩
          · exact .inl q
          · exact .inr ⟨q1, q2, by omega⟩
        · rintro (q | ⟨q1, q2, q3⟩)
          · exact .inr (.inl q)
          · by_cases e : p.2 = cur
            · exact .inl (Prod.ext q1 e)
            · exact .inr (.inr ⟨q1, q2, by omega⟩)
      · have e1 : ((cur : Int) + 1) * 64 = ((64 * (cur + 1) : Nat) : Int) := by omega
        rw [e1]
        simp only [intOf, Int.toNat_natCast]
        omega
    · have HLT := Lib.hid hlt
      have hli : (en : Int) ≤ (at_ : Int) := by omega
      clear hc hge hup hst hM3 hk3 hO3 B3 hlt hle c1
      go_wp2_with fail
      go_returns
      refine ⟨rfl, l3, HM3.out, fun p => ?_, HO3.out⟩
      have h1 := HC.out
      have h2 := HGE.out
      have h3 := HUP.out
      have h4 := HST.out
      have h5 := HLT.out
      have h6 := HE.out
      rw [HK3.out p]
      constructor
      · rintro (h | ⟨q1, q2, q3⟩)
        · exact .inl h
        · have h7 := h3 (by omega)
          exact .inr ⟨q1, by omega, q2, by omega⟩
      · rintro (h | ⟨q1, q2, q3, q4⟩)
        · exact .inl h
        · refine .inr ⟨q1, q3, ?_⟩
          by_cases e : cur = be / 64
          · have := h4 e; omega
          · have := h3 (by omega); omega
end
end Go.Proofs.YtmholhjdpkfleaaDoor
/- Package disk: Write. -/
namespace Go.Proofs.YtmholhjdpkfleaaDoor
open Go.RowKit Go.Shelf
set_option linter.unusedSimpArgs false
set_option linter.unusedVariables false
set_option maxRecDepth 100000

section
variable {w w' : World} {b : Nat} {F : Nat → Prop} {s : Ds}
theorem writeS_room (s : Ds) (nm : List UInt8) (off : Nat) (l : List UInt8) {f : Fl} (ho : (goneS s).off = false) (hn : nameOk nm = true) (hg : getF s.l nm = some f) :
    writeS s nm (off : Int) l = if roomE s f.now.length off l.length = 0 then ({ goneS s with l := setF s.l (writeF f off l) }, 0) else (goneS s, roomE s f.now.length off l.length) := by
  unfold writeS roomE
  rw [ho, if_neg (by simp), if_neg (by rw [hn]; simp), hg]
  simp only [Int.toNat_natCast]
  by_cases h1 : f.now.length < off
  · simp [h1]
  · rw [if_neg h1, if_neg h1]
    by_cases h2 : 16777216 < off + l.length
    · simp [h2]
    · rw [if_neg h2, if_neg h2]
      by_cases h3 : sect f.now.length < sect (max f.now.length (off + l.length)) ∧ s.q < usedL s.l + (sect (max f.now.length (off + l.length)) - sect f.now.length)
      · rw [if_pos h3, if_pos h3]; simp
      · rw [if_neg h3, if_neg h3]; simp
theorem room_zero {s : Ds} {len off n : Nat} (h : roomE s len off n = 0) : off ≤ len ∧ off + n ≤ 16777216 ∧ ¬ (sect len < sect (max len (off + n)) ∧ s.q < usedL s.l + (sect (max len (off + n)) - sect len)) := by
  unfold roomE at h
  by_cases h1 : len < off
  · rw [if_pos h1] at h; cases h
  · rw [if_neg h1] at h
    by_cases h2 : 16777216 < off + n
    · rw [if_pos h2] at h; cases h
    · rw [if_neg h2] at h
      refine ⟨by omega, by omega, fun h3 => ?_⟩
      rw [if_pos h3] at h
      cases h
theorem room_val (s : Ds) (len off n : Nat) : roomE s len off n ≤ 9 := by
  unfold roomE
  split
  · decide
  · split
    · decide
    · split <;> decide
theorem Bs.turns {A : Option Addr} {l : List UInt8} {F' : Nat → Prop} (h : Bs w A l) (ht : Turns w w' F F') (hF : ∀ ad, A = some ad → ¬ F ad.block) : Bs w' A l := Turns.at_ ht h hF
set_option maxHeartbeats 16000000 in
theorem write_any (h : Dk w b F s) (nm : List UInt8) (off : Int) (A : Option Addr) (n c : Nat) (l : List UInt8) (hnm : nm.length ≤ maxLen) (h1 : -9223372036854775808 ≤ off) (h2 : off ≤ 9223372036854775807)
    (hB : Bs w A l) (hAF : ∀ ad, A = some ad → ¬ F ad.block) (hnl : n = l.length) (hnc : n ≤ c) (hn7 : n ≤ 70000) :
    Calls Tryd.prog 73 #[dpt b, strV nm, .int .i64 off, .slice A n c] w fun e w' => e = .returned (.int .i64 ((writeS s nm off l).2 : Int)) ∧ ∃ F', Dk w' b F' (writeS s nm off l).1 ∧ Turns w w' F F' := by
  show Calls _ _ #[.pointer (some ⟨b, 0, none⟩), .string (str nm), _, _] w _
  have BG := Lib.hid (begin_dk h)
  have TB := Lib.hid (fun (V : World) (hO : Only w V (fun c => c = b)) => h.turnsB hO)
  have GP := Lib.hid (gone_parts h)
  have HBS := Lib.hid hB
  have HAF := Lib.hid hAF
  have HNL := Lib.hid hnl
  have HNC := Lib.hid hnc
  have HN7 := Lib.hid hn7
  clear hB hAF hnl hnc hn7
  cases ho : (goneS s).off
  · rw [ho] at BG
    by_cases hneg : off < 0
    · have e : writeS s nm off l = (goneS s, 1) := by unfold writeS; rw [ho, if_neg (by simp), if_pos (.inr hneg)]
      rw [e]
      clear e h
      go_enter Tryd.func73, Tryd.ntmps73
      go_wp2_with (go_at_call 60; refine BG.out.mono ?_; rintro e w1 ⟨rfl, hD, hO⟩)
      go_ret
      exact ⟨rfl, F, hD, TB.out _ hO⟩
    · obtain ⟨o, rfl⟩ := Int.eq_ofNat_of_zero_le (show 0 ≤ off by omega)
      have hon : ¬ (o : Int) < 0 := by omega
      cases hn : nameOk nm
      · have e : writeS s nm (o : Int) l = (goneS s, 1) := by unfold writeS; rw [ho, if_neg (by simp), if_pos (.inl hn)]
        rw [e]
        clear e h
        go_enter Tryd.func73, Tryd.ntmps73
        go_wp2_with (first
          | (go_at_call 60; refine BG.out.mono ?_; rintro e w1 ⟨rfl, hD, hO⟩)
          | (go_at_call 44; obtain ⟨mf, ml, fb, col, hb, hx⟩ := hD.at_; refine (find_dk hb hx nm hnm).mono ?_; rw [foundV_bad hn]; rintro e w' ⟨rfl, rfl⟩))
        go_ret
        exact ⟨rfl, F, hD, TB.out _ hO⟩
      · cases hg : getF s.l nm with
        | none =>
          have e : writeS s nm (o : Int) l = (goneS s, 3) := by unfold writeS; rw [ho, if_neg (by simp), if_neg (by rw [hn]; simp), hg]
          rw [e]
          have hg2 : getF (goneS s).l nm = none := by rw [GP.out.1]; exact hg
          clear e h
          go_enter Tryd.func73, Tryd.ntmps73
          go_wp2_with (first
            | (go_at_call 60; refine BG.out.mono ?_; rintro e w1 ⟨rfl, hD, hO⟩)
            | (go_at_call 44; obtain ⟨mf, ml, fb, col, hb, hx⟩ := hD.at_; refine (find_dk hb hx nm hnm).mono ?_; rw [foundV_none hn hg2]; rintro e w' ⟨rfl, rfl⟩))
          go_ret
          exact ⟨rfl, F, hD, TB.out _ hO⟩
        | some f =>
          have hg2 : getF (goneS s).l nm = some f := by rw [GP.out.1]; exact hg
          have HFN := Lib.hid (getF_name hg)
          have e := writeS_room s nm o l ho hn hg
          have er : roomE (goneS s) f.now.length o l.length = roomE s f.now.length o l.length := by unfold roomE; rw [GP.out.1, GP.out.2.1]
          by_cases hr : roomE s f.now.length o l.length = 0
          · rw [if_pos hr] at e
            rw [e]
            rw [hr] at er
            obtain ⟨r1, r2, r3⟩ := room_zero er
            have ROOM := Lib.hid (And.intro r1 (And.intro r2 r3))
            rw [← GP.out.1]
            clear e h hr r1 r2 r3
            go_enter Tryd.func73, Tryd.ntmps73
            go_wp2_with (first
              | (go_at_call 60; refine BG.out.mono ?_; rintro e w1 ⟨rfl, hD, hO⟩)
              | (go_at_call 44; obtain ⟨mf, ml, fb, col, hb, hx⟩ := hD.at_; refine (find_dk hb hx nm hnm).mono ?_; rw [foundV_some hn hg2]; rintro e w' ⟨rfl, rfl⟩; obtain ⟨v1, v2, hA⟩ := hx.each f (getF_mem hg2); have hfo := hD.ok.files f (getF_mem hg2))
              | (go_at_call 84; refine (checkRoom_any hD hA hfo.size o n (by omega) HN7.out).mono ?_; rw [HNL.out, er]; rintro e w3 ⟨rfl, k3⟩))
            have hfm := getF_mem hg2
            have X3 := hx.keep k3
            have B3 : Box w3 b 86 (dkC mf ml (goneS s).q (goneS s).armed (goneS s).off) := hb.keep k3
            have T3 : Turns w w3 F F := (TB.out _ hO).trans (Turns.of_keeps k3)
            have PU := Lib.hid (put_any (hA.keep k3) o ROOM.out.1 hfo.size A l.length c l (HBS.out.turns T3 HAF.out) rfl (by rw [← HNL.out]; exact HNC.out) (by rw [← HNL.out]; exact HN7.out) (fun ad ea hh => HAF.out ad ea hh.1))
            have HX3 := Lib.hid X3
            have HB3 := Lib.hid B3
            have HT3 := Lib.hid T3
            have HD := Lib.hid hD
            have HFO := Lib.hid hfo
            have HFM := Lib.hid hfm
            have hol : (o : Int) ≤ 16777216 := by have := ROOM.out.1; have := hfo.size; omega
            have hll : (l.length : Int) ≤ 70000 := by have := HN7.out; have := HNL.out; omega
            have HOL := Lib.hid (And.intro hol hll)
            clear hb hx hA hD hfo hfm X3 B3 T3 k3 hO
            go_wp2_with (go_at_call 85; refine PU.out.mono ?_; rintro e w4 ⟨rfl, u1, F4, O4⟩)
            have X4 := HX3.out.turn (f' := { f with now := layB f.now o l }) HFM.out rfl (fun _ => rfl) O4 F4
            have T4 : Turns w w4 F (more w3 w4 F) := HT3.out.trans (turns_more O4 (fun i hi => hi.1))
            have B4 : Box w4 b 86 (dkC mf ml (goneS s).q (goneS s).armed (goneS s).off) := HX3.out.box HB3.out O4
            obtain ⟨l4, hm4, hmem⟩ := X4.loose
            have LO := Lib.hid (loosen_any B4 hm4 nm o l.length (by have := HOL.out; omega) (by have := HOL.out; omega))
            have FIN := Lib.hid (show ∀ w5 l3, LooseM w5 ml l3 → (∀ p, p ∈ l3.map Prod.fst ↔ p ∈ l4.map Prod.fst ∨ (p.1 = nm ∧ 0 < l.length ∧ o / 64 ≤ p.2 ∧ p.2 ≤ (o + l.length - 1) / 64)) → Only w4 w5 (fun c => c = ml) → Dk w5 b (more w3 w4 F) { goneS s with l := setF (goneS s).l (writeF f o l) } ∧ Turns w w5 F (more w3 w4 F) from fun w5 l3 hL5 hk5 hO5 => by
              have X5 := X4.remark (f2 := writeF f o l) rfl rfl rfl ⟨l3, hL5, fun p => by
                rw [hk5 p, hmem p, looseIn_set (f := f) (f' := { f with now := layB f.now o l }) HX3.out.nodup HFM.out rfl (fun _ => rfl) p, looseIn_set2 (f := f) (f' := writeF f o l) HX3.out.nodup HFM.out rfl p]
                have hwl : (writeF f o l).loose p.2 = true ↔ (f.loose p.2 = true ∨ (0 < l.length ∧ o / 64 ≤ p.2 ∧ p.2 ≤ (o + l.length - 1) / 64)) := by
                  show (f.loose p.2 || (decide (0 < l.length) && decide (o / 64 ≤ p.2) && decide (p.2 ≤ (o + l.length - 1) / 64))) = true ↔ _
                  simp only [Bool.or_eq_true, Bool.and_eq_true, decide_eq_true_eq, and_assoc]
                rw [hwl, HFN.out]
                constructor
                · rintro (h1 | ⟨h1, h2⟩)
                  · by_cases e : p.1 = nm
                    · exact .inr ⟨e, .inl ((looseIn_one HX3.out.nodup HFM.out (p := p) (by rw [HFN.out]; exact e)).1 h1)⟩
                    · exact .inl ⟨e, h1⟩
                  · exact .inr ⟨h1, .inr h2⟩
                · rintro (⟨h1, h2⟩ | ⟨h1, h2 | h2⟩)
                  · exact .inl h2
                  · exact .inl ((looseIn_one HX3.out.nodup HFM.out (p := p) (by rw [HFN.out]; exact h1)).2 h2)
                  · exact .inr ⟨h1, h2⟩⟩ (hO5.weak fun i hi => .inl hi)
              have hne : b ≠ ml := hm4.ne B4
              have hlw : (writeF f o l).now.length = max f.now.length (o + l.length) := layB_length f.now o l ROOM.out.1
              refine ⟨HD.out.make (HD.out.lok.set (f := f) (f' := writeF f o l) (by show getF _ f.name = _; rw [HFN.out]; exact hg2) (HFO.out.write ROOM.out.1 ROOM.out.2.1) (by
                rw [hlw]
                have h1 := HD.out.used
                have h2 := ROOM.out.2.2
                have h3 := HD.out.ok.q
                have h4 := sect_le (show f.now.length ≤ max f.now.length (o + l.length) by omega)
                omega)) ⟨mf, ml, fb, _, (hO5.block b B4.lt hne).trans B4, X5⟩, ⟨T4.only.trans hO5 (fun i hi => .inl (by rw [hi]; exact HX3.out.nl.1)), T4.next⟩⟩)
            clear F4 O4 X4 T4 B4 hm4 hmem
            go_wp2_with (go_at_call 86; refine LO.out.mono ?_; rintro e w5 ⟨rfl, l3, hL5, hk5, hO5⟩)
            have FF := FIN.out w5 l3 hL5 hk5 hO5
            go_ret
            exact ⟨rfl, _, FF.1, FF.2⟩
          · rw [if_neg hr] at e
            rw [e]
            have hr9 := room_val s f.now.length o l.length
            rw [← er] at hr hr9 ⊢
            clear e h
            generalize hrr : roomE (goneS s) f.now.length o l.length = rr at *
            have hri : ((rr : Int) == 0) = false := by rw [beq_eq_false_iff_ne]; omega
            have hri2 : ((rr : Int) != 0) = true := by rw [bne_iff_ne]; omega
            go_enter Tryd.func73, Tryd.ntmps73
            go_wp2_with (first
              | (go_at_call 60; refine BG.out.mono ?_; rintro e w1 ⟨rfl, hD, hO⟩)
              | (go_at_call 44; obtain ⟨mf, ml, fb, col, hb, hx⟩ := hD.at_; refine (find_dk hb hx nm hnm).mono ?_; rw [foundV_some hn hg2]; rintro e w' ⟨rfl, rfl⟩; obtain ⟨v1, v2, hA⟩ := hx.each f (getF_mem hg2); have hfo := hD.ok.files f (getF_mem hg2))
              | (go_at_call 84; refine (checkRoom_any hD hA hfo.size o n (by omega) HN7.out).mono ?_; rw [HNL.out, hrr]; rintro e w3 ⟨rfl, k3⟩))
            go_ret
            exact ⟨by rw [er]; rfl, F, hD.keep k3, (TB.out _ hO).trans (Turns.of_keeps k3)⟩
  · rw [ho] at BG
    have e : writeS s nm off l = (goneS s, 6) := by unfold writeS; rw [ho]; simp
    rw [e]
    clear e h
    go_enter Tryd.func73, Tryd.ntmps73
    go_wp2_with (go_at_call 60; refine BG.out.mono ?_; rintro e w1 ⟨rfl, hD, hO⟩)
    go_ret
    exact ⟨rfl, F, hD, TB.out _ hO⟩
end
end Go.Proofs.YtmholhjdpkfleaaDoor
/- Package disk: Flip. -/
namespace Go.Proofs.YtmholhjdpkfleaaDoor
open Go.RowKit Go.Shelf
set_option linter.unusedSimpArgs false
set_option linter.unusedVariables false
set_option maxRecDepth 100000

section
variable {w w' : World} {b : Nat} {F : Nat → Prop} {s : Ds}
theorem FileAt.row1 {c : Nat → Prop} {k : Nat} {v1 v2 : Value} {now lasts now' : List UInt8} (h : FileAt w c k v1 v2 now lasts) (hg : w.grownBy w' v1.ownBlock) (ho : Own w' 0 5 1 v1 now'.length (cel now')) :
    FileAt w' c k v1 v2 now' lasts ∧ Only w w' c := by
  have hne2 : v2.ownBlock = none ∨ v2.ownBlock ≠ v1.ownBlock := by
    rcases h.ne with e | e
    · cases h2 : v2.ownBlock with
      | none => exact .inl rfl
      | some g => right; rw [e]; simp
    · exact .inr (fun q => e q.symm)
  exact ⟨⟨(hg.block k h.box.lt (fun e => h.own1.not_box h.box file_ne e.symm)).trans h.box, ho, h.own2.grown hg hne2, h.me, h.in1, h.in2, h.ne⟩, ⟨hg.os, hg.tape, hg.output, hg.size, fun i hi hn => hg.block i hi (fun e => hn (h.in1 i e.symm))⟩⟩
theorem grownBy_cell (W : World) (g i : Nat) (v : Value) : W.grownBy (W.setCell ⟨g, i, none⟩ v) (some g) :=
  ⟨rfl, rfl, rfl, by simp, fun k _ hk => Below.heap_setCell _ ⟨g, i, none⟩ _ k (fun e => hk (by rw [e]))⟩
theorem cel_flip (l : List UInt8) (i : Nat) (m : UInt8) : (cel l).set i (.int .u8 ((l.getD i 0 ^^^ m).toNat : Int)) = cel (flipB l i m) := by
  unfold flipB cel
  rw [List.map_set]
theorem flip_far (l : List UInt8) (i : Nat) (m : UInt8) (h : l.length ≤ i) : flipB l i m = l := by
  unfold flipB
  rw [List.set_eq_of_length_le h]
theorem DkX.flip {l : List Fl} {mf ml : Nat} {fb : List UInt8 → Nat} {col : Nat → Option (List UInt8)} (h : DkX w b F l mf ml fb col) {f f' : Fl} (hf : f ∈ l) (hn : f'.name = f.name) (hl : ∀ k, f'.loose k = f.loose k) {v1 v2 : Value} (hO : Only w w' (DkX.own F col f.name)) (hA : FileAt w' (DkX.own F col f.name) (fb f.name) v1 v2 f'.now f'.lasts) :
    ∃ F', DkX w' b F' (setF l f') mf ml fb (paint w col f.name) ∧ Turns w w' F F' :=
  ⟨_, h.turn hf hn hl hO (hA.wide fun i hi => .inl hi), turns_more hO (fun i hi => hi.1)⟩
set_option maxHeartbeats 16000000 in
theorem flip_any (h : Dk w b F s) (nm : List UInt8) (i : Int) (m : UInt8) (hnm : nm.length ≤ maxLen) (h1 : -9223372036854775808 ≤ i) (h2 : i ≤ 9223372036854775807) :
    Calls Tryd.prog 25 #[dpt b, strV nm, .int .i64 i, .int .u8 (m.toNat : Int)] w fun e w' => e = .returned (.int .i64 ((flipS s nm i m).2 : Int)) ∧ ∃ F', Dk w' b F' (flipS s nm i m).1 ∧ Turns w w' F F' := by
  show Calls _ _ #[.pointer (some ⟨b, 0, none⟩), .string (str nm), _, _] w _
  have H := Lib.hid h
  have P := Lib.hid (power_dk h)
  obtain ⟨mf, ml, fb, col, hb, hx⟩ := h.at_
  have FD := Lib.hid (find_dk hb hx nm hnm)
  cases ho : s.off
  · rw [ho] at P
    by_cases hm : m = 0
    · have e : flipS s nm i m = (s, 1) := by unfold flipS; rw [ho, if_neg (by simp), if_pos (.inr (.inl hm))]
      rw [e]
      have hm0 : ((m.toNat : Int) == 0) = true := by rw [hm]; rfl
      clear e h hb hx FD hm
      generalize m.toNat = mm at *
      go_enter Tryd.func25, Tryd.ntmps25
      go_wp2_with (go_at_call 43; refine P.out.mono ?_; rintro e w' ⟨rfl, rfl⟩)
      go_ret
      exact ⟨rfl, F, H.out, Turns.refl _ _⟩
    · have hm0 : ((m.toNat : Int) == 0) = false := by
        rw [beq_eq_false_iff_ne]
        intro e
        exact hm (UInt8.toNat_inj.1 (by have : m.toNat = 0 := by omega
                                        rw [this]; rfl))
      by_cases hi : i < 0
      · have e : flipS s nm i m = (s, 1) := by unfold flipS; rw [ho, if_neg (by simp), if_pos (.inr (.inr hi))]
        rw [e]
        clear e h hb hx FD hm
        generalize m.toNat = mm at *
        go_enter Tryd.func25, Tryd.ntmps25
        go_wp2_with (go_at_call 43; refine P.out.mono ?_; rintro e w' ⟨rfl, rfl⟩)
        go_ret
        exact ⟨rfl, F, H.out, Turns.refl _ _⟩
      · obtain ⟨j, rfl⟩ := Int.eq_ofNat_of_zero_le (show 0 ≤ i by omega)
        have hj0 : ¬ (j : Int) < 0 := by omega
        cases hn : nameOk nm
        · have e : flipS s nm (j : Int) m = (s, 1) := by unfold flipS; rw [ho, if_neg (by simp), if_pos (.inl hn)]
          rw [e]
          rw [foundV_bad hn] at FD
          clear e h hb hx hm
          generalize m.toNat = mm at *
          go_enter Tryd.func25, Tryd.ntmps25
          go_wp2_with (first
            | (go_at_call 43; refine P.out.mono ?_; rintro e w' ⟨rfl, rfl⟩)
            | (go_at_call 44; refine FD.out.mono ?_; rintro e w' ⟨rfl, rfl⟩))
          go_ret
          exact ⟨rfl, F, H.out, Turns.refl _ _⟩
        · have hnb : ¬ (nameOk nm = false ∨ m = 0 ∨ (j : Int) < 0) := by rw [hn]; simp [hm]
          cases hg : getF s.l nm with
          | none =>
            have e : flipS s nm (j : Int) m = (s, 3) := by unfold flipS; rw [ho, if_neg (by simp), if_neg hnb, hg]
            rw [e]
            rw [foundV_none hn hg] at FD
            clear e h hb hx hm hnb
            generalize m.toNat = mm at *
            go_enter Tryd.func25, Tryd.ntmps25
            go_wp2_with (first
              | (go_at_call 43; refine P.out.mono ?_; rintro e w' ⟨rfl, rfl⟩)
              | (go_at_call 44; refine FD.out.mono ?_; rintro e w' ⟨rfl, rfl⟩))
            go_ret
            exact ⟨rfl, F, H.out, Turns.refl _ _⟩
          | some f =>
            rw [foundV_some hn hg] at FD
            have hfm := getF_mem hg
            have HFN := Lib.hid (getF_name hg)
            have hfo := h.ok.files f hfm
            obtain ⟨v1, v2, hA⟩ := hx.each f hfm
            have HA := Lib.hid hA
            obtain ⟨A, cap, rfl, hcap, hcm, -⟩ := hA.own1.form
            obtain ⟨A2, cap2, rfl, hcap2, hcm2, -⟩ := hA.own2.form
            have c0 : w.cell? ⟨fb f.name, 0, none⟩ = some (.slice A f.now.length cap) := hA.box.cell 0 rfl
            have c1 : w.cell? ⟨fb f.name, 1, none⟩ = some (.slice A2 f.lasts.length cap2) := hA.box.cell 1 rfl
            by_cases hlen : f.now.length ≤ j
            · have e : flipS s nm (j : Int) m = (s, 1) := by unfold flipS; rw [ho, if_neg (by simp), if_neg hnb, hg]; simp [hlen]
              rw [e]
              have hji : (f.now.length : Int) ≤ (j : Int) := by omega
              clear e h hb hx hm hnb hA hcap hcm hcap2 hcm2 hfo hlen
              generalize m.toNat = mm at *
              go_enter Tryd.func25, Tryd.ntmps25
              go_wp2_with (first
                | (go_at_call 43; refine P.out.mono ?_; rintro e w' ⟨rfl, rfl⟩)
                | (go_at_call 44; refine FD.out.mono ?_; rintro e w' ⟨rfl, rfl⟩))
              go_ret
              exact ⟨rfl, F, H.out, Turns.refl _ _⟩
            · have e : flipS s nm (j : Int) m = ({ s with l := setF s.l (flipF f j m) }, 0) := by unfold flipS; rw [ho, if_neg (by simp), if_neg hnb, hg]; simp [hlen]
              rw [e]
              have hjl : j < f.now.length := by omega
              have hji : (j : Int) < (f.now.length : Int) := by omega
              obtain ⟨g, rfl, ca, fa, -⟩ := hA.own1.cell (j := j) (by rw [cel_length]; exact hjl)
              rw [cel_get f.now hjl] at ca
              have hx1 := u8_xor_nat (f.now.getD j 0).toNat m.toNat (UInt8.toNat_lt _) (UInt8.toNat_lt _)
              rw [← UInt8.toNat_xor] at hx1
              have st1 := hA.own1.store (j := j) (by rw [cel_length]; exact hjl) (.int .u8 ((f.now.getD j 0 ^^^ m).toNat : Int))
              rw [cel_flip] at st1
              have R1 := hA.row1 (w' := w.setCell ⟨g, j, none⟩ (.int .u8 ((f.now.getD j 0 ^^^ m).toNat : Int))) (now' := flipB f.now j m) (grownBy_cell w g j _) (by rw [flipB_len]; exact st1)
              have D0 : ∀ {W : World} {lasts' : List UInt8} {u1 u2 : Value}, FileAt W (DkX.own F col f.name) (fb f.name) u1 u2 (flipB f.now j m) lasts' → lasts' = flipB f.lasts j m → Only w W (DkX.own F col f.name) → ∃ F', Dk W b F' { s with l := setF s.l (flipF f j m) } ∧ Turns w W F F' := fun {W lasts' u1 u2} hF he hO => by
                subst he
                obtain ⟨F', X', T'⟩ := hx.flip (f' := flipF f j m) hfm rfl (fun _ => rfl) hO hF
                exact ⟨F', h.make (h.lok.set (f := f) (f' := flipF f j m) (by show getF _ f.name = _; rw [HFN.out]; exact hg) (hfo.flip j m) (by show usedL s.l + sect (flipB f.now j m).length ≤ _; rw [flipB_len]; have := h.used; omega)) ⟨mf, ml, fb, _, hx.box hb hO, X'⟩, T'⟩
              by_cases hl2 : j < f.lasts.length
              · have hli : (j : Int) < (f.lasts.length : Int) := by omega
                obtain ⟨g2, rfl, cb, fb2, -⟩ := R1.1.own2.cell (j := j) (by rw [cel_length]; exact hl2)
                rw [cel_get f.lasts hl2] at cb
                have hx2 := u8_xor_nat (f.lasts.getD j 0).toNat m.toNat (UInt8.toNat_lt _) (UInt8.toNat_lt _)
                rw [← UInt8.toNat_xor] at hx2
                have st2 := R1.1.own2.store (j := j) (by rw [cel_length]; exact hl2) (.int .u8 ((f.lasts.getD j 0 ^^^ m).toNat : Int))
                rw [cel_flip] at st2
                have R2 := R1.1.row2 (w' := (w.setCell ⟨g, j, none⟩ (.int .u8 ((f.now.getD j 0 ^^^ m).toNat : Int))).setCell ⟨g2, j, none⟩ (.int .u8 ((f.lasts.getD j 0 ^^^ m).toNat : Int))) (lasts' := flipB f.lasts j m) (grownBy_cell _ g2 j _) (by rw [flipB_len]; exact st2)
                have c2 : (w.setCell ⟨g, j, none⟩ (.int .u8 ((f.now.getD j 0 ^^^ m).toNat : Int))).cell? ⟨fb f.name, 1, none⟩ = some (.slice (some ⟨g2, 0, none⟩) f.lasts.length cap2) := R1.1.box.cell 1 rfl
                have FIN := Lib.hid (D0 R2.1 rfl (R1.2.trans R2.2 (fun _ h => .inl h)))
                clear e h hb hx hm hnb hA hcap hcm hcap2 hcm2 hfo hlen st1 st2 R1 R2 D0
                generalize m.toNat = mm at *
                generalize (f.now.getD j 0 ^^^ m).toNat = y1 at *
                generalize (f.lasts.getD j 0 ^^^ m).toNat = y2 at *
                generalize (f.now.getD j 0).toNat = x1 at *
                generalize (f.lasts.getD j 0).toNat = x2 at *
                go_enter Tryd.func25, Tryd.ntmps25
                go_wp2_with (first
                  | (go_at_call 43; refine P.out.mono ?_; rintro e w' ⟨rfl, rfl⟩)
                  | (go_at_call 44; refine FD.out.mono ?_; rintro e w' ⟨rfl, rfl⟩))
                go_ret
                exact ⟨rfl, FIN.out⟩
              · have hli : (f.lasts.length : Int) ≤ (j : Int) := by omega
                have c2 : (w.setCell ⟨g, j, none⟩ (.int .u8 ((f.now.getD j 0 ^^^ m).toNat : Int))).cell? ⟨fb f.name, 1, none⟩ = some (.slice A2 f.lasts.length cap2) := R1.1.box.cell 1 rfl
                have FIN := Lib.hid (D0 R1.1 (flip_far f.lasts j m (by omega)).symm R1.2)
                clear e h hb hx hm hnb hA hcap hcm hcap2 hcm2 hfo hlen st1 R1 D0 hl2
                generalize m.toNat = mm at *
                generalize (f.now.getD j 0 ^^^ m).toNat = y1 at *
                generalize (f.now.getD j 0).toNat = x1 at *
                go_enter Tryd.func25, Tryd.ntmps25
                go_wp2_with (first
                  | (go_at_call 43; refine P.out.mono ?_; rintro e w' ⟨rfl, rfl⟩)
                  | (go_at_call 44; refine FD.out.mono ?_; rintro e w' ⟨rfl, rfl⟩))
                go_ret
                exact ⟨rfl, FIN.out⟩
  · rw [ho] at P
    have e : flipS s nm i m = (s, 6) := by unfold flipS; rw [ho]; simp
    rw [e]
    clear e h hb hx FD
    generalize m.toNat = mm at *
    go_enter Tryd.func25, Tryd.ntmps25
    go_wp2_with (go_at_call 43; refine P.out.mono ?_; rintro e w' ⟨rfl, rfl⟩)
    go_ret
    exact ⟨rfl, F, H.out, Turns.refl _ _⟩
end
end Go.Proofs.YtmholhjdpkfleaaDoor
/- maps.Keys and slices.Collect at a map whose keys are strings: what comes is each key once, in some order. -/
namespace Go.Proofs.YtmholhjdpkfleaaDoor
open Go.RowKit Go.Shelf
set_option linter.unusedSimpArgs false
set_option linter.unusedVariables false
set_option maxRecDepth 100000

def encS (x : List UInt8) : Value := (.string (str x))
def celS (x : List UInt8) : List Value := [.string (str x)]
theorem infoS : (Tryd.prog.info? 9).map (fun i => (i.zero, i.size, i.bytes)) = some (some (.string ⟨#[]⟩), 1, 16) := by kernel_rfl
theorem own_mapS {W W' : World} {b : Nat} {es : List ((List UInt8) × Nat)} (h : MapW strW dpt W b es) (k : Below W.heap.size W W') : MapW strW dpt W' b es := h.keep k

/-! ### slices.AppendSeq(nil, seq) -/
def apAS : Code := Code.region 2 #[{ dst := some 5, op := Op.assign (Operand.tmp 7), type := 9, pos := "iter.go:51", after := #[], guard := none }] false
end Go.Proofs.YtmholhjdpkfleaaDoor
/- Package disk: the names of all files. -/
namespace Go.Proofs.YtmholhjdpkfleaaDoor
open Go.RowKit Go.Sort
set_option linter.unusedSimpArgs false
set_option linter.unusedVariables false
set_option maxRecDepth 100000

theorem celS_enc (ss : List (List UInt8)) : ss.flatMap celS = ss.map encStr := by
  induction ss with
  | nil => rfl
  | cons a ss ih =>
    rw [List.flatMap_cons, ih]
    rfl
/-- names that rise, in whatever order they came, sorted -/
theorem sort_names {ss : List (List UInt8)} {l : List Fl} (hp : ss.Perm (l.map (·.name))) (hl : l.Pairwise fun f g => f.name < g.name) : ss.mergeSort leB = l.map (·.name) := by
  rw [mergeSort_of_perm hp]
  apply List.mergeSort_of_pairwise
  rw [List.pairwise_map]
  exact hl.imp fun {a b} hab => by
    unfold leB
    exact decide_eq_true (List.le_of_lt hab)
end Go.Proofs.YtmholhjdpkfleaaDoor
/- Package disk: Files. -/
namespace Go.Proofs.YtmholhjdpkfleaaDoor
open Go.RowKit Go.Shelf
set_option linter.unusedSimpArgs false
set_option linter.unusedVariables false
set_option maxRecDepth 100000

theorem at_new (w : World) (t : TypeId) (cs : Array Value) : At (w.alloc (.cells cs t)) (w.alloc (.cells cs t)).heap.size (some ⟨w.heap.size, 0, none⟩) cs.toList := by
  refine .inr ⟨_, rfl, by simp, fun j u hu => ?_⟩
  rw [Addr.add_lit]
  have := (Box.new w t cs).cell j (v := u) (by simpa using hu)
  simpa using this
def filC (L : List (List UInt8 × List UInt8)) (vs : List Value) : List Value := (L.zip vs).flatMap fun p => [strV p.1.1, p.2]
theorem filC_step (L : List (List UInt8 × List UInt8)) (vs : List Value) (x : Value) {j : Nat} (hv : vs.length = j) {p : List UInt8 × List UInt8} (hp : L[j]? = some p) : filC (L.take (j + 1)) (vs ++ [x]) = filC (L.take j) vs ++ [strV p.1, x] := by
  unfold filC
  rw [List.take_add_one, hp, Option.toList_some, List.zip_append (by rw [List.length_take, hv]; have := (List.getElem?_eq_some_iff.1 hp).1; omega), List.flatMap_append]
  rfl
section
variable {w w' : World} {b : Nat} {F : Nat → Prop} {s : Ds}
end
end Go.Proofs.YtmholhjdpkfleaaDoor
