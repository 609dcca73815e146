/- Package disk: which sectors become loose; Write. -/
import Derived.Test.YtpbkkbkpodcgnaaDkOps8
namespace Go.Proofs.Ytpbkkbkpodcgnaa
open Go.RowKit Go.Shelf
set_option linter.unusedSimpArgs false
set_option linter.unusedVariables false
set_option maxRecDepth 100000

section
variable {w w' : World} {b : Nat} {F : Nat → Prop} {s : Ds}
theorem putM_keys (l : List (Pl × Unit)) (k : Pl) (p : Pl) : p ∈ (putM l k ()).map Prod.fst ↔ p = k ∨ p ∈ l.map Prod.fst := by
  unfold putM delM
  rw [List.map_cons, List.mem_cons]
  constructor
  · rintro (h | h)
    · exact .inl h
    · obtain ⟨x, hx, rfl⟩ := List.mem_map.1 h
      exact .inr (List.mem_map.2 ⟨x, (List.mem_filter.1 hx).1, rfl⟩)
  · rintro (h | h)
    · exact .inl h
    · by_cases e : p = k
      · exact .inl e
      · obtain ⟨x, hx, rfl⟩ := List.mem_map.1 h
        exact .inr (List.mem_map.2 ⟨x, List.mem_filter.2 ⟨hx, decide_eq_true e⟩, rfl⟩)
set_option maxHeartbeats 8000000 in
theorem loosen_any {mf ml q armed : Nat} {off : Bool} (h : Box w b 83 (dkC mf ml q armed off)) {l2 : List (Pl × Unit)} (hm : LooseM w ml l2) (nm : List UInt8) (be n : Nat) (hb : be ≤ 16777216) (hn : n ≤ 70000) :
    Calls Try.prog 53 #[.pointer (some ⟨b, 0, none⟩), .string (str nm), .int .i64 (be : Int), .int .i64 ((be : Int) + (n : Int))] w fun e w' => e = .returned (.tuple #[]) ∧ ∃ l3, LooseM w' ml l3 ∧ (∀ p, p ∈ l3.map Prod.fst ↔ p ∈ l2.map Prod.fst ∨ (p.1 = nm ∧ 0 < n ∧ be / 64 ≤ p.2 ∧ p.2 ≤ (be + n - 1) / 64)) ∧ Only w w' (fun c => c = ml) := by
  have HB := Lib.hid h
  have HM := Lib.hid hm
  have HNE := Lib.hid (hm.ne h)
  have hbl := h.lt
  have hb2 : (be : Int) ≤ 16777216 := by omega
  have hn2 : (n : Int) ≤ 70000 := by omega
  have BN := Lib.hid (And.intro hb hn)
  obtain ⟨en, hen⟩ : ∃ en, en = be + n := ⟨_, rfl⟩
  have hei : (be : Int) + (n : Int) = (en : Int) := by omega
  have HE := Lib.hid hen
  have he2 : (en : Int) ≤ 16900000 := by omega
  rw [hei]
  clear h hm hb hn hen hei hn2 hb2
  go_enter Try.func53, Try.ntmps53
  go_wp2_with fail
  go_loopw [8, 9] (fun a _ wr => ∃ (at_ cur : Nat) (l3 : List (Pl × Unit)), a = .int .i64 (at_ : Int) ∧ at_ / 64 = cur ∧ be ≤ at_ ∧ at_ ≤ en + 64 ∧ (be / 64 < cur → at_ = 64 * cur ∧ 64 * (cur - 1) < en ∧ be < en) ∧ (cur = be / 64 → at_ = be) ∧ LooseM wr ml l3 ∧ (∀ p, p ∈ l3.map Prod.fst ↔ p ∈ l2.map Prod.fst ∨ (p.1 = nm ∧ be / 64 ≤ p.2 ∧ p.2 < cur)) ∧ Only w wr (fun c => c = ml)) (fun a _ _ => en + 64 - (intOf a).toNat)
  case atStart => exact ⟨be, be / 64, l2, rfl, rfl, Nat.le_refl _, by have := HE.out; omega, fun h => by omega, fun _ => rfl, HM.out, fun p => ⟨fun h => .inl h, fun h => by rcases h with h | h; exact h; omega⟩, Only.refl _ _⟩
  case round =>
    obtain ⟨at_, cur, l3, rfl, hc, hge, hle, hup, hst, hM3, hk3, hO3⟩ := hrel
    have HC := Lib.hid hc
    have HGE := Lib.hid hge
    have HUP := Lib.hid hup
    have HST := Lib.hid hst
    have HM3 := Lib.hid hM3
    have HK3 := Lib.hid hk3
    have HO3 := Lib.hid hO3
    have HLE := Lib.hid hle
    have ha2 : (at_ : Int) ≤ 16900100 := by omega
    have B3 : Box wr b 83 (dkC mf ml q armed off) := (hO3.block b HB.out.lt HNE.out).trans HB.out
    have c1 : wr.cell? ⟨b, 1, none⟩ = some (.map (some ml)) := B3.cell 1 rfl
    have hlb := B3.lt
    by_cases hlt : at_ < en
    · have hq : Int.tdiv (at_ : Int) 64 = (cur : Int) := by rw [Int.tdiv_eq_ediv_of_nonneg (by omega)]; omega
      have hcb : (cur : Int) ≤ 300000 := by omega
      have hli : (at_ : Int) < (en : Int) := by omega
      have HLT := Lib.hid hlt
      clear hc hge hup hst hM3 hk3 hO3 B3 hlt hle
      go_wp2_with (at_mapUpdate; refine wpList_putV _ rfl _ _ _ rfl looseT ml l3 rfl HM3.out (nm, cur) (by simp [Act.eval, plV, hq]) () rfl ?_; intro w2 hM2 hO2)
      have h1 := HC.out
      have h2 := HGE.out
      have h3 := HLT.out
      have h4 := HLE.out
      refine ⟨⟨64 * (cur + 1), cur + 1, _, by congr 1; omega, by omega, by omega, by omega, fun _ => ⟨rfl, by omega, by omega⟩, fun e => ?_, hM2, fun p => ?_, HO3.out.trans hO2 (fun i hi => .inl hi)⟩, ?_⟩
      · have := HUP.out
        have := HST.out
        omega
      · rw [putM_keys, HK3.out p]
        have h5 : be / 64 ≤ cur := by omega
        constructor
        · rintro (rfl | q | ⟨q1, q2, q3⟩)
          · exact .inr ⟨rfl, h5, by omega⟩
          · exact .inl q
          · exact .inr ⟨q1, q2, by omega⟩
        · rintro (q | ⟨q1, q2, q3⟩)
          · exact .inr (.inl q)
          · by_cases e : p.2 = cur
            · exact .inl (Prod.ext q1 e)
            · exact .inr (.inr ⟨q1, q2, by omega⟩)
      · have e1 : ((cur : Int) + 1) * 64 = ((64 * (cur + 1) : Nat) : Int) := by omega
        rw [e1]
        simp only [intOf, Int.toNat_natCast]
        omega
    · have HLT := Lib.hid hlt
      have hli : (en : Int) ≤ (at_ : Int) := by omega
      clear hc hge hup hst hM3 hk3 hO3 B3 hlt hle c1
      go_wp2_with fail
      go_returns
      refine ⟨rfl, l3, HM3.out, fun p => ?_, HO3.out⟩
      have h1 := HC.out
      have h2 := HGE.out
      have h3 := HUP.out
      have h4 := HST.out
      have h5 := HLT.out
      have h6 := HE.out
      rw [HK3.out p]
      constructor
      · rintro (h | ⟨q1, q2, q3⟩)
        · exact .inl h
        · have h7 := h3 (by omega)
          exact .inr ⟨q1, by omega, q2, by omega⟩
      · rintro (h | ⟨q1, q2, q3, q4⟩)
        · exact .inl h
        · refine .inr ⟨q1, q3, ?_⟩
          by_cases e : cur = be / 64
          · have := h4 e; omega
          · have := h3 (by omega); omega
end
end Go.Proofs.Ytpbkkbkpodcgnaa
