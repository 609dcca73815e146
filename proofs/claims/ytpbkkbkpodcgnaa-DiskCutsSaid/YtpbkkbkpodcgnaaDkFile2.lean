/- Package disk: a file is cut; a sector lasts. -/
import Derived.Test.YtpbkkbkpodcgnaaDkFile
namespace Go.Proofs.Ytpbkkbkpodcgnaa
open Go.RowKit
set_option linter.unusedSimpArgs false
set_option linter.unusedVariables false
set_option maxRecDepth 100000

theorem cel_take_len (l : List UInt8) (m : Nat) (h : m ≤ l.length) : (cel l).take m = cel (l.take m) := by rw [cel_take]
theorem Own.cutB {w : World} {A : Option Addr} {cap : Nat} {l : List UInt8} (h : Own w 0 5 1 (.slice A l.length cap) l.length (cel l)) {m : Nat} (hm : m ≤ l.length) : Own w 0 5 1 (.slice A m cap) (l.take m).length (cel (l.take m)) := by
  have := h.cut1 hm
  rw [← cel_take] at this
  rw [List.length_take, Nat.min_eq_left hm]
  exact this
theorem own_block_len {A : Option Addr} {n m cap : Nat} : (Value.slice A n cap).ownBlock = (Value.slice A m cap).ownBlock := by
  cases A <;> rfl
theorem more_eq {w w1 w2 : World} {c : Nat → Prop} (h : w1.heap.size = w2.heap.size) : more w w1 c = more w w2 c := by
  funext g
  unfold more
  rw [h]
set_option maxHeartbeats 8000000 in
theorem cut_any {w : World} {c : Nat → Prop} {k : Nat} {v1 v2 : Value} {now lasts : List UInt8} (h : FileAt w c k v1 v2 now lasts) (size : Nat) (hs : size ≤ now.length) (hn : now.length ≤ 16777216) (hl : lasts.length ≤ 16777216) :
    Calls Try.prog 48 #[.pointer (some ⟨k, 0, none⟩), .int .i64 (size : Int)] w fun e w' => e = .returned (.tuple #[]) ∧ ∃ v1' v2', FileAt w' (more w w' c) k v1' v2' (now.take size) (lasts.take size) ∧ Only w w' c := by
  obtain ⟨A, cap, rfl, hcap, hcm, -⟩ := h.own1.form
  obtain ⟨A2, cap2, rfl, hcap2, hcm2, -⟩ := h.own2.form
  have c0 : w.cell? ⟨k, 0, none⟩ = some (.slice A now.length cap) := h.box.cell 0 rfl
  have c1 : w.cell? ⟨k, 1, none⟩ = some (.slice A2 lasts.length cap2) := h.box.cell 1 rfl
  have f0 := h.box.frozen 0
  obtain ⟨q, hq⟩ : ∃ q, q = min size lasts.length := ⟨_, rfl⟩
  have hmin : (if (lasts.length : Int) < (size : Int) then (lasts.length : Int) else (size : Int)) = (q : Int) := by split <;> omega
  have P1 := h.put1 (World.grownBy.refl w _) (h.own1.cutB hs) (.inl own_block_len)
  obtain ⟨F1, O1⟩ := P1
  have HT : lasts.take size = lasts.take q := by
    by_cases e : size ≤ lasts.length
    · rw [hq, Nat.min_eq_left e]
    · rw [hq, Nat.min_eq_right (by omega), List.take_length, List.take_of_length_le (by omega)]
  rw [HT]
  have P2 := F1.put2 (World.grownBy.refl _ _) (F1.own2.cutB (m := q) (by omega)) (.inl own_block_len)
  have q1 := F1.box.cell 1 rfl
  have q2 := F1.box.frozen 1
  have q3 : (w.setCell ⟨k, 0, none⟩ (.slice A size cap)).cell? ⟨k, 0, none⟩ = some (.slice A size cap) := F1.box.cell 0 rfl
  obtain ⟨F2, O2⟩ := P2
  have FIN := Lib.hid (show FileAt _ _ _ _ _ _ _ ∧ Only _ _ _ from ⟨F2.wide (d := more w ((w.setCell ⟨k, 0, none⟩ (.slice A size cap)).setCell ⟨k, 1, none⟩ (.slice A2 q cap2)) c) (fun i hi => by
    rcases hi with (hi | ⟨h1, h2⟩) | ⟨h1, h2⟩
    · exact .inl hi
    · simp at h2; omega
    · simp at h1 h2; omega), O1.trans O2 (fun i hi => by
    rcases hi with hi | ⟨h1, h2⟩
    · exact .inl hi
    · exact .inr h1)⟩)
  have hl1 := h.lt
  have s1 : (size : Int) ≤ (cap : Int) := by omega
  have s2 : (q : Int) ≤ (cap2 : Int) := by omega
  clear h F1 O1 HT F2 O2 hs hn hl hcap hcap2 hcm hcm2 hq
  go_enter Try.func48, Try.ntmps48
  go_wp2_with fail
  go_region
  go_wp2_with fail
  · go_returns
    obtain rfl : q = lasts.length := by omega
    exact ⟨rfl, ⟨_, _, FIN.out.1.keep (keeps_drew _)⟩, FIN.out.2.keep (keeps_drew _)⟩
  · go_returns
    obtain rfl : q = size := by omega
    exact ⟨rfl, ⟨_, _, FIN.out.1.keep (keeps_drew _)⟩, FIN.out.2.keep (keeps_drew _)⟩
/-! ### A sector lasts -/
/-- where a sector ends -/
def secE (now : List UInt8) (k : Nat) : Nat := min (64 * k + 64) now.length
/-- what lasts, no shorter than that -/
def padB (l : List UInt8) (e : Nat) : List UInt8 := l ++ List.replicate (e - l.length) 0
def keepB (lasts now : List UInt8) (k : Nat) : List UInt8 := (padB lasts (secE now k)).take (64 * k) ++ (now.take (secE now k)).drop (64 * k) ++ (padB lasts (secE now k)).drop (secE now k)
theorem FileAt.row2 {w w' : World} {c : Nat → Prop} {k : Nat} {v1 v2 : Value} {now lasts lasts' : List UInt8} (h : FileAt w c k v1 v2 now lasts) (hg : w.grownBy w' v2.ownBlock) (ho : Own w' 0 5 1 v2 lasts'.length (cel lasts')) :
    FileAt w' c k v1 v2 now lasts' ∧ Only w w' c :=
  ⟨⟨(hg.block k h.box.lt (fun e => h.own2.not_box h.box file_ne e.symm)).trans h.box, h.own1.grown hg h.ne, ho, h.me, h.in1, h.in2, h.ne⟩, ⟨hg.os, hg.tape, hg.output, hg.size, fun i hi hn => hg.block i hi (fun e => hn (h.in2 i e.symm))⟩⟩
theorem padB_length (l : List UInt8) (e : Nat) : (padB l e).length = max l.length e := by
  unfold padB
  rw [List.length_append, List.length_replicate]
  omega
theorem cel_zeros (m : Nat) : cel (List.replicate m 0) = List.replicate m (Value.int .u8 0) := by simp [cel]
theorem keep_splice (lasts now : List UInt8) (k : Nat) (h : 64 * k < now.length) (m : Nat) (hm : m = secE now k - 64 * k) :
    spliceL (cel (padB lasts (secE now k))) (64 * k) ((cel ((now.take (secE now k)).drop (64 * k))).take (min m m)) = cel (keepB lasts now k) := by
  have hl : ((now.take (secE now k)).drop (64 * k)).length = m := by
    rw [List.length_drop, List.length_take, hm]
    unfold secE
    omega
  have hs : 64 * k + m = secE now k := by unfold secE at hm ⊢; omega
  unfold spliceL keepB
  have e1 : (cel ((now.take (secE now k)).drop (64 * k))).take m = cel ((now.take (secE now k)).drop (64 * k)) := List.take_of_length_le (by rw [cel_length, hl]; exact Nat.le_refl _)
  rw [Nat.min_self, e1, cel_length, hl, hs, ← cel_take, ← cel_drop, ← cel_append, ← cel_append]
theorem keepB_length (lasts now : List UInt8) (k : Nat) (h : 64 * k < now.length) : (keepB lasts now k).length = max lasts.length (secE now k) := by
  unfold keepB
  rw [List.length_append, List.length_append, List.length_take, List.length_drop, List.length_drop, List.length_take, padB_length]
  unfold secE
  omega
/-- what a slice of the row, from one place to another, holds -/
theorem At.lohi {w : World} {A : Option Addr} {cap : Nat} {l : List UInt8} (h : Bs w A l) (hc : l.length ≤ cap) (i j : Nat) : Bs w (dropA A cap i) ((l.take j).drop i) := by
  rw [List.drop_take]
  exact (h.dropA rfl hc).take (j - i)
set_option maxHeartbeats 16000000 in
/-- behind the first lines: the sector is copied over -/
theorem keep_any {w : World} {c : Nat → Prop} {k : Nat} {v1 v2 : Value} {now lasts : List UInt8} (h : FileAt w c k v1 v2 now lasts) (num : Nat) (hs : 64 * num < now.length) (hn : now.length ≤ 16777216) (hl : lasts.length ≤ 16777216) :
    Calls Try.prog 55 #[.pointer (some ⟨k, 0, none⟩), .int .i64 (num : Int)] w fun e w' => e = .returned (.tuple #[]) ∧ ∃ v2', FileAt w' (more w w' c) k v1 v2' now (keepB lasts now num) ∧ Only w w' c := by
  obtain ⟨i0, hi, hz0, hz1, hz2⟩ := info_parts info_byte
  obtain ⟨A, cap, rfl, hcap, hcm, -⟩ := h.own1.form
  obtain ⟨A2, cap2, rfl, hcap2, hcm2, -⟩ := h.own2.form
  have c0 : w.cell? ⟨k, 0, none⟩ = some (.slice A now.length cap) := h.box.cell 0 rfl
  have c1 : w.cell? ⟨k, 1, none⟩ = some (.slice A2 lasts.length cap2) := h.box.cell 1 rfl
  have f1 := h.box.frozen 1
  have hkl := h.lt
  obtain ⟨be, hbe⟩ : ∃ be, be = 64 * num := ⟨_, rfl⟩
  obtain ⟨en, hen⟩ : ∃ en, en = secE now num := ⟨_, rfl⟩
  have hen1 : be < en := by unfold secE at hen; omega
  have hen2 : en ≤ now.length := by unfold secE at hen; omega
  have hmin : ∀ (ts : Array TypeId) (t : TypeId) (w : World), (Builtin.min_ ts t #[.int .i64 ((be : Int) + 64), .int .i64 (now.length : Int)]).run Try.prog w = .ok (.int .i64 (en : Int)) w := by
    intro ts t w
    rw [run_min_int2]
    unfold secE at hen
    congr 2
    split <;> omega
  have hmul : (num : Int) * 64 = (be : Int) := by omega
  obtain ⟨mm, hmm⟩ : ∃ mm, mm = en - be := ⟨_, rfl⟩
  have KS := Lib.hid (keep_splice lasts now num hs mm (by rw [hmm, hen, hbe]))
  have KL := Lib.hid (keepB_length lasts now num hs)
  rw [← hen, ← hbe] at KS
  rw [← hen] at KL
  have hsl1 := run_lohi (P := Try.prog) 22 5 Try.underlying22 sizeU8k A now.length cap be en (by omega) (by omega)
  rw [← hmm] at hsl1
  have SRC := Lib.hid (At.lohi h.own1.at_ hcap be en)
  have SRL := Lib.hid (show (cel ((now.take en).drop be)).length = mm by rw [cel_length, List.length_drop, List.length_take]; omega)
  by_cases hg : lasts.length < en
  · have hgi : (lasts.length : Int) < (en : Int) := by omega
    obtain ⟨z, hz⟩ : ∃ z, z = en - lasts.length := ⟨_, rfl⟩
    have hzi : (en : Int) - (lasts.length : Int) = (z : Int) := by omega
    have hzw : IntKind.i64.wrap (z : Int) = (z : Int) := by simp [IntKind.wrap, IntKind.bits, IntKind.signed]; omega
    have hpad : cel lasts ++ List.replicate z (Value.int .u8 0) = cel (padB lasts en) := by
      unfold padB
      rw [cel_append, cel_zeros, hz]
    have hpl : lasts.length + z = (padB lasts en).length := by rw [padB_length]; omega
    have PAD := Lib.hid hpad
    have PL := Lib.hid hpl
    have H := Lib.hid h
    have ZB := Lib.hid (show 0 < z ∧ lasts.length + z ≤ 16777216 by omega)
    have EN := Lib.hid (show be + mm ≤ (padB lasts en).length ∧ (padB lasts en).length = en ∧ en - be = mm by rw [padB_length]; omega)
    have KL2 := Lib.hid (show (padB lasts en).length = (keepB lasts now num).length by rw [padB_length, KL.out])
    have hbe2 : (be : Int) ≤ 16777216 := by omega
    clear h hs hn hl hbe hen hcap2 hcm hcm2 hmm hpad hpl hz hg KL hen1 hen2
    go_enter Try.func55, Try.ntmps55
    go_wp2_with fail
    have bx := H.out.own2.not_box H.out.box file_ne
    go_region_law ((refine step_appZ _ rfl (.tmp 27) (.tmp 34) 22 3 rfl 0 5 i0 (.int .u8 0) 1 Try.underlying22 Try.underlying3 hi hz0 hz1 hz2 rfl rfl (.slice A2 lasts.length cap2) lasts.length (cel lasts) (by simp [Act.eval, Act.put]) (H.out.own2.keep (keeps_drew _)) z (by simp [Act.eval, Act.put, hzi, hzw]) ZB.out.1 (by have := ZB.out.2; unfold maxLen; omega) (by have := ZB.out.2; omega) (Nat.zero_le _) ?_); intro v' w3 hown' hgrow hblk; obtain ⟨A', cap', rfl, hc', -⟩ := hown'.form; have hb3 : Box w3 k 91 #[.slice A now.length cap, .slice A2 lasts.length cap2] := (hgrow.block k (by simp; omega) (fun e => bx e.symm)).trans (H.out.box.keep (keeps_drew _)); have z0 := hb3.cell 1 rfl; have z1 := hb3.frozen 1)
    all_goals
      rw [PAD.out] at hown'
      rw [PL.out] at hown' hblk hc' ⊢
      have FP := H.out.put2 (grownBy_step ((keeps_drew _).grown_ _) hgrow (.inl rfl)) hown' (by
        rcases hblk with e | e
        · exact .inl e
        · exact .inr ⟨_, e, Nat.le_refl _⟩)
      clear hown' hgrow hblk hb3 z0 z1 c0 c1 f1
      generalize w3.setCell ⟨k, 1, none⟩ (.slice A' (padB lasts en).length cap') = W4 at *
      obtain ⟨F4, O4⟩ := FP
      have c0 : W4.cell? ⟨k, 0, none⟩ = some (.slice A now.length cap) := F4.box.cell 0 rfl
      have c1 : W4.cell? ⟨k, 1, none⟩ = some (.slice A' (padB lasts en).length cap') := F4.box.cell 1 rfl
      have hkl4 := F4.lt
      have hsl2 := run_lohi (P := Try.prog) 22 5 Try.underlying22 sizeU8k A' (padB lasts en).length cap' be en (by have := EN.out; omega) (by have := EN.out; omega)
      have hmm : en - be = mm := EN.out.2.2
      rw [hmm] at hsl2
      have F4h := Lib.hid F4
      have O4h := Lib.hid O4
      clear F4 O4 hmm
      go_wp2_with fail
      go_region_law ((refine step_copyO _ rfl (.tmp 44) (.tmp 51) 22 rfl 0 5 i0 Try.underlying22 hi hz1 A' (padB lasts en).length cap' (cel (padB lasts en)) (F4h.out.own2.keep (keeps_drew _)) be mm (cap' - be) (by simp [Act.eval, Act.put]) EN.out.1 (dropA A cap be) mm (cap - be) (cel ((now.take en).drop be)) (by simp [Act.eval, Act.put]) SRL.out ((At.lohi F4h.out.own1.at_ hcap be en).keep (keeps_drew _)) (cel_one _) ?_); intro w5 o5 g5)
      all_goals
        rw [KS.out] at o5
        have F5 := Lib.hid (F4h.out.row2 (lasts' := keepB lasts now num) (grownBy_step ((keeps_drew _).grown_ _) g5 (.inl rfl)) (by rw [← KL2.out]; exact o5))
        have SZ := Lib.hid g5.size
        clear o5 g5
        go_wp2_with fail
        go_returns
        exact ⟨rfl, _, F5.out.1.wide (fun i hi => by
          rcases hi with hi | ⟨h1, h2⟩
          · exact .inl hi
          · exact .inr ⟨h1, Nat.lt_of_lt_of_le h2 SZ.out⟩), O4h.out.trans F5.out.2 (fun i hi => by
          rcases hi with hi | ⟨h1, h2⟩
          · exact .inl hi
          · exact .inr h1)⟩
  · have hgi : (en : Int) ≤ (lasts.length : Int) := by omega
    have hpad : padB lasts en = lasts := by
      unfold padB
      rw [show en - lasts.length = 0 by omega]
      simp
    rw [hpad] at KS
    have KL2 := Lib.hid (show lasts.length = (keepB lasts now num).length by rw [KL.out]; omega)
    have hsl2 := run_lohi (P := Try.prog) 22 5 Try.underlying22 sizeU8k A2 lasts.length cap2 be en (by omega) (by omega)
    rw [← hmm] at hsl2
    have EN := Lib.hid (show be + mm ≤ lasts.length by omega)
    have H := Lib.hid h
    have hbe2 : (be : Int) ≤ 16777216 := by omega
    clear h hs hn hl hbe hen hcap2 hcm hcm2 hmm hpad hg KL hen1 hen2
    go_enter Try.func55, Try.ntmps55
    go_wp2_with fail
    go_region_law ((refine step_copyO _ rfl (.tmp 44) (.tmp 51) 22 rfl 0 5 i0 Try.underlying22 hi hz1 A2 lasts.length cap2 (cel lasts) (H.out.own2.keep (keeps_drew _)) be mm (cap2 - be) (by simp [Act.eval, Act.put]) EN.out (dropA A cap be) mm (cap - be) (cel ((now.take en).drop be)) (by simp [Act.eval, Act.put]) SRL.out ((At.lohi H.out.own1.at_ hcap be en).keep (keeps_drew _)) (cel_one _) ?_); intro w5 o5 g5)
    all_goals
      rw [KS.out] at o5
      have F5 := Lib.hid (H.out.row2 (lasts' := keepB lasts now num) (grownBy_step ((keeps_drew _).grown_ _) g5 (.inl rfl)) (by rw [← KL2.out]; exact o5))
      clear o5 g5
      go_wp2_with fail
      go_returns
      exact ⟨rfl, _, F5.out.1.wide (fun i hi => .inl hi), F5.out.2⟩
end Go.Proofs.Ytpbkkbkpodcgnaa
