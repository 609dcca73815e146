/- slices.Sort at []uint32: Sort. -/
import Derived.Test.YtdfaogagadoooaaSoPdq
namespace Go.Proofs.Ytdfaogagadoooaa
open Go.RowKit Go.Sort
set_option linter.unusedSimpArgs false
set_option linter.unusedVariables false
set_option maxRecDepth 100000

/-- a row that is sorted, however it was -/
theorem sort_u32 {w : World} {base g n cap : Nat} {l : List Nat} (h : Own w base 30 1 (.slice (some ⟨g, 0, none⟩) n cap) n (celU l)) (hn : n ≤ 1000000) :
    Calls Try.prog 22 #[.slice (some ⟨g, 0, none⟩) n cap] w fun e w' => ∃ l', e = .returned (.tuple #[]) ∧ l'.Perm l ∧ l'.Pairwise (· ≤ ·) ∧ Own w' base 30 1 (.slice (some ⟨g, 0, none⟩) n cap) n (celU l') ∧ Only w w' (fun b => b = g) := by
  have hl : l.length = n := by have := h.1; rw [celU_len] at this; simpa using this
  have nI : (n : Int) ≤ 1000000 := by omega
  have hbl : bitsLen n ≤ 64 := by have := (bitsLen_le_iff n 20).2 (by omega); omega
  have LN := Lib.hid (len_u n · hn)
  have C := Lib.hid (fun (W : World) (s : SoR w W base g n cap l.toArray) => pdq_u32 base g n cap hn (n + 1) W 0 n (bitsLen n) l.toArray (by omega) s.own (by omega) (by omega) (.inl rfl) hbl)
  have S0 := Lib.hid (SoR.start (d := l.toArray) (by simpa using h))
  have HL := Lib.hid hl
  clear h hl hbl
  go_enter Try.func22, Try.ntmps22
  obtain ⟨bl, hbl⟩ : ∃ z, bitsLen n = z := ⟨_, rfl⟩
  rw [hbl] at LN C
  go_wp2_with (first
    | (go_at_call 28; refine (LN.out _).mono ?_; rintro e w1 ⟨rfl, rfl⟩)
    | (go_at_call 27; refine (C.out _ S0.out).mono ?_; rintro e w1 ⟨d', rfl, hp, hs, hS⟩))
  go_returns
  refine ⟨d'.toList, rfl, ?_, ?_, hS.own, hS.only⟩
  · have h1 := hp.2.2
    have e1 : l.toArray.extract 0 n = l.toArray := by rw [← HL.out]; simp
    have e2 : d'.extract 0 n = d' := by rw [← hS.size]; simp
    rw [e1, e2] at h1
    simpa using h1
  · rw [List.pairwise_iff_getElem]
    intro i j hi hj hij
    have hz := hS.size
    simp only [Array.length_toList] at hi hj
    have h1 := hs i j (Nat.zero_le _) hij (by omega)
    rw [getElem!_pos d' j hj, getElem!_pos d' i hi] at h1
    simp only [ltN, decide_eq_false_iff_not] at h1
    simp only [Array.getElem_toList]
    omega
theorem ins_nil (w : World) : Calls Try.prog 29 #[.slice none 0 0, .int .i64 0, .int .i64 0] w fun e w' => e = .returned (.tuple #[]) ∧ w' = w := by
  go_enter Try.func29, Try.ntmps29
  go_wp2_with fail
  go_loopw [6] (fun i wr => i = .int .i64 1 ∧ wr = w) (fun _ _ => 0)
  case atStart => exact ⟨by go_num, rfl⟩
  case round =>
    obtain ⟨rfl, rfl⟩ := hrel
    go_wp2_with fail
    go_returns
    exact ⟨rfl, rfl⟩
theorem pdq_nil (w : World) : Calls Try.prog 27 #[.slice none 0 0, .int .i64 0, .int .i64 0, .int .i64 0] w fun e w' => e = .returned (.tuple #[]) ∧ w' = w := by
  go_enter Try.func27, Try.ntmps27
  go_wp2_with fail
  go_loopw [1, 2, 3, 8, 9] (fun u1 u2 _ _ _ wr => u1 = .int .i64 0 ∧ u2 = .int .i64 0 ∧ wr = w) (fun _ _ _ _ _ _ => 0)
  case atStart => exact ⟨rfl, rfl, rfl⟩
  case round =>
    obtain ⟨rfl, rfl, rfl⟩ := hrel
    go_wp2_with (go_at_call 29; refine (ins_nil _).mono ?_; rintro e w1 ⟨rfl, rfl⟩)
    go_returns
    exact ⟨rfl, rfl⟩
theorem sort_nil_u32 (w : World) : Calls Try.prog 22 #[.slice none 0 0] w fun e w' => e = .returned (.tuple #[]) ∧ w' = w := by
  have L : Calls Try.prog 28 #[.int .u64 0] w fun e w' => e = .returned (.int .i64 0) ∧ w' = w := len_u 0 w (by omega)
  have LN := Lib.hid L
  clear L
  go_enter Try.func22, Try.ntmps22
  go_wp2_with (first
    | (go_at_call 28; refine LN.out.mono ?_; rintro e w1 ⟨rfl, rfl⟩)
    | (go_at_call 27; refine (pdq_nil _).mono ?_; rintro e w1 ⟨rfl, rfl⟩))
  go_returns
  exact ⟨rfl, rfl⟩
end Go.Proofs.Ytdfaogagadoooaa
