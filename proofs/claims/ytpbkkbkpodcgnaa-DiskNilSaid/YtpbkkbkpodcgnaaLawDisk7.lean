/- A file's bytes among files. -/
import Derived.Test.YtpbkkbkpodcgnaaLawDisk5
namespace Go.Proofs.Ytpbkkbkpodcgnaa
open Go.RowKit
set_option linter.unusedSimpArgs false
set_option linter.unusedVariables false
set_option maxRecDepth 100000

def lookF (l : List (List UInt8 × List UInt8)) (nm : List UInt8) : Option (List UInt8) := (l.find? fun p => decide (p.1 = nm)).map Prod.snd
theorem FilesAt.keep {w w' : World} {base : Nat} {v : Value} {l : List (List UInt8 × List UInt8)} (h : FilesAt w base v l) (k : Keeps w w') : FilesAt w' base v l := by
  obtain ⟨vs, h1, h2, h3⟩ := h
  exact ⟨vs, h1, h2.keep k, fun i b x hi hx => (h3 i b x hi hx).keep k⟩
theorem files_cells (l : List (List UInt8 × List UInt8)) (vs : List Value) (h : vs.length = l.length) (i : Nat) (p : List UInt8 × List UInt8) (hp : l[i]? = some p) :
    ∃ x, vs[i]? = some x ∧ ((l.zip vs).flatMap fun p => [strV p.1.1, p.2])[i * 2]? = some (strV p.1) ∧ ((l.zip vs).flatMap fun p => [strV p.1.1, p.2])[i * 2 + 1]? = some x := by
  have hi : i < l.length := (List.getElem?_eq_some_iff.1 hp).1
  have hx : i < vs.length := by omega
  refine ⟨vs[i], List.getElem?_eq_getElem hx, ?_, ?_⟩
  · have := flatMap_get (fun p : (List UInt8 × List UInt8) × Value => [strV p.1.1, p.2]) 2 (fun _ => rfl) (l.zip vs) (i := i) (j := 0) (by decide)
    rw [Nat.add_zero] at this
    rw [this, show (l.zip vs)[i]? = some (p, vs[i]) from List.getElem?_zip_eq_some.2 ⟨hp, List.getElem?_eq_getElem hx⟩]
    rfl
  · have := flatMap_get (fun p : (List UInt8 × List UInt8) × Value => [strV p.1.1, p.2]) 2 (fun _ => rfl) (l.zip vs) (i := i) (j := 1) (by decide)
    rw [this, show (l.zip vs)[i]? = some (p, vs[i]) from List.getElem?_zip_eq_some.2 ⟨hp, List.getElem?_eq_getElem hx⟩]
    rfl
theorem lookF_at {l : List (List UInt8 × List UInt8)} {nm : List UInt8} {i : Nat} {p : List UInt8 × List UInt8} (hp : l[i]? = some p) (hn : p.1 = nm) (hb : ∀ (j : Nat) (q : List UInt8 × List UInt8), j < i → l[j]? = some q → q.1 ≠ nm) : lookF l nm = some p.2 := by
  induction l generalizing i with
  | nil => simp at hp
  | cons a l ih =>
    unfold lookF
    rw [List.find?_cons]
    rcases i with _ | i
    · simp only [List.getElem?_cons_zero, Option.some.injEq] at hp
      subst hp
      simp [hn]
    · have h0 := hb 0 a (by omega) rfl
      simp only [h0, decide_false]
      exact ih (by simpa using hp) (fun j q hj hq => hb (j + 1) q (by omega) (by simpa using hq))
theorem lookF_none {l : List (List UInt8 × List UInt8)} {nm : List UInt8} (hb : ∀ (j : Nat) (q : List UInt8 × List UInt8), l[j]? = some q → q.1 ≠ nm) : lookF l nm = none := by
  unfold lookF
  rw [List.find?_eq_none.2]
  · rfl
  · intro p hp
    obtain ⟨j, hj⟩ := List.getElem?_of_mem hp
    simpa using hb j p hj
/-- what fileOf tells -/
def LookV (w : World) (base : Nat) (r : Option (List UInt8)) (e : Ending) (w' : World) : Prop :=
  Keeps w w' ∧ match r with
  | some b => ∃ A c, e = .returned (.tuple #[.slice A b.length c, .bool true]) ∧ Own w' base 5 1 (.slice A b.length c) b.length (cel b)
  | none => e = .returned (.tuple #[.slice none 0 0, .bool false])
theorem str_eq (a b : List UInt8) : ((str a).toList == (str b).toList) = decide (a = b) := by
  rw [str_toList, str_toList]
  by_cases h : a = b <;> simp [h]
set_option maxHeartbeats 8000000 in
theorem fileOf_any (base : Nat) (v : Value) (l : List (List UInt8 × List UInt8)) (nm : List UInt8) (sv : ByteArray) (hv : sv = str nm) (w : World) (h : FilesAt w base v l) (hl : l.length ≤ 9223372036854775000) :
    Calls Try.prog 27 #[v, .string sv] w (LookV w base (lookF l nm)) := by
  subst hv
  obtain ⟨vs, h1, h2, h3⟩ := h
  obtain ⟨A, c, rfl, hc, -⟩ := h2.form
  have H1 := Lib.hid h1
  have H2 := Lib.hid h2
  have H3 := Lib.hid h3
  obtain ⟨RR, hRR⟩ : ∃ RR, lookF l nm = RR := ⟨_, rfl⟩
  rw [hRR]
  have HRR := Lib.hid hRR
  clear h1 h2 h3 hRR
  go_enter Try.func27, Try.ntmps27
  go_wp2_with fail
  go_loopw [6] (fun i wr => ∃ j : Nat, j ≤ l.length ∧ i = .int .i64 j ∧ (∀ k q, k < j → l[k]? = some q → q.1 ≠ nm) ∧ w = wr) (fun i _ => l.length - (intOf i).toNat)
  case atStart => exact ⟨0, Nat.zero_le _, rfl, fun k q hk => by omega, rfl⟩
  case round =>
    obtain ⟨j, hj, rfl, hpre, rfl⟩ := hrel
    have HP := Lib.hid hpre
    clear hpre
    by_cases hlt : j < l.length
    · obtain ⟨p, hp⟩ : ∃ p, l[j]? = some p := ⟨_, List.getElem?_eq_getElem hlt⟩
      obtain ⟨x, hx, c0, c1⟩ := files_cells l vs H1.out j p hp
      have hxl : ((l.zip vs).flatMap fun p => [strV p.1.1, p.2]).length = l.length * 2 := H2.out.1
      obtain ⟨g, rfl, q0, -⟩ := H2.out.cell (j := j * 2) (by rw [hxl]; omega)
      obtain ⟨g', hg', q1, -⟩ := H2.out.cell (j := j * 2 + 1) (by rw [hxl]; omega)
      obtain rfl : g = g' := by injection hg' with hg'; injection hg'
      rw [c0] at q0
      rw [c1] at q1
      unfold strV at q0
      have hjn : (j : Int) < (l.length : Int) := by omega
      have HPP := Lib.hid hp
      have OX := Lib.hid (H3.out j p.2 x (by rw [hp]; rfl) hx)
      have hse := str_eq p.1 nm
      clear hxl c0 c1 hg' hp hx
      by_cases hn : p.1 = nm
      · have hb : decide (p.1 = nm) = true := decide_eq_true hn
        rw [hb] at hse
        have FD := Lib.hid (lookF_at HPP.out hn HP.out)
        obtain ⟨Ax, cx, rfl, hcx, -⟩ := OX.out.form
        clear hn hb
        generalize (str p.1) = s1 at *
        generalize (str nm) = s2 at *
        go_wp2_with fail
        refine bodyPost_ret (v := .tuple #[.slice Ax p.2.length cx, .bool true]) (by simp [results, Try.results27, go_sem]) rfl ?_
        rw [← HRR.out, FD.out]
        exact ⟨keeps_refl _, Ax, cx, rfl, OX.out⟩
      · have hb : decide (p.1 = nm) = false := decide_eq_false hn
        rw [hb] at hse
        have HN := Lib.hid hn
        clear hn hb
        generalize (str p.1) = s1 at *
        generalize (str nm) = s2 at *
        go_wp2_with fail
        go_roundw
        case rel => exact ⟨j + 1, by omega, by go_num, fun k q hk hq => by
          by_cases e : k = j
          · subst e
            rw [HPP.out] at hq
            obtain rfl := Option.some.inj hq
            exact HN.out
          · exact HP.out k q (by omega) hq, trivial⟩
        case measure => simp [intOf]; omega
    · obtain rfl : j = l.length := by omega
      have NO := Lib.hid (show lookF l nm = none from lookF_none fun k q hq => HP.out k q (List.getElem?_eq_some_iff.1 hq).1 hq)
      clear hlt hj
      go_wp2_with fail
      refine bodyPost_ret (v := .tuple #[.slice none 0 0, .bool false]) (by simp [results, Try.results27, go_sem]) rfl ?_
      rw [← HRR.out, NO.out]
      exact ⟨keeps_refl _, rfl⟩
end Go.Proofs.Ytpbkkbkpodcgnaa
