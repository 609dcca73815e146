/- Package extsort: Sort where it refuses. -/
import Derived.Test.YthoklfbnmndclaaGreatDoorQExtSr
namespace Go.Proofs.YthoklfbnmndclaaGreatDoor
open Go.RowKit Go.Sort
set_option linter.unusedSimpArgs false
set_option linter.unusedVariables false
set_option maxRecDepth 100000

theorem Tid.create_no {Q A B : Nat} {p : Pst} {V : Vw} {ns : List (List UInt8)} {nm : List UInt8} (h : Tid Q A B p V ns) (hm : nameOk nm = false ∨ nm ∈ ns) : (createPl p nm).2 = (if nameOk nm = false then 1 else 4) ∧ (createPl p nm).1 = p := by
  unfold createPl createS
  rw [hl_gone h.heal.armed, h.heal.off, if_neg (by simp)]
  by_cases hn : nameOk nm = false
  · rw [if_pos hn, if_pos hn]
    exact ⟨rfl, rfl⟩
  · rw [if_neg hn, if_neg hn]
    obtain ⟨ps, hV⟩ := h.get (hm.resolve_left hn)
    obtain ⟨g, hg, -⟩ := h.heal.has _ _ hV
    rw [hg, if_pos (by simp)]
    exact ⟨rfl, rfl⟩
theorem x_create_no {K : DiskOk} {w0 w : World} {B : PB} {S : Nat → Prop} {p : Pst} {N Q A C : Nat} {V : Vw} {ns : List (List UInt8)} {nm : List UInt8} (h : ExS K w0 B N Q A C p V ns S w) (hZ : K.Z w0) (hl : nm.length ≤ maxLen) (hm : nameOk nm = false ∨ nm ∈ ns) :
    Calls Tryz.prog 34 #[.pointer (some ⟨B.pb, 0, none⟩), .string (str nm)] w fun e w' => ∃ S', e = .returned (.int .i64 ((if nameOk nm = false then 1 else 4 : Nat) : Int)) ∧ ExS K w0 B N Q A C p V ns S' w' ∧ Turns w w' S S' := by
  refine (create_pj h.pj hZ nm hl).mono ?_
  rintro e w' ⟨he, S', h1, h2⟩
  obtain ⟨e1, e2⟩ := h.tid.create_no hm
  rw [e1] at he
  rw [e2] at h1
  exact ⟨S', he, ⟨h1, h.runs, h.tid, h.pk⟩, h2⟩
theorem sort_nil (sI sO : ByteArray) (bi : Int) (w : World) : Calls Tryz.prog 15 #[.pointer none, .string sI, .string sO, .int .i64 bi] w fun e w' => e = .returned (.int .i64 2) ∧ Keeps w w' := by
  go_enter Tryz.func15, Tryz.ntmps15
  go_wp2_with fail
  go_ret
  exact ⟨rfl, keeps_refl _⟩
section
variable {K : DiskOk} {w0 w w' : World} {B : PB} {S S' T : Nat → Prop} {p q : Pst} {N Q A C : Nat} {V V1 : Vw} {ns : List (List UInt8)} {nmI nmO : List UInt8} {l : List Ed} {bi : Int}
/-- what is not allowed -/
def SortNo (N : Nat) (nmI nmO : List UInt8) (bi : Int) : Prop := ¬ (bi = 0 ∨ bi = 1) ∨ nmI = nmO ∨ nmI.take 2 = [116, 46] ∨ nmO.take 2 = [116, 46] ∨ N < 8
set_option maxHeartbeats 16000000 in
theorem sort_no (h : ExS K w0 B N Q A C p V ns S w) (hb : SortNo N nmI nmO bi) :
    Calls Tryz.prog 15 #[.pointer (some ⟨B.pb, 0, none⟩), .string (str nmI), .string (str nmO), .int .i64 bi] w fun e w' => e = .returned (.int .i64 1) ∧ Keeps w w' := by
  have HI := Lib.hid (hasPre_any nmI)
  have HO := Lib.hid (hasPre_any nmO)
  have FR := Lib.hid (fun (W : World) (k : Keeps w W) => e_frames (h.keep k))
  have hse : ((str nmI).toList == (str nmO).toList) = decide (nmI = nmO) := by
    rw [str_toList, str_toList]
    by_cases e : nmI = nmO
    · rw [e]; simp
    · rw [decide_eq_false e, beq_eq_false_iff_ne]; exact e
  unfold SortNo at hb
  have hb1 : ¬ (bi = 0 ∨ bi = 1) → (bi != 0) = true ∧ (bi != 1) = true := fun g => ⟨by simpa using fun e => g (.inl e), by simpa using fun e => g (.inr e)⟩
  have hb2 : (bi = 0 ∨ bi = 1) → ((bi != 0) = true ∧ (bi != 1) = false) ∨ (bi != 0) = false := fun g => by rcases g with rfl | rfl <;> simp
  clear h
  generalize str nmI = si at *
  generalize str nmO = so at *
  by_cases c1 : bi = 0 ∨ bi = 1
  rotate_left
  · obtain ⟨g1, g2⟩ := hb1 c1
    clear hb hb1 hb2 c1
    go_enter Tryz.func15, Tryz.ntmps15
    go_wp2_with fail
    go_ret
    exact ⟨rfl, keeps_refl _⟩
  have HBI := Lib.hid (hb2 c1)
  have hb := hb.resolve_left (fun g => g c1)
  clear hb1 hb2 c1
  by_cases c2 : nmI = nmO
  · rw [decide_eq_true c2] at hse
    clear hb c2
    rcases HBI.out with ⟨g1, g2⟩ | g1
    all_goals
      go_enter Tryz.func15, Tryz.ntmps15
      go_wp2_with fail
      go_ret
      exact ⟨rfl, keeps_refl _⟩
  rw [decide_eq_false c2] at hse
  have hb := hb.resolve_left c2
  clear c2
  by_cases c3 : nmI.take 2 = [116, 46]
  · rw [decide_eq_true c3] at HI
    clear hb c3
    rcases HBI.out with ⟨g1, g2⟩ | g1
    all_goals
      go_enter Tryz.func15, Tryz.ntmps15
      go_wp2_with fail
      refine (HI.out _).mono ?_
      rintro e w1 ⟨rfl, rfl⟩
      go_wp2_with fail
      go_ret
      exact ⟨rfl, keeps_refl _⟩
  rw [decide_eq_false c3] at HI
  have hb := hb.resolve_left c3
  clear c3
  by_cases c4 : nmO.take 2 = [116, 46]
  · rw [decide_eq_true c4] at HO
    clear hb c4
    rcases HBI.out with ⟨g1, g2⟩ | g1
    all_goals
      go_enter Tryz.func15, Tryz.ntmps15
      go_wp2_with fail
      refine (HI.out _).mono ?_
      rintro e w1 ⟨rfl, rfl⟩
      go_wp2_with fail
      refine (HO.out _).mono ?_
      rintro e w1 ⟨rfl, rfl⟩
      go_wp2_with fail
      go_ret
      exact ⟨rfl, keeps_refl _⟩
  rw [decide_eq_false c4] at HO
  have hN : (N : Int) < 8 := by have := hb.resolve_left c4; omega
  clear c4 hb
  rcases HBI.out with ⟨g1, g2⟩ | g1
  all_goals
    go_enter Tryz.func15, Tryz.ntmps15
    go_wp2_with fail
    refine (HI.out _).mono ?_
    rintro e w1 ⟨rfl, rfl⟩
    go_wp2_with fail
    refine (HO.out _).mono ?_
    rintro e w1 ⟨rfl, rfl⟩
    go_wp2_with fail
    refine (FR.out _ (keeps_refl _)).mono ?_
    rintro e w1 ⟨rfl, k1⟩
    have K1 := Lib.hid k1
    clear k1
    go_wp2_with fail
    go_ret
    exact ⟨rfl, K1.out⟩
set_option maxHeartbeats 16000000 in
/-- in is no file that opens: its error -/
theorem sort_open (h : ExS K w0 B N Q A C p V ns S w) (hZ : K.Z w0) (hb : ¬ SortNo N nmI nmO bi) (hl : nmI.length ≤ maxLen) (hne : openT p nmI 20 ≠ 0) :
    Calls Tryz.prog 15 #[.pointer (some ⟨B.pb, 0, none⟩), .string (str nmI), .string (str nmO), .int .i64 bi] w fun e w' => e = .returned (.int .i64 (openT p nmI 20 : Int)) ∧ Keeps w w' := by
  have HI := Lib.hid (hasPre_any nmI)
  have HO := Lib.hid (hasPre_any nmO)
  have FR := Lib.hid (fun (W : World) (k : Keeps w W) => e_frames (h.keep k))
  have OP := Lib.hid (fun (W : World) (k : Keeps w W) => sopen_any (h.pj.keep k) hZ h.runs (by omega) hl 20)
  have HNE := Lib.hid hne
  have hnz : ((openT p nmI 20 : Int) != 0) = true := by simpa using fun e => hne (by omega)
  unfold SortNo at hb
  have hse : ((str nmI).toList == (str nmO).toList) = false := by rw [str_toList, str_toList, beq_eq_false_iff_ne]; exact fun e => hb (.inr (.inl e))
  have eI : decide (nmI.take 2 = [116, 46]) = false := decide_eq_false (fun e => hb (.inr (.inr (.inl e))))
  have eO : decide (nmO.take 2 = [116, 46]) = false := decide_eq_false (fun e => hb (.inr (.inr (.inr (.inl e)))))
  have hN : ¬ (N : Int) < 8 := fun e => hb (.inr (.inr (.inr (.inr (by omega)))))
  rw [eI] at HI
  rw [eO] at HO
  have HBI : Hid (((bi != 0) = true ∧ (bi != 1) = false) ∨ (bi != 0) = false) := Lib.hid (by
    have hbi : bi = 0 ∨ bi = 1 := Classical.byContradiction fun g => hb (.inl g)
    rcases hbi with rfl | rfl <;> simp)
  clear hb eI eO h hne
  generalize openT p nmI 20 = E at *
  generalize str nmI = si at *
  generalize str nmO = so at *
  rcases HBI.out with ⟨g1, g2⟩ | g1
  all_goals
    go_enter Tryz.func15, Tryz.ntmps15
    go_wp2_with fail
    refine (HI.out _).mono ?_
    rintro e w1 ⟨rfl, rfl⟩
    go_wp2_with fail
    refine (HO.out _).mono ?_
    rintro e w1 ⟨rfl, rfl⟩
    go_wp2_with fail
    refine (FR.out _ (keeps_refl _)).mono ?_
    rintro e w1 ⟨rfl, k1⟩
    have K1 := Lib.hid k1
    clear k1
    go_wp2_with fail
    refine (OP.out _ K1.out).mono ?_
    rintro e w2 ⟨k2, ⟨hz, -⟩ | ⟨hne, rfl⟩⟩
    · exact absurd hz HNE.out
    have K2 := Lib.hid (keeps_trans K1.out k2)
    clear k2
    go_wp2_with fail
    go_ret
    exact ⟨rfl, K2.out⟩
set_option maxHeartbeats 16000000 in
/-- out is no name for a file that is not there -/
theorem sort_create (h : ExS K w0 B N Q A C p V ns S w) (hZ : K.Z w0) (hb : ¬ SortNo N nmI nmO bi) {rs : List (List UInt8)} (s : IsS V nmI 20 rs) (hlO : nmO.length ≤ maxLen) (hO : nameOk nmO = false) :
    Calls Tryz.prog 15 #[.pointer (some ⟨B.pb, 0, none⟩), .string (str nmI), .string (str nmO), .int .i64 bi] w fun e w' => ∃ S', e = .returned (.int .i64 1) ∧ ExS K w0 B N Q A C p V ns S' w' ∧ Turns w w' S S' := by
  have HI := Lib.hid (hasPre_any nmI)
  have HO := Lib.hid (hasPre_any nmO)
  have FR := Lib.hid (fun (W : World) (k : Keeps w W) => e_frames (h.keep k))
  have OP := Lib.hid (fun (W : World) (k : Keeps w W) => by
    have := sopen_any (h.pj.keep k) hZ h.runs (by omega) (h.len24 s) 20
    rw [open_zero h s] at this
    exact this)
  have CR := Lib.hid (fun (W : World) (k : Keeps w W) => by
    have := x_create_no (h.keep k) hZ hlO (.inl hO)
    rw [if_pos hO] at this
    exact this)
  unfold SortNo at hb
  have hse : ((str nmI).toList == (str nmO).toList) = false := by rw [str_toList, str_toList, beq_eq_false_iff_ne]; exact fun e => hb (.inr (.inl e))
  have eI : decide (nmI.take 2 = [116, 46]) = false := decide_eq_false (fun e => hb (.inr (.inr (.inl e))))
  have eO : decide (nmO.take 2 = [116, 46]) = false := decide_eq_false (fun e => hb (.inr (.inr (.inr (.inl e)))))
  have hN : ¬ (N : Int) < 8 := fun e => hb (.inr (.inr (.inr (.inr (by omega)))))
  rw [eI] at HI
  rw [eO] at HO
  have HBI : Hid (((bi != 0) = true ∧ (bi != 1) = false) ∨ (bi != 0) = false) := Lib.hid (by
    have hbi : bi = 0 ∨ bi = 1 := Classical.byContradiction fun g => hb (.inl g)
    rcases hbi with rfl | rfl <;> simp)
  clear hb eI eO h s hO hlO
  generalize str nmI = si at *
  generalize str nmO = so at *
  rcases HBI.out with ⟨g1, g2⟩ | g1
  all_goals
    go_enter Tryz.func15, Tryz.ntmps15
    go_wp2_with fail
    refine (HI.out _).mono ?_
    rintro e w1 ⟨rfl, rfl⟩
    go_wp2_with fail
    refine (HO.out _).mono ?_
    rintro e w1 ⟨rfl, rfl⟩
    go_wp2_with fail
    refine (FR.out _ (keeps_refl _)).mono ?_
    rintro e w1 ⟨rfl, k1⟩
    have K1 := Lib.hid k1
    clear k1
    go_wp2_with fail
    refine (OP.out _ K1.out).mono ?_
    rintro e w2 ⟨k2, ⟨-, -, -, fb, rfl, -, -⟩ | ⟨hne, -⟩⟩
    rotate_left
    · exact absurd rfl hne
    have K2 := Lib.hid (keeps_trans K1.out k2)
    clear k2
    go_wp2_with fail
    refine (CR.out _ K2.out).mono ?_
    rintro e w3 ⟨S3, rfl, h3, t3⟩
    have R := Lib.hid (And.intro h3 ((Turns.of_keeps K2.out).trans t3))
    clear h3 t3
    go_wp2_with fail
    go_ret
    exact ⟨S3, rfl, R.out.1, R.out.2⟩
end
end Go.Proofs.YthoklfbnmndclaaGreatDoor
