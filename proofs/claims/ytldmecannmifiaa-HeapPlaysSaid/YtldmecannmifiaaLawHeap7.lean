/- The walk of HeapPlays. -/
import Derived.Test.YtldmecannmifiaaLawHeap3
import Derived.Test.YtldmecannmifiaaRefHeap3
import Derived.Test.YtldmecannmifiaaOpenStep
namespace Go.Proofs.Ytldmecannmifiaa
open Go.RowKit
set_option linter.unusedSimpArgs false
set_option linter.unusedVariables false
set_option maxRecDepth 100000

/-- The program's heap and the reference's. -/
structure Both (K : HeapOk) (B : Nat) (w : World) (p : Addr) (F : Nat → Prop) (rb : Nat) (v : Value) (l l' : List It) : Prop where
  mine : Mine K B w p F l
  ref : RefAt B w rb v l'
  dis : ∀ b, F b → ¬ RS rb v b
theorem Both.keep {K : HeapOk} {B : Nat} {w w' : World} {p : Addr} {F : Nat → Prop} {rb : Nat} {v : Value} {l l' : List It} (t : Both K B w p F rb v l l') (k : Keeps w w') : Both K B w' p F rb v l l' := ⟨t.mine.keep k, t.ref.keep k, t.dis⟩
theorem Both.next1 {K : HeapOk} {B : Nat} {w w' : World} {p : Addr} {F F' : Nat → Prop} {rb : Nat} {v : Value} {l m l' : List It} (t : Both K B w p F rb v l l') (h : K.H w' p F' m) (u : Turns w w' F F') (hB : B ≤ w.heap.size) : Both K B w' p F' rb v m l' :=
  ⟨t.mine.next h u hB, t.ref.same (u.only.same fun b hb => ⟨(t.ref.lt b hb).2, fun e => t.dis b e hb⟩), fun i hi hg => by
    rcases u.next i hi with e | e
    · exact t.dis i e hg
    · have := (t.ref.lt i hg).2; omega⟩
theorem Both.next2 {K : HeapOk} {B : Nat} {w w' : World} {p : Addr} {F : Nat → Prop} {rb : Nat} {v v' : Value} {l l' m : List It} (t : Both K B w p F rb v l l') (h : RefAt B w' rb v' m) (u : Turns w w' (RS rb v) (RS rb v')) : Both K B w' p F rb v' l m :=
  ⟨⟨K.same t.mine.h (u.only.same fun b hb => ⟨K.lt t.mine.h b hb, t.dis b hb⟩), t.mine.b⟩, h, fun i hi hg => by
    rcases u.next i hg with e | e
    · exact t.dis i hi e
    · have := K.lt t.mine.h i hi; omega⟩
theorem Both.keeps2 {K : HeapOk} {B : Nat} {w w' : World} {p : Addr} {F : Nat → Prop} {rb : Nat} {v v' : Value} {l l' : List It} (t : Both K B w p F rb v l l') (u : Turns w w' (RS rb v) (RS rb v')) {w0 : World} (k : Keeps w0 w) (hB : w0.heap.size ≤ B) : Keeps w0 w' := u.keeps k fun b hb => by have := (t.ref.lt b hb).1; omega

/-- a step at an address -/
def StepIn (W : World) (p : Addr) (e : StepS) : Prop := W.cell? p = some (.bool e.p) ∧ W.cell? ⟨p.block, p.off + 1, none⟩ = some (.int .u64 (e.k : Int)) ∧ W.cell? ⟨p.block, p.off + 1 + 1, none⟩ = some (.int .u32 (e.i : Int))
theorem steps_at {W : World} {B : Nat} {A : Option Addr} {l : List StepS} (h : At W B A (l.flatMap stepC)) {k : Nat} {e : StepS} (hk : l[k]? = some e) : ∃ ad, A = some ad ∧ ad.block < B ∧ StepIn W (ad.add (k * 3)) e := by
  have hl : k < l.length := (List.getElem?_eq_some_iff.1 hk).1
  have g : ∀ j, j < 3 → (l.flatMap stepC)[k * 3 + j]? = (stepC e)[j]? := fun j hj => by
    rw [flatMap_get stepC 3 stepC_length l hj, hk]
    rfl
  rcases h with h | ⟨ad, rfl, hb, hc⟩
  · have := flatMap_length stepC 3 stepC_length l
    rw [h] at this
    simp at this
    omega
  · refine ⟨ad, rfl, hb, hc _ _ (g 0 (by decide)), ?_, ?_⟩
    · rw [← add_pos1 _ 1 (by decide), addr_add]; exact hc _ _ (g 1 (by decide))
    · have := hc _ _ (g 2 (by decide))
      rw [← addr_add, add_pos1 _ 2 (by decide)] at this
      exact this
theorem StepIn.keep {W V : World} {p : Addr} {e : StepS} (h : StepIn W p e) (k : Keeps W V) : StepIn V p e := ⟨k.cellOf h.1, k.cellOf h.2.1, k.cellOf h.2.2⟩

set_option maxHeartbeats 8000000 in
theorem plays_walk (K : HeapOk) (A : Option Addr) (n c : Nat) (L : List StepS) (w : World)
    (hB : At w w.heap.size A (L.flatMap stepC)) (hx : ∀ e ∈ L, StepOk e) (hn : n = L.length) (hlen : n ≤ maxLen) :
    Calls Try.prog 3 #[.slice A n c] w (Yes w) := by
  unfold maxLen at hlen
  have WW := Lib.hid (fun W => works_heap K W)
  have HN := Lib.hid hn
  have HX := Lib.hid hx
  have HB := Lib.hid hB
  clear hn hx hB
  go_enter Try.func3, Try.ntmps3
  go_wp2_with fail
  refine (K.new w).mono ?_
  rintro e w1 ⟨p, F, rfl, h1, hF, k1⟩
  have M1 : Mine K w.heap.size w1 p F [] := ⟨h1, hF⟩
  have kz := keeps_alloc w1 (.cells #[.slice none 0 0] 28)
  have BX := Box.new w1 28 #[.slice none 0 0]
  have B1 : Both K w.heap.size (w1.alloc (.cells #[.slice none 0 0] 28)) p F w1.heap.size (.slice none 0 0) [] [] :=
    ⟨M1.keep kz, ⟨BX, Own.nil _ _ _ _, by simp [Value.ownBlock], k1.size⟩, fun b hb hr => by
      rcases hr with rfl | hr
      · exact Nat.lt_irrefl _ (K.lt h1 _ hb)
      · simp [Value.ownBlock] at hr⟩
  have hk1 := keeps_trans k1 kz
  clear h1 hF M1 kz BX k1
  go_wp2_with fail
  generalize w1.alloc (.cells #[.slice none 0 0] 28) = W1 at *
  generalize w1.heap.size = rb at *
  go_loopw [5] (fun i wr => ∃ (k : Nat) (F : Nat → Prop) (v : Value) (l l' : List It), k ≤ n ∧ k ≤ 600 ∧ i = .int .i64 k ∧ l.Perm l' ∧ l.length ≤ k ∧ (∀ y ∈ l, ItOk y) ∧ Both K w.heap.size wr p F rb v l l' ∧ Keeps w wr) (fun i _ => n - (intOf i).toNat)
  case atStart => exact ⟨0, F, .slice none 0 0, [], [], Nat.zero_le _, Nat.zero_le _, rfl, List.Perm.refl _, Nat.zero_le _, fun y hy => by simp at hy, B1, hk1⟩
  case round =>
    clear B1 hk1
    obtain ⟨k, F2, v, l, l', hk, hk6, rfl, hp, hl, hok, hM, hkp⟩ := hrel
    by_cases hlt : k < n ∧ k < 600
    · obtain ⟨hlt1, hlt2⟩ := hlt
      obtain ⟨s, hs⟩ : ∃ s, L[k]? = some s := ⟨_, List.getElem?_eq_getElem (by have := HN.out; omega)⟩
      obtain ⟨ad, rfl, hbl, hS⟩ := steps_at HB.out hs
      have hSr := hS.keep hkp
      have hso := HX.out _ (List.mem_of_getElem? hs)
      have HP := Lib.hid hp
      have HL := Lib.hid hl
      have HOK := Lib.hid hok
      have HM := Lib.hid hM
      have hl' := hp.length_eq
      have HL' := Lib.hid hl'
      obtain ⟨s0, s1, s2⟩ := hSr
      have i1 : (0 : Int) ≤ (k : Int) := by omega
      have i2 : (k : Int) < (n : Int) := by omega
      have i3 : (k : Int) < 600 := by omega
      clear hp hl hok hM hl' hs hk hk6
      cases hpop : s.p
      · rw [hpop] at s0
        have SS := Lib.hid (fun (V : World) (q : Keeps w V) => And.intro (hS.keep q).2.1 (hS.keep q).2.2)
        have P1 := Lib.hid (K.push ⟨s.k, s.i⟩ (HM.out.keep (keeps_drew _)).mine.h ⟨hso.k, hso.i⟩ (by have := HL.out; omega))
        go_wp2_with fail
        go_region_held3 (fun V => V.cell? ⟨(ad.add (k * 3)).block, (ad.add (k * 3)).off + 1, none⟩ = some (.int .u64 (s.k : Int)) ∧ V.cell? ⟨(ad.add (k * 3)).block, (ad.add (k * 3)).off + 1 + 1, none⟩ = some (.int .u32 (s.i : Int))) (exact SS.out _ (by first | assumption | exact keeps_trans hkp (keeps_drew _))) (first
          | (go_at_call 13; refine P1.out.mono ?_; rintro ee w3 ⟨F3, rfl, h3, t3⟩; have hM3 := (HM.out.keep (keeps_drew _)).next1 h3 t3 (keeps_trans hkp (keeps_drew _)).size; have hk3 := t3.keeps (keeps_trans hkp (keeps_drew _)) HM.out.mine.b; clear h3 t3 P1)
          | (go_at_call 14; refine (refPush_any ⟨s.k, s.i⟩ hM3.ref (by have := HL.out; have := HL'.out; omega) hk3.size).mono ?_; rintro ee w4 ⟨v4, rfl, h4, t4⟩; have hM4 := hM3.next2 h4 t4; have hk4 := hM3.keeps2 t4 hk3 (Nat.le_refl _); clear h4 t4))
        have P5 := Lib.hid (K.len hM4.mine.h (by have := HL.out; simp; omega))
        clear hM3 hk3 s0 s1 s2
        have hlen1 : ((⟨s.k, s.i⟩ : It) :: l).length = l.length + 1 := rfl
        have hlen2 : (l' ++ [(⟨s.k, s.i⟩ : It)]).length = l.length + 1 := by rw [List.length_append, ← HL'.out]; rfl
        rw [hlen1] at P5
        go_wp2_with fail
        refine P5.out.mono ?_
        rintro ee w5 ⟨rfl, k5⟩
        have hM5 := hM4.keep k5
        have hk5 := keeps_trans hk4 k5
        have P6 := Lib.hid (refLen_any hM5.ref (by rw [hlen2]; have := HL.out; omega))
        rw [hlen2] at P6
        clear hM4 hk4 k5 P5 hlen1 hlen2
        go_wp2_with fail
        refine P6.out.mono ?_
        rintro ee w6 ⟨rfl, rfl⟩
        go_wp2_with fail
        go_roundw
        case rel => exact ⟨k + 1, _, _, _, _, by omega, by omega, by go_num, (HP.out.cons _).trans (List.perm_append_singleton _ _).symm, by simp only [List.length_cons]; have := HL.out; omega, fun y hy => by
          rcases List.mem_cons.1 hy with rfl | hy
          · exact ⟨hso.k, hso.i⟩
          · exact HOK.out y hy, hM5, hk5⟩
        case measure => simp [intOf]; omega
      · rw [hpop] at s0
        clear s1 s2
        by_cases hz : l = []
        · subst hz
          have hz' : l' = [] := List.eq_nil_of_length_eq_zero (by have := HL'.out; simpa using this.symm)
          subst hz'
          have P1 := Lib.hid (K.empty HM.out.mine.h)
          go_wp2_with fail
          refine P1.out.mono ?_
          rintro ee w3 ⟨F3, rfl, h3, t3⟩
          have hM3 := HM.out.next1 h3 t3 hkp.size
          have hk3 := t3.keeps hkp HM.out.mine.b
          have kz := keeps_alloc w3 (.cells #[.int .u64 0, .int .u32 0] 32)
          have BX := Box.new w3 32 #[.int .u64 0, .int .u32 0]
          have hM4 := hM3.keep kz
          have hk4 := keeps_trans hk3 kz
          clear h3 t3 hM3 hk3 kz P1 s0
          go_wp2_with fail
          generalize w3.alloc (.cells #[.int .u64 0, .int .u32 0] 32) = W4 at *
          refine (refPop_none hM4.ref).mono ?_
          rintro ee w5 ⟨rfl, k5⟩
          have BX5 := BX.keep k5
          have kz := keeps_alloc w5 (.cells #[.int .u64 0, .int .u32 0] 32)
          have hM5 := (hM4.keep k5).keep kz
          have hk5 := keeps_trans hk4 (keeps_trans k5 kz)
          have a0 := BX5.cell 0 rfl
          have a1 := BX5.cell 1 rfl
          have la := BX5.lt
          clear k5 kz hM4 hk4 BX
          have P5 := Lib.hid (K.len hM5.mine.h (by simp))
          go_wp2_with fail
          refine P5.out.mono ?_
          rintro ee w6 ⟨rfl, k6⟩
          have hM6 := hM5.keep k6
          have hk6 := keeps_trans hk5 k6
          have P6 := Lib.hid (refLen_any hM6.ref (by simp))
          clear hM5 hk5 k6 P5 a0 a1
          go_wp2_with fail
          refine P6.out.mono ?_
          rintro ee w7 ⟨rfl, rfl⟩
          go_wp2_with fail
          go_roundw
          case rel => exact ⟨k + 1, _, _, [], [], by omega, by omega, by go_num, List.Perm.refl _, Nat.zero_le _, fun y hy => by simp at hy, hM6, hk6⟩
          case measure => simp [intOf]; omega
        · obtain ⟨x, hxm⟩ := least_of hz
          have hle : (l.erase x).length = l.length - 1 := List.length_erase_of_mem hxm.mem
          have hposl : 0 < l.length := List.length_pos_iff.2 hz
          have P1 := Lib.hid (K.pop x HM.out.mine.h hxm HOK.out (by have := HL.out; omega))
          have HXM := Lib.hid (And.intro hxm (And.intro hle hposl))
          clear hxm hz hle hposl
          go_wp2_with fail
          refine P1.out.mono ?_
          rintro ee w3 ⟨F3, rfl, h3, t3⟩
          have hM3 := HM.out.next1 h3 t3 hkp.size
          have hk3 := t3.keeps hkp HM.out.mine.b
          have kz := keeps_alloc w3 (.cells #[.int .u64 (x.k : Int), .int .u32 (x.i : Int)] 32)
          have BX := Box.new w3 32 #[.int .u64 (x.k : Int), .int .u32 (x.i : Int)]
          have nx : ¬ RS rb v w3.heap.size := fun e => Nat.lt_irrefl _ (hM3.ref.lt _ e).2
          have hM4 := hM3.keep kz
          have hk4 := keeps_trans hk3 kz
          clear h3 t3 hM3 hk3 kz P1 s0
          go_wp2_with fail
          generalize w3.alloc (.cells #[.int .u64 (x.k : Int), .int .u32 (x.i : Int)] 32) = W4 at *
          refine (refPop_some hM4.ref (by have := HL'.out; have := HXM.out.2.2; omega) (by have := HL'.out; have := HL.out; omega)).mono ?_
          rintro ee w5 ⟨x', v5, l5, rfl, hx5, hp5, h5, t5⟩
          obtain rfl : x = x' := (HXM.out.1.perm HP.out).eq hx5
          have BX5 := Box.turn BX t5 nx
          have kz := keeps_alloc w5 (.cells #[.int .u64 (x.k : Int), .int .u32 (x.i : Int)] 32)
          have hM5 := (hM4.next2 h5 t5).keep kz
          have hk5 := keeps_trans (hM4.keeps2 t5 hk4 (Nat.le_refl _)) kz
          obtain ⟨a0, a1⟩ := ItBox.cells BX5
          have la := BX5.lt
          have hpe : (l.erase x).Perm l5 := List.Perm.cons_inv ((List.perm_cons_erase HXM.out.1.mem).symm.trans (HP.out.trans hp5.symm))
          have HPE := Lib.hid hpe
          have hl5 : l5.length = l.length - 1 := by rw [← hpe.length_eq]; exact HXM.out.2.1
          clear h5 t5 kz hM4 hk4 BX hx5 hp5 hpe nx
          have P5 := Lib.hid (K.len hM5.mine.h (by have := HL.out; have := HXM.out.2.1; omega))
          rw [HXM.out.2.1] at P5
          have HL5 := Lib.hid hl5
          clear hl5
          obtain ⟨m1, hm1⟩ : ∃ m1, m1 = l.length - 1 := ⟨_, rfl⟩
          rw [← hm1] at P5 HL5
          have HM1 := Lib.hid hm1
          clear hm1
          go_wp2_with fail
          refine P5.out.mono ?_
          rintro ee w6 ⟨rfl, k6⟩
          have hM6 := hM5.keep k6
          have hk6 := keeps_trans hk5 k6
          have P6 := Lib.hid (refLen_any hM6.ref (by rw [HL5.out, HM1.out]; have := HL.out; omega))
          rw [HL5.out] at P6
          clear hM5 hk5 k6 P5 a0 a1
          go_wp2_with fail
          refine P6.out.mono ?_
          rintro ee w7 ⟨rfl, rfl⟩
          go_wp2_with fail
          go_roundw
          case rel => exact ⟨k + 1, _, _, _, _, by omega, by omega, by go_num, HPE.out, by have := HXM.out.2.1; have := HL.out; omega, fun y hy => HOK.out y (List.mem_of_mem_erase hy), hM6, hk6⟩
          case measure => simp [intOf]; omega
    · clear hp hl hok hM
      by_cases h1 : k < n
      · have h2 : decide ((k : Int) < 600) = false := decide_eq_false (by omega)
        clear hlt hk hk6
        go_wp2_with fail
        refine (WW.out _).mono ?_
        rintro ee w6 ⟨rfl, k6⟩
        go_wp2_with fail
        go_ret
        exact ⟨rfl, keeps_trans hkp k6⟩
      · clear hlt
        go_wp2_with fail
        refine (WW.out _).mono ?_
        rintro ee w6 ⟨rfl, k6⟩
        go_wp2_with fail
        go_ret
        exact ⟨rfl, keeps_trans hkp k6⟩
end Go.Proofs.Ytldmecannmifiaa
