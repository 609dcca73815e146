/- JournalBacks. (Written by mkback9.py.) -/
import Derived.Test.YtiohijkelagloaaDoorQLawJr
import Derived.Test.YtiohijkelagloaaDoorQJrU
import Derived.Test.YtiohijkelagloaaDoorQJrSure
import Derived.Deep.RegionHeld3
namespace Go.Proofs.YtiohijkelagloaaDoor
open Go.RowKit
set_option linter.unusedSimpArgs false
set_option linter.unusedVariables false
set_option maxRecDepth 100000

theorem strX : str nmX = ⟨#[120]⟩ := rfl
theorem At.ofBox {w : World} {b : Nat} {t : TypeId} {cs : List Value} {B : Nat} (h : Box w b t cs.toArray) (hB : b < B) : At w B (some ⟨b, 0, none⟩) cs :=
  .inr ⟨_, rfl, hB, fun j u hu => by
    rw [Addr.add_lit, Nat.zero_add]
    exact h.cell j (by simpa using hu)⟩
theorem whole_read {f : Fl} {L : List RecS} (h : Clean f L) (hm : L.length ≤ 16384) : readS (DJ 1024 f 0 false) nmJ 0 1048576 = (f.now, 0) := by
  have e := readj (q := 1024) h.name 0 0 1048576
  rw [List.drop_zero, List.take_of_length_le (by rw [h.len]; omega)] at e
  exact e
theorem whole_any {K : DiskOk} {w0 w : World} {b : Nat} {F : Nat → Prop} {f : Fl} {L : List RecS} (h : Have K w0 w b F (DJ 1024 f 0 false)) (hZ : K.Z w0) (hc : Clean f L) (n : Nat) (hn : n = 64 * L.length) (h0 : 0 < L.length) (hm : L.length ≤ 16384) :
    Calls Tryd.prog 28 #[.pointer (some ⟨b, 0, none⟩), .string ⟨#[106, 111, 117, 114, 110, 97, 108]⟩, .int .i64 0, .int .i64 1048576] w fun e w' => ∃ A c bl, e = .returned (.tuple #[.slice A n c, .int .i64 0]) ∧ bl ≠ [] ∧ n = bl.length ∧ Bs w' A bl ∧ Have K w0 w' b F (DJ 1024 f 0 false) ∧ Keeps w w' := by
  obtain rfl : n = f.now.length := by rw [hc.len, hn]
  refine (h.read_ hZ nmJ 0 1048576 ⟨by decide, by decide⟩ ⟨by decide, by decide⟩ _ strJ.symm (whole_read hc hm)).mono ?_
  rintro e w' ⟨A, c, rfl, -, ho, hh, hk⟩
  exact ⟨A, c, f.now, rfl, fun e => by have h2 := hc.len; rw [e] at h2; simp at h2; omega, rfl, ho.at_, hh, hk⟩
set_option maxHeartbeats 16000000 in
theorem backs9_walk (K : DiskOk) (A : Option Addr) (n c : Nat) (l : List RecS) (k : Int) (hk : IsI k) (r : RecS) (hr : RecOk r) (w : World) (hZ : K.Z w) (hS : Sizes w) (h : RecsAt w A l) (hn : n = l.length) (hc : n ≤ c) (hnx : n ≤ maxLen) :
    Calls Tryd.prog 7 #[.slice A n c, .int .i64 k, .agg #[.int .u32 (r.kind : Int), .int .u32 (r.a : Int), .int .u32 (r.b : Int)]] w (Yes9 w) := by
  have k0 := keeps_alloc w (.cells #[.int .u32 (r.kind : Int), .int .u32 (r.a : Int), .int .u32 (r.b : Int)] 43)
  have BX := Box.new w 43 #[.int .u32 (r.kind : Int), .int .u32 (r.a : Int), .int .u32 (r.b : Int)]
  obtain ⟨W0, hW0⟩ : ∃ W0, w.alloc (.cells #[.int .u32 (r.kind : Int), .int .u32 (r.a : Int), .int .u32 (r.b : Int)] 43) = W0 := ⟨_, rfl⟩
  rw [hW0] at k0 BX
  have WK := Lib.hid (fun (W : World) (q : Keeps w W) => works9 K W (K.keep hZ q) (hS.keep q))
  have HZ := Lib.hid (K.keep hZ k0)
  have HS := Lib.hid (hS.keep k0)
  have H := Lib.hid (h.keep k0)
  have HN := Lib.hid hn
  have K0 := Lib.hid k0
  have CR := Lib.hid (show ∀ V : World, Keeps W0 V → V.cell? ⟨w.heap.size, 0, none⟩ = some (.int .u32 (r.kind : Int)) ∧ V.cell? ⟨w.heap.size, 1, none⟩ = some (.int .u32 (r.a : Int)) ∧ V.cell? ⟨w.heap.size, 2, none⟩ = some (.int .u32 (r.b : Int)) from fun V kk => ⟨(BX.keep kk).cell 0 rfl, (BX.keep kk).cell 1 rfl, (BX.keep kk).cell 2 rfl⟩)
  obtain ⟨p0, p1, p2⟩ := CR.out W0 (keeps_refl _)
  have N := Lib.hid (newJ_ K W0 HZ.out)
  have hk1 := hk.1
  have hk2 := hk.2
  have HRO := Lib.hid hr
  unfold maxLen at hnx
  by_cases big : 40 < n ∨ r.kind = 0
  · have ways : (40 : Int) < (n : Int) ∨ (¬ (40 : Int) < (n : Int) ∧ ((r.kind : Int) == 0) = true) := by
      rcases big with e | e
      · exact .inl (by omega)
      · by_cases e2 : 40 < n
        · exact .inl (by omega)
        · exact .inr ⟨by omega, by rw [beq_iff_eq]; omega⟩
    clear hZ hS h hn big
    go_enter Tryd.func7, Tryd.ntmps7
    rcases ways with x1 | ⟨x1, x2⟩
    all_goals
      go_wp2_with fail
      refine (WK.out _ K0.out).mono ?_
      rintro e w9 ⟨rfl, k9⟩
      go_wp2_with fail
      go_ret
      exact ⟨rfl, keeps_trans K0.out k9⟩
  · have bi : ¬ (40 : Int) < (n : Int) := by omega
    have b0 : (n : Int) ≤ 40 := by omega
    have kk0 : ((r.kind : Int) == 0) = false := by rw [beq_eq_false_iff_ne]; omega
    have HNB := Lib.hid (show n ≤ 40 by omega)
    have HKN := Lib.hid (show r.kind ≠ 0 by omega)
    clear hZ hS h hn big
    go_enter Tryd.func7, Tryd.ntmps7
    go_wp2_with fail
    refine N.out.mono ?_
    rintro e w1 ⟨b, F1, rfl, h1⟩
    have C1 := Lib.hid (jrOpen_any h1 HZ.out HS.out open0J)
    have K1 := Lib.hid h1.kp
    clear h1
    go_wp2_with fail
    refine C1.out.mono ?_
    rintro e w2 ⟨F2, h2, t2, ⟨-, jb, G2, rfl, hj, hd⟩ | ⟨hbad, -⟩⟩
    rotate_left
    · exact absurd rfl hbad
    have L2 := Lib.hid (show LaidJ K W0 w2 b jb F2 G2 (syncF f0J) [] from ⟨h2, Clean.none.sync, hj.base_le K1.out.size, hd, Fine.nil⟩)
    clear h2 t2 hj hd
    go_wp2_with fail
    go_loopw [10] (fun i wr => ∃ (j : Nat) (F' G' : Nat → Prop) (f : Fl), j ≤ n ∧ i = .int .i64 j ∧ Hid (LaidJ K W0 wr b jb F' G' f (l.take j))) (fun i _ => n - (intOf i).toNat)
    case atStart => exact ⟨0, F2, G2, _, Nat.zero_le _, rfl, L2⟩
    case round =>
      obtain ⟨j, F', G', f, hj, rfl, HL⟩ := hrel
      by_cases hlt : j < n
      · have hjn : (j : Int) < (n : Int) := by omega
        obtain ⟨x, hx⟩ : ∃ x, l[j]? = some x := ⟨_, List.getElem?_eq_getElem (by have := HN.out; omega)⟩
        have hro := H.out.ok x (List.mem_of_getElem? hx)
        obtain ⟨ad, rfl, a0, a1, a2⟩ := rec_cells (H.out.keep HL.out.h.kp).cells hx
        have htk : l.take (j + 1) = l.take j ++ [x] := by rw [List.take_add_one, hx]; rfl
        have HTK := Lib.hid htk
        have hlen : (l.take j).length = j := by rw [List.length_take]; have := HN.out; omega
        by_cases hkx : x.kind = 0
        · have hkk : ((x.kind : Int) == 0) = true := by rw [beq_iff_eq]; omega
          have KL := Lib.hid (keeps_trans K0.out HL.out.h.kp)
          clear hlen htk hx hkx hlt
          go_wp2_with fail
          refine (WK.out _ KL.out).mono ?_
          rintro e w9 ⟨rfl, k9⟩
          go_wp2_with fail
          go_ret
          exact ⟨rfl, keeps_trans KL.out k9⟩
        · have hkk : ((x.kind : Int) == 0) = false := by rw [beq_eq_false_iff_ne]; omega
          obtain ⟨g, hg, hcl⟩ := addJ_on (q := 1024) HL.out.clean (r := x) hkx (by omega) (by omega)
          have AD := Lib.hid (jrAdd_any HL.out.h HZ.out HS.out HL.out.at_ HL.out.out (Nat.le_refl _) x hro hg)
          rw [if_pos rfl] at AD
          have FI := Lib.hid (HL.out.fine.snoc hro hkx)
          have CL := Lib.hid hcl
          have e1 : ((0 : Int) != 0) = false := rfl
          unfold recC at AD
          clear hlen htk hx hkx hlt hg hcl
          go_wp2_with fail
          refine AD.out.mono ?_
          rintro e w3 ⟨rfl, F3, G3, h3, j3, d3, -⟩
          have L3 := Lib.hid (show LaidJ K W0 w3 b jb F3 G3 g (l.take (j + 1)) by rw [HTK.out]; exact ⟨h3, CL.out, j3, d3, FI.out⟩)
          clear h3 j3 d3 a0 a1 a2
          go_wp2_with fail
          go_roundw
          case rel => exact ⟨j + 1, F3, G3, g, by omega, by go_num, L3⟩
          case measure => simp [intOf]; omega
      · obtain rfl : j = n := by omega
        have L9 := Lib.hid (show LaidJ K W0 wr b jb F' G' f l by have := HL.out; rwa [List.take_of_length_le (by have := HN.out; omega)] at this)
        clear hlt hj HL
        by_cases bad : k < 0 ∨ (j : Int) < k
        · have BK := Lib.hid (jrBack_any L9.out.h HZ.out L9.out.at_ L9.out.out (Nat.le_refl _) k hk (backJ_none (s := DJ 1024 f 0 false) (l := l) (n := k) (by have := HN.out; omega)))
          rw [if_neg (by decide)] at BK
          have ways : k < 0 ∨ (¬ k < 0 ∧ (j : Int) < k) := by omega
          clear bad
          go_wp2_with fail
          refine BK.out.mono ?_
          rintro e w3 ⟨rfl, F3, G3, h3, j3, d3, -⟩
          have RC := Lib.hid (jrRecs_any j3)
          have K3 := Lib.hid h3.kp
          have SM := Lib.hid (fun (V : World) (kk : Keeps w3 V) (A5 : Option Addr) (c5 : Nat) (o : At V V.heap.size A5 (rowsC l)) => same9_any A5 l.length c5 l A j c l V o rfl (H.out.keep (keeps_trans K3.out kk)).cells HN.out (by have := HN.out; have := HNB.out; omega))
          rw [decide_eq_true rfl] at SM
          clear h3 j3 d3
          rcases ways with x1 | ⟨x1, x2⟩
          all_goals
            go_wp2_with fail
            refine RC.out.mono ?_
            rintro e w4 ⟨A4, c4, rfl, o4, k4⟩
            have S4 := Lib.hid (SM.out _ k4 A4 c4 o4.at_)
            have K4 := Lib.hid (keeps_trans K3.out k4)
            clear o4 k4
            go_wp2_with fail
            refine S4.out.mono ?_
            rintro e w5 ⟨rfl, k5⟩
            have K5 := Lib.hid (keeps_trans K0.out (keeps_trans K4.out k5))
            clear k5
            go_wp2_with fail
            refine (WK.out _ K5.out).mono ?_
            rintro e w9 ⟨rfl, k9⟩
            go_wp2_with fail
            go_ret
            exact ⟨rfl, keeps_trans K5.out k9⟩
        · obtain ⟨m, rfl⟩ : ∃ m : Nat, k = (m : Int) := ⟨k.toNat, by omega⟩
          have hmj : m ≤ j := by omega
          obtain ⟨g3, hg3, hc3⟩ := backJ_on (q := 1024) L9.out.clean (n := m) (by have := HN.out; omega)
          have BK := Lib.hid (jrBack_any L9.out.h HZ.out L9.out.at_ L9.out.out (Nat.le_refl _) (m : Int) hk hg3)
          rw [if_pos rfl, Int.toNat_natCast] at BK
          have hl3 : (l.take m).length = m := by rw [List.length_take]; have := HN.out; omega
          obtain ⟨g4, hg4, hc4⟩ := addJ_on (q := 1024) hc3 (r := r) HKN.out (by omega) (by omega)
          have HG4 := Lib.hid (And.intro hg4 hc4)
          have HL3 := Lib.hid hl3
          have FT := Lib.hid (L9.out.fine.take m)
          have FW := Lib.hid ((L9.out.fine.take m).snoc hr HKN.out)
          obtain ⟨L, hL⟩ : ∃ L, L = l.take m ++ [r] := ⟨_, rfl⟩
          have HLL := Lib.hid hL
          have HLN := Lib.hid (show L.length = m + 1 by rw [hL, List.length_append, hl3]; rfl)
          have x1 : ¬ (m : Int) < 0 := by omega
          have x2 : ¬ (j : Int) < (m : Int) := by omega
          have x3 : (m : Int) ≤ 40 := by omega
          have x4 : (m : Int) ≤ (c : Int) := by omega
          have HMJ := Lib.hid hmj
          have e1 : ((0 : Int) != 0) = false := rfl
          have e2 : ((0 : Int) == 0) = true := rfl
          clear bad hg3 hc3 hg4 hc4 hl3 hL hmj
          go_wp2_with fail
          refine BK.out.mono ?_
          rintro e w3 ⟨rfl, F3, G3, h3, j3, d3, -⟩
          have AD := Lib.hid (jrAdd_any h3 HZ.out HS.out j3 d3 (Nat.le_refl _) r HRO.out HG4.out.1)
          rw [if_pos rfl, ← HLL.out] at AD
          obtain ⟨q0, q1, q2⟩ := CR.out w3 h3.kp
          unfold recC at AD
          clear h3 j3 d3
          go_wp2_with fail
          refine AD.out.mono ?_
          rintro e w4 ⟨rfl, F4, G4, h4, j4, d4, -⟩
          have H4 := Lib.hid h4
          have J4 := Lib.hid j4
          have D4 := Lib.hid d4
          have CL4 := Lib.hid (show Clean g4 L by rw [HLL.out]; exact HG4.out.2)
          clear h4 j4 d4 q0 q1 q2
          obtain ⟨i0, hi, hz0, hz1, hz2⟩ := info_parts infoRec
          have ka := keeps_trans (keeps_drew w4) (keeps_alloc w4.drew (.cells #[] 43))
          have kb := keeps_trans ka (keeps_alloc (w4.drew.alloc (.cells #[] 43)) (.cells #[.int .u32 (r.kind : Int), .int .u32 (r.a : Int), .int .u32 (r.b : Int)] 43))
          have kr := keeps_trans (keeps_drew w4) (keeps_alloc w4.drew (.cells #[.int .u32 (r.kind : Int), .int .u32 (r.a : Int), .int .u32 (r.b : Int)] 43))
          have kc := keeps_trans kr (keeps_alloc (w4.drew.alloc (.cells #[.int .u32 (r.kind : Int), .int .u32 (r.a : Int), .int .u32 (r.b : Int)] 43)) (.cells #[] 43))
          have Oa := Lib.hid (own_emptyJ w4.drew 43 3)
          have Ob := Lib.hid (Oa.out.keep (keeps_alloc (w4.drew.alloc (.cells #[] 43)) (.cells #[.int .u32 (r.kind : Int), .int .u32 (r.a : Int), .int .u32 (r.b : Int)] 43)))
          have Oc := Lib.hid ((own_emptyJ (w4.drew.alloc (.cells #[.int .u32 (r.kind : Int), .int .u32 (r.a : Int), .int .u32 (r.b : Int)] 43)) 43 3).base_le kr.size)
          have Bb := Lib.hid (Box.new (w4.drew.alloc (.cells #[] 43)) 43 #[.int .u32 (r.kind : Int), .int .u32 (r.a : Int), .int .u32 (r.b : Int)])
          have Bc := Lib.hid ((Box.new w4.drew 43 #[.int .u32 (r.kind : Int), .int .u32 (r.a : Int), .int .u32 (r.b : Int)]).keep (keeps_alloc (w4.drew.alloc (.cells #[.int .u32 (r.kind : Int), .int .u32 (r.a : Int), .int .u32 (r.b : Int)] 43)) (.cells #[] 43)))
          have KA := Lib.hid ka
          have KB := Lib.hid kb
          have KC := Lib.hid kc
          have KR := Lib.hid kr
          have NE := Lib.hid (show (w4.drew.alloc (.cells #[] 43)).heap.size = w4.heap.size + 1 by
            show (w4.drew.heap.push _).size = _
            rw [Array.size_push]; rfl)
          have NR := Lib.hid (show (w4.drew.alloc (.cells #[.int .u32 (r.kind : Int), .int .u32 (r.a : Int), .int .u32 (r.b : Int)] 43)).heap.size = w4.heap.size + 1 by
            show (w4.drew.heap.push _).size = _
            rw [Array.size_push]; rfl)
          have TK := Lib.hid (fun (V : World) (kk : Keeps w4 V) => (H.out.keep (keeps_trans H4.out.kp kk)).cells.ofRecs m)
          have S4 := CR.out w4.drew (keeps_trans H4.out.kp (keeps_drew _))
          have ONE := Lib.hid (show ∀ u ∈ rowsC (l.take m), u.oneCell' = true from fun u hu => by
            obtain ⟨y, -, hy⟩ := List.mem_flatMap.1 hu
            exact recC_one y u hy)
          have RL := Lib.hid (show (rowsC (l.take m)).length = m * 3 by rw [rowsC_length, HL3.out, Nat.mul_comm])
          have SW := Lib.hid (fun (V : World) (A : Option Addr) (c : Nat) (o : Own V w4.heap.size 43 3 (.slice A (m + 1) c) (m + 1) (rowsC (l.take m) ++ recC r)) => show SureAt W0 V F4 A (m + 1) c L from ⟨by
              rw [HLL.out, rowsC_snoc]
              exact o.base_le H4.out.kp.size, HLN.out.symm, fun g hg hf => by
            have h1 := (o.lt g hg).1
            have h2 := K.lt H4.out.D g hf
            omega⟩)
          clear ka kb kr kc
          go_wp2_with fail
          go_region_held3 (fun V => V.cell? ⟨w.heap.size, 0, none⟩ = some (.int .u32 (r.kind : Int)) ∧ V.cell? ⟨w.heap.size, 1, none⟩ = some (.int .u32 (r.a : Int)) ∧ V.cell? ⟨w.heap.size, 2, none⟩ = some (.int .u32 (r.b : Int))) (first | assumption | exact CR.out _ (keeps_trans H4.out.kp (by first | assumption | exact keeps_drew _ | exact KA.out | exact KB.out | exact KC.out | exact KR.out | exact keeps_trans k5 (keeps_alloc _ _)))) (first
            | ((refine step_appJ rfl (.tmp 85) (.tmp 88) 36 rfl w4.heap.size 43 i0 (.agg #[.int .u32 0, .int .u32 0, .int .u32 0]) 3 12 Tryd.underlying36 hi hz0 hz1 hz2 rfl (by decide) _ 0 [] (by simp [Act.eval, Act.put]) Oa.out _ A m c (rowsC (l.take m)) (by simp [Act.eval, Act.put]) RL.out (TK.out _ KA.out) ONE.out (by unfold maxLen; omega) (by omega) KA.out.size ?_); intro v5 w5 hown5 hgrow5 hblk5; have k5 : Keeps w4 w5 := Below.grown KA.out hgrow5 KA.out.size (fun g hg => (Oa.out.lt g hg).1); have O5 := Lib.hid (show Own w5 w4.heap.size 43 3 v5 m (rowsC (l.take m)) by simpa using hown5); clear hown5 hgrow5 hblk5; obtain ⟨A5, c5, rfl, -⟩ := O5.out.form)
            | ((refine step_appJ rfl (.tmp 85) (.tmp 88) 36 rfl w4.heap.size 43 i0 (.agg #[.int .u32 0, .int .u32 0, .int .u32 0]) 3 12 Tryd.underlying36 hi hz0 hz1 hz2 rfl (by decide) _ 0 [] (by simp [Act.eval, Act.put]) Ob.out _ A m c (rowsC (l.take m)) (by simp [Act.eval, Act.put]) RL.out (TK.out _ KB.out) ONE.out (by unfold maxLen; omega) (by omega) KB.out.size ?_); intro v5 w5 hown5 hgrow5 hblk5; have k5 : Keeps w4 w5 := Below.grown KB.out hgrow5 KB.out.size (fun g hg => (Ob.out.lt g hg).1); have O5 := Lib.hid (show Own w5 w4.heap.size 43 3 v5 m (rowsC (l.take m)) by simpa using hown5); have B5 := Lib.hid (show Box w5 ((w4.drew.alloc (.cells #[] 43)).heap.size) 43 #[.int .u32 (r.kind : Int), .int .u32 (r.a : Int), .int .u32 (r.b : Int)] from (hgrow5.block _ Bb.out.lt (fun e => by have e2 := Option.some.inj (show some ((w4.drew.alloc (.cells #[] 43)).heap.size) = some w4.heap.size from e); have := NE.out; omega)).trans Bb.out); clear hown5 hgrow5 hblk5; obtain ⟨A5, c5, rfl, -⟩ := O5.out.form)
            | ((refine step_appJ rfl (.tmp 85) (.tmp 88) 36 rfl w4.heap.size 43 i0 (.agg #[.int .u32 0, .int .u32 0, .int .u32 0]) 3 12 Tryd.underlying36 hi hz0 hz1 hz2 rfl (by decide) _ 0 [] (by simp [Act.eval, Act.put]) Oc.out _ A m c (rowsC (l.take m)) (by simp [Act.eval, Act.put]) RL.out (TK.out _ KC.out) ONE.out (by unfold maxLen; omega) (by omega) KC.out.size ?_); intro v5 w5 hown5 hgrow5 hblk5; have k5 : Keeps w4 w5 := Below.grown KC.out hgrow5 KC.out.size (fun g hg => (Oc.out.lt g hg).1); have O5 := Lib.hid (show Own w5 w4.heap.size 43 3 v5 m (rowsC (l.take m)) by simpa using hown5); have B5 := Lib.hid (show Box w5 (w4.heap.size) 43 #[.int .u32 (r.kind : Int), .int .u32 (r.a : Int), .int .u32 (r.b : Int)] from (hgrow5.block _ Bc.out.lt (fun e => by have e2 := Option.some.inj (show some (w4.heap.size) = some (w4.drew.alloc (.cells #[.int .u32 (r.kind : Int), .int .u32 (r.a : Int), .int .u32 (r.b : Int)] 43)).heap.size from e); have := NR.out; omega)).trans Bc.out); clear hown5 hgrow5 hblk5; obtain ⟨A5, c5, rfl, -⟩ := O5.out.form)
            | ((refine step_appJ rfl (.tmp 89) (.tmp 91) 36 rfl w4.heap.size 43 i0 (.agg #[.int .u32 0, .int .u32 0, .int .u32 0]) 3 12 Tryd.underlying36 hi hz0 hz1 hz2 rfl (by decide) _ m _ (by simp [Act.eval, Act.put]) (O5.out.keep (keeps_alloc w5 (.cells #[.int .u32 (r.kind : Int), .int .u32 (r.a : Int), .int .u32 (r.b : Int)] 43))) _ (some ⟨w5.heap.size, 0, none⟩) 1 1 (recC r) (by simp [Act.eval, Act.put]) rfl (At.new _ _ _ _ (Nat.lt_succ_self _)) (recC_one r) (by unfold maxLen; omega) (by omega) (by have := k5.size; simp; omega) ?_); have KX := keeps_trans k5 (keeps_alloc w5 (.cells #[.int .u32 (r.kind : Int), .int .u32 (r.a : Int), .int .u32 (r.b : Int)] 43)); intro v6 w6 hown6 hgrow6 hblk6; have k6 : Keeps w4 w6 := Below.grown KX hgrow6 KX.size (fun g hg => (O5.out.lt g hg).1); obtain ⟨A6, c6, rfl, -⟩ := hown6.form; have WT := Lib.hid (SW.out w6 A6 c6 hown6); clear hown6 hgrow6 hblk6; have S6 := CR.out w6 (keeps_trans H4.out.kp k6))
            | ((refine step_appJ rfl (.tmp 89) (.tmp 91) 36 rfl w4.heap.size 43 i0 (.agg #[.int .u32 0, .int .u32 0, .int .u32 0]) 3 12 Tryd.underlying36 hi hz0 hz1 hz2 rfl (by decide) _ m _ (by simp [Act.eval, Act.put]) O5.out _ (some ⟨_, 0, none⟩) 1 1 (recC r) (by simp [Act.eval, Act.put]) rfl (At.ofBox B5.out (Nat.lt_succ_self _)) (recC_one r) (by unfold maxLen; omega) (by omega) k5.size ?_); have KX := k5; intro v6 w6 hown6 hgrow6 hblk6; have k6 : Keeps w4 w6 := Below.grown KX hgrow6 KX.size (fun g hg => (O5.out.lt g hg).1); obtain ⟨A6, c6, rfl, -⟩ := hown6.form; have WT := Lib.hid (SW.out w6 A6 c6 hown6); clear hown6 hgrow6 hblk6; have S6 := CR.out w6 (keeps_trans H4.out.kp k6)))
          all_goals
            have HA := Lib.hid (H4.out.keep k6)
            have JA := Lib.hid (J4.out.keep k6)
            have AR := Lib.hid (HA.out.armU_ HZ.out 1 ⟨by decide, by decide⟩ (armj g4 0 1))
            have e66 : ((6 : Int) != 6) = false := rfl
            have FL := Lib.hid (show Fine L by rw [HLL.out]; exact FW.out)
            obtain ⟨n6, hn6⟩ : ∃ n6, n6 = 64 * (m + 1) := ⟨_, rfl⟩
            have e64 : ((n6 : Int) == 64 * ((m : Int) + 1)) = true := by rw [beq_iff_eq]; omega
            have N6 := Lib.hid hn6
            clear S6 k6 k5 hn6 O5
            clear S4
            go_wp2_with fail
            refine AR.out.mono ?_
            rintro e w7 ⟨rfl, F7, h7, t7⟩
            have CR7 := Lib.hid (h7.createU_ HZ.out nmX _ strX.symm (createX g4))
            have J7 := Lib.hid (JA.out.turn t7 D4.out)
            have W7 := Lib.hid (WT.out.turn t7)
            clear h7 t7
            go_wp2_with fail
            refine CR7.out.mono ?_
            rintro e w8 ⟨rfl, F8, h8, t8⟩
            have ON8 := Lib.hid (h8.onU_ HZ.out none 0 0 [] (At.nil _ _ _) (fun ad h => by cases h) rfl (Nat.le_refl _) (by decide) (onj g4 0 []))
            have J8 := Lib.hid (J7.out.1.turn t8 J7.out.2)
            have W8 := Lib.hid (W7.out.turn t8)
            clear h8 t8
            go_wp2_with fail
            refine ON8.out.mono ?_
            rintro e w9 ⟨rfl, F9, h9, t9⟩
            obtain ⟨g9, ho9, hc9⟩ := open_on (CL4.out.back []) FL.out (by rw [HLN.out]; omega)
            have OP := Lib.hid (jrOpen_any h9 HZ.out HS.out ho9)
            have J9 := Lib.hid (J8.out.1.turn t9 J8.out.2)
            have W9 := Lib.hid (W8.out.turn t9)
            have HC9 := Lib.hid hc9
            clear h9 t9 ho9 hc9
            go_wp2_with fail
            refine OP.out.mono ?_
            rintro e w10 ⟨F10, h10, t10, ⟨-, jb2, G10, rfl, hj10, -⟩ | ⟨hbad, -⟩⟩
            rotate_left
            · exact absurd rfl hbad
            have RD := Lib.hid (whole_any h10 HZ.out HC9.out n6 (by rw [HLN.out]; exact N6.out) (by rw [HLN.out]; omega) (by rw [HLN.out]; omega))
            have J10 := Lib.hid (J9.out.1.turn t10 J9.out.2).1
            have W10 := Lib.hid (W9.out.turn t10)
            have JN := Lib.hid hj10
            clear h10 t10 hj10
            go_wp2_with fail
            refine RD.out.mono ?_
            rintro e w11 ⟨A11, c11, bl, rfl, hne, hbl, hbs, h11, k11⟩
            have RC := Lib.hid (jrRecs_any (JN.out.keep k11))
            rw [HLN.out] at RC
            have HNE := Lib.hid hne
            have HBL := Lib.hid hbl
            have HBS := Lib.hid hbs
            have K11 := Lib.hid k11
            have H11 := Lib.hid h11.kp
            clear hne hbl hbs h11 k11
            go_wp2_with fail
            refine RC.out.mono ?_
            rintro e w12 ⟨A12, c12, rfl, o12, k12⟩
            have SM := Lib.hid (same9_any A12 (m + 1) c12 L A6 (m + 1) c6 L w12 o12.at_ HLN.out.symm (W10.out.keep (keeps_trans K11.out k12)).own.at_ HLN.out.symm (by omega))
            rw [decide_eq_true rfl] at SM
            have K12 := Lib.hid k12
            clear o12 k12
            go_wp2_with fail
            refine SM.out.mono ?_
            rintro e w13 ⟨rfl, k13⟩
            have K13 := Lib.hid (keeps_trans K12.out k13)
            have RC2 := Lib.hid (jrRecs_any (J10.out.keep (keeps_trans K11.out K13.out)))
            rw [HLN.out] at RC2
            clear k13
            go_wp2_with fail
            refine RC2.out.mono ?_
            rintro e w14 ⟨A14, c14, rfl, o14, k14⟩
            have SM2 := Lib.hid (same9_any A14 (m + 1) c14 L A6 (m + 1) c6 L w14 o14.at_ HLN.out.symm (W10.out.keep (keeps_trans K11.out (keeps_trans K13.out k14))).own.at_ HLN.out.symm (by omega))
            rw [decide_eq_true rfl] at SM2
            have K14 := Lib.hid k14
            clear o14 k14
            go_wp2_with fail
            refine SM2.out.mono ?_
            rintro e w15 ⟨rfl, k15⟩
            have K15 := Lib.hid (keeps_trans K13.out (keeps_trans K14.out k15))
            have EQ := Lib.hid (eqBytes_any A11 n6 c11 bl none 0 0 [] w15 (HBS.out.keep K15.out) HBL.out (Bs.nil _ _) rfl)
            rw [decide_eq_false HNE.out] at EQ
            have KF := Lib.hid (keeps_trans K0.out (keeps_trans H11.out K15.out))
            clear k15
            go_wp2_with fail
            refine EQ.out.mono ?_
            rintro e w16 ⟨rfl, hw⟩
            obtain rfl := hw
            go_wp2_with fail
            refine (WK.out _ KF.out).mono ?_
            rintro e w17 ⟨rfl, k17⟩
            go_wp2_with fail
            go_ret
            exact ⟨rfl, keeps_trans KF.out k17⟩
end Go.Proofs.YtiohijkelagloaaDoor
