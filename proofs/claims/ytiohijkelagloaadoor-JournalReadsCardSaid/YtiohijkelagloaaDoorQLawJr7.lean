/- JournalReads. -/
import Derived.Test.YtiohijkelagloaaDoorQLawJr4
import Derived.Test.YtiohijkelagloaaDoorQJrU
import Derived.Test.YtiohijkelagloaaDoorQRefJr
namespace Go.Proofs.YtiohijkelagloaaDoor
open Go.RowKit
set_option linter.unusedSimpArgs false
set_option linter.unusedVariables false
set_option maxRecDepth 100000

set_option maxHeartbeats 16000000 in
theorem reads9_walk (K : DiskOk) (A : Option Addr) (n c : Nat) (l : List UInt8) (w : World) (hZ : K.Z w) (hS : Sizes w) (h : Bs w A l) (hn : n = l.length) (hc : n ≤ c) (hnx : n ≤ maxLen) :
    Calls Tryd.prog 3 #[.slice A n c] w (Yes9 w) := by
  have WK := Lib.hid (fun (W : World) (q : Keeps w W) => works9 K W (K.keep hZ q) (hS.keep q))
  have HZ := Lib.hid hZ
  have HS := Lib.hid hS
  have H := Lib.hid h
  have HN := Lib.hid hn
  have HC := Lib.hid hc
  have HX := Lib.hid hnx
  unfold maxLen at hnx
  by_cases big : 4096 < n
  · have bi : (4096 : Int) < (n : Int) := by omega
    clear hZ hS h hn big
    go_enter Tryd.func3, Tryd.ntmps3
    go_wp2_with fail
    refine (WK.out _ (keeps_refl _)).mono ?_
    rintro e w9 ⟨rfl, k9⟩
    go_wp2_with fail
    go_ret
    exact ⟨rfl, k9⟩
  · have bi : ¬ (4096 : Int) < (n : Int) := by omega
    have b0 : (n : Int) ≤ 4096 := by omega
    have HNB := Lib.hid (show n ≤ 4096 by omega)
    have N := Lib.hid (newJ_ K w hZ)
    clear hZ hS h hn big
    have e1 : ((0 : Int) != 0) = false := rfl
    have e2 : ((0 : Int) == 0) = true := rfl
    go_enter Tryd.func3, Tryd.ntmps3
    go_wp2_with fail
    refine N.out.mono ?_
    rintro e w1 ⟨b, F1, rfl, h1⟩
    have CR := Lib.hid (h1.createU_ HZ.out nmJ _ strJ.symm (s' := DJ 1024 f0J 0 false) (E := 0) (by rw [create0]; rfl))
    clear h1
    go_wp2_with fail
    refine CR.out.mono ?_
    rintro e w2 ⟨rfl, F2, h2, -⟩
    have CB := Lib.hid (copyBytes_any A n c l w2 (H.out.keep h2.kp) HN.out HX.out)
    have H2 := Lib.hid h2
    clear h2
    go_wp2_with fail
    refine CB.out.mono ?_
    rintro e w3 ⟨v3, rfl, o3, k3⟩
    obtain ⟨A3, c3, rfl, -⟩ := o3.form
    have HLL := Lib.hid (show l.length ≤ 4096 by have := HN.out; have := HNB.out; omega)
    have WR := Lib.hid ((H2.out.keep k3).writeU_ HZ.out nmJ ((0 : Nat) : Int) ⟨by decide, by decide⟩ _ strJ.symm o3 rfl (fun q hq hf => by have h1 := (o3.lt q hq).1; have h2 := K.lt H2.out.D q hf; omega) (by have := HLL.out; omega) (writej0 (q := 1024) (f := f0J) rfl (off := 0) (b := l) (by simp [f0J]) (by simp [f0J]; have := HLL.out; omega) (by simp [f0J]; have := HLL.out; omega)))
    rw [show ((0 : Nat) : Int) = 0 from rfl] at WR
    obtain ⟨f1, hf1⟩ : ∃ f1, writeF f0J 0 l = f1 := ⟨_, rfl⟩
    have NM := Lib.hid (show f1.name = nmJ by rw [← hf1]; rfl)
    have NOW := Lib.hid (show f1.now = l by rw [← hf1]; exact layB_nil l)
    rw [hf1] at WR
    clear o3 k3 hf1
    go_wp2_with fail
    refine WR.out.mono ?_
    rintro e w4 ⟨rfl, F4, h4, -⟩
    have SY := Lib.hid (h4.syncU_ HZ.out nmJ _ strJ.symm (syncj0 NM.out))
    clear h4
    go_wp2_with fail
    refine SY.out.mono ?_
    rintro e w5 ⟨rfl, F5, h5, -⟩
    obtain ⟨g, ho, hcl⟩ := openJ_file (q := 1024) (f := syncF f1) NM.out
    rw [show (syncF f1).now = l from NOW.out] at ho hcl
    have OP := Lib.hid (jrOpen_any h5 HZ.out HS.out ho)
    have CL := Lib.hid hcl
    have FI := Lib.hid (show Fine (recsOf l) from recsJ_fine _ _ _)
    have RL := Lib.hid (recsOf_fit l)
    have H5 := Lib.hid h5.kp
    clear h5 ho hcl
    obtain ⟨L, hL⟩ : ∃ L, L = (recsOf l).length := ⟨_, rfl⟩
    have hLb : L ≤ 64 := by have := RL.out; have := HLL.out; omega
    obtain ⟨p, hp⟩ : ∃ p, 64 * L = p := ⟨_, rfl⟩
    have hmul : (64 : Int) * (L : Int) = (p : Int) := by omega
    have hpb : (p : Int) ≤ 4096 := by omega
    have HP := Lib.hid hp
    have HL := Lib.hid hL
    have HLB := Lib.hid hLb
    have RD := Lib.hid (fun (V : World) (kk : Keeps w V) => rread_any A n c l V (H.out.keep kk) HN.out HC.out (by have := HNB.out; omega))
    generalize hrs : recsOf l = rs at *
    clear hrs hL hp hLb
    go_wp2_with fail
    refine OP.out.mono ?_
    rintro e w6 ⟨F6, h6, t6, ⟨-, j6, G6, rfl, hj6, hd6⟩ | ⟨hbad, -⟩⟩
    rotate_left
    · exact absurd rfl hbad
    have SZ := Lib.hid (h6.size_ HZ.out nmJ _ strJ.symm (n := p) (E := 0) (by rw [sizej CL.out.name, CL.out.len, ← HL.out, HP.out]))
    have H6 := Lib.hid h6
    have J6 := Lib.hid hj6
    have D6 := Lib.hid hd6
    clear h6 t6 hj6 hd6
    go_wp2_with fail
    refine SZ.out.mono ?_
    rintro e w7 ⟨rfl, h7, k7⟩
    have ho2 := openJ_clean (q := 1024) CL.out FI.out (by have := HL.out; have := HLB.out; omega) 0
    have OP2 := Lib.hid (jrOpen_any h7 HZ.out HS.out (s' := DJ 1024 (syncF g) 0 false) (E := 0) (l := rs) ho2)
    have J7 := Lib.hid (J6.out.keep k7)
    clear h7 k7 ho2
    go_wp2_with fail
    refine OP2.out.mono ?_
    rintro e w8 ⟨F8, h8, t8, ⟨-, j8, G8, rfl, hj8, hd8⟩ | ⟨hbad, -⟩⟩
    rotate_left
    · exact absurd rfl hbad
    have J68 := Lib.hid (J7.out.turn t8 D6.out).1
    have J8 := Lib.hid hj8
    have K8 := Lib.hid h8.kp
    have RD8 := Lib.hid (RD.out _ h8.kp)
    clear h8 t8 hj8 hd8
    go_wp2_with fail
    refine RD8.out.mono ?_
    rintro e w9 ⟨v9, rfl, o9, k9⟩
    rw [← HL.out] at o9
    obtain ⟨A9, c9, rfl, -⟩ := o9.form
    have O9 := Lib.hid o9
    have K9 := Lib.hid k9
    have R1 := Lib.hid (jrRecs_any (J68.out.keep k9))
    rw [← HL.out] at R1
    have SM := Lib.hid (fun (V : World) (kk : Keeps w9 V) (A7 : Option Addr) (c7 : Nat) (o : At V V.heap.size A7 (rowsC rs)) => same9_any A7 L c7 rs A9 L c9 rs V o HL.out (O9.out.keep kk).at_ HL.out (by have := HLB.out; omega))
    rw [decide_eq_true rfl] at SM
    clear o9 k9
    go_wp2_with fail
    refine R1.out.mono ?_
    rintro e w10 ⟨A10, c10, rfl, o10, k10⟩
    have S10 := Lib.hid (SM.out _ k10 A10 c10 o10.at_)
    have K10 := Lib.hid k10
    clear o10 k10
    go_wp2_with fail
    refine S10.out.mono ?_
    rintro e w11 ⟨rfl, k11⟩
    have K11 := Lib.hid (keeps_trans K10.out k11)
    have R2 := Lib.hid (jrRecs_any (J8.out.keep (keeps_trans K9.out K11.out)))
    rw [← HL.out] at R2
    clear k11
    go_wp2_with fail
    refine R2.out.mono ?_
    rintro e w12 ⟨A12, c12, rfl, o12, k12⟩
    have S12 := Lib.hid (SM.out _ (keeps_trans K11.out k12) A12 c12 o12.at_)
    have K12 := Lib.hid (keeps_trans K11.out k12)
    clear o12 k12
    go_wp2_with fail
    refine S12.out.mono ?_
    rintro e w13 ⟨rfl, k13⟩
    have K13 := Lib.hid (keeps_trans K8.out (keeps_trans K9.out (keeps_trans K12.out k13)))
    have e3 : ((p : Int) == (p : Int)) = true := by simp
    clear k13
    go_wp2_with fail
    refine (WK.out _ K13.out).mono ?_
    rintro e w14 ⟨rfl, k14⟩
    go_wp2_with fail
    go_ret
    exact ⟨rfl, keeps_trans K13.out k14⟩
end Go.Proofs.YtiohijkelagloaaDoor
