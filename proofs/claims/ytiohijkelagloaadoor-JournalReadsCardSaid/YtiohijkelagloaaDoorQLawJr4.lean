/- JournalMoves. -/
import Derived.Test.YtiohijkelagloaaDoorQLawJr
import Derived.Test.YtiohijkelagloaaDoorQJrMove
namespace Go.Proofs.YtiohijkelagloaaDoor
open Go.RowKit
set_option linter.unusedSimpArgs false
set_option linter.unusedVariables false
set_option maxRecDepth 100000

theorem Have.writeU_ {K : DiskOk} {w0 w : World} {b : Nat} {F : Nat → Prop} {s : Ds} (h : Have K w0 w b F s) (hZ : K.Z w0) (nm : List UInt8) (off : Int) (hn : IsI off) (sv : ByteArray) (hv : sv = str nm) {base : Nat} {A : Option Addr} {c n : Nat} {l : List UInt8} (hO : Own w base 5 1 (.slice A n c) n (cel l)) (hl : n = l.length) (hF : ∀ k, (Value.slice A n c).ownBlock = some k → ¬ F k) (hm : n ≤ 70000) {s' : Ds} {E : Nat} (hs : writeS s nm off l = (s', E)) (hnm : nm.length ≤ maxLen := by decide) :
    Calls Tryd.prog 13 #[.pointer (some ⟨b, 0, none⟩), .string sv, .int .i64 off, .slice A n c] w (WentU K w0 w b F s' E) := by
  subst hv
  exact h.went hs (K.write nm off A n c l (h.z hZ) h.D hnm hn.1 hn.2 hO.at_ (fun ad ha => by subst ha; exact hF ad.block rfl) hl hO.capj.1 hm)
set_option maxHeartbeats 16000000 in
theorem moves9_walk (K : DiskOk) (A : Option Addr) (n c : Nat) (l : List RecS) (x : Nat) (hx : x < 256) (y : Nat) (hy : y < 256) (w : World) (hZ : K.Z w) (hS : Sizes w) (h : RecsAt w A l) (hn : n = l.length) (hc : n ≤ c) (hnx : n ≤ maxLen) :
    Calls Tryd.prog 9 #[.slice A n c, .int .u8 (x : Int), .int .u8 (y : Int)] w (Yes9 w) := by
  have WK := Lib.hid (fun (W : World) (q : Keeps w W) => works9 K W (K.keep hZ q) (hS.keep q))
  have HZ := Lib.hid hZ
  have HS := Lib.hid hS
  have H := Lib.hid h
  have HN := Lib.hid hn
  unfold maxLen at hnx
  by_cases big : 60 < n
  · have bi : (60 : Int) < (n : Int) := by omega
    clear hZ hS h hn big
    go_enter Tryd.func9, Tryd.ntmps9
    go_wp2_with fail
    refine (WK.out _ (keeps_refl _)).mono ?_
    rintro e w9 ⟨rfl, k9⟩
    go_wp2_with fail
    go_ret
    exact ⟨rfl, k9⟩
  · have bi : ¬ (60 : Int) < (n : Int) := by omega
    have b0 : (n : Int) ≤ 60 := by omega
    have HNB := Lib.hid (show n ≤ 60 by omega)
    have FI := Lib.hid (filled_any K w hZ hS A n c l h hn (by omega))
    by_cases hn0 : n = 0
    · have z0 : ((n : Int) == 0) = true := by rw [beq_iff_eq]; omega
      clear hZ hS h hn big hn0
      go_enter Tryd.func9, Tryd.ntmps9
      go_wp2_with fail
      refine FI.out.mono ?_
      rintro e u1 (⟨b, j, F, G, f, rfl, L1⟩ | ⟨b, rfl, k1⟩)
      · have K1 := Lib.hid L1.h.kp
        clear L1
        go_wp2_with fail
        refine (WK.out _ K1.out).mono ?_
        rintro e w9 ⟨rfl, k9⟩
        go_wp2_with fail
        go_ret
        exact ⟨rfl, keeps_trans K1.out k9⟩
      · go_wp2_with fail
        refine (WK.out _ k1).mono ?_
        rintro e w9 ⟨rfl, k9⟩
        go_wp2_with fail
        go_ret
        exact ⟨rfl, keeps_trans k1 k9⟩
    have z0 : ((n : Int) == 0) = false := by rw [beq_eq_false_iff_ne]; omega
    obtain ⟨i, hi⟩ : ∃ i : Nat, x % n = i := ⟨_, rfl⟩
    obtain ⟨k, hk⟩ : ∃ k : Nat, y % n = k := ⟨_, rfl⟩
    have hin : i < n := by rw [← hi]; exact Nat.mod_lt _ (by omega)
    have hkn : k < n := by rw [← hk]; exact Nat.mod_lt _ (by omega)
    have hr1 : (x : Int).tmod (n : Int) = (i : Int) := by rw [Int.tmod_eq_emod_of_nonneg (by omega), ← Int.natCast_emod, hi]
    have hr2 : (y : Int).tmod (n : Int) = (k : Int) := by rw [Int.tmod_eq_emod_of_nonneg (by omega), ← Int.natCast_emod, hk]
    have hn0' : ¬ (n : Int) = 0 := by omega
    obtain ⟨oi, hoi⟩ : ∃ o : Nat, 64 * i = o := ⟨_, rfl⟩
    obtain ⟨ok, hok⟩ : ∃ o : Nat, 64 * k = o := ⟨_, rfl⟩
    have hm1 : (64 : Int) * (i : Int) = (oi : Int) := by omega
    have hm2 : (64 : Int) * (k : Int) = (ok : Int) := by omega
    have hb1 : (oi : Int) ≤ 3840 := by omega
    have hb2 : (ok : Int) ≤ 3840 := by omega
    have hxi : (x : Int) ≤ 255 := by omega
    have hyi : (y : Int) ≤ 255 := by omega
    have hii : (i : Int) ≤ 59 := by omega
    have hki : (k : Int) ≤ 59 := by omega
    have HK := Lib.hid (And.intro hin (And.intro hkn (And.intro hoi hok)))
    obtain ⟨m, hm⟩ : ∃ m, min i k = m := ⟨_, rfl⟩
    have hmn : ∀ (ts : Array TypeId) (t : TypeId) (w : World), (Builtin.min_ ts t #[.int .i64 (i : Int), .int .i64 (k : Int)]).run Tryd.prog w = .ok (.int .i64 (m : Int)) w := by
      intro ts t w
      rw [run_min_int2]
      congr 2
      split <;> omega
    have hmc : (m : Int) ≤ (c : Int) := by omega
    have HM := Lib.hid hm
    clear hZ hS h hn big hn0 hi hk hin hkn hoi hok hm
    go_enter Tryd.func9, Tryd.ntmps9
    go_wp2_with fail
    refine FI.out.mono ?_
    rintro e u1 (⟨b, j, F, G, f, rfl, L1⟩ | ⟨b, rfl, k1⟩)
    rotate_left
    · go_wp2_with fail
      refine (WK.out _ k1).mono ?_
      rintro e w9 ⟨rfl, k9⟩
      go_wp2_with fail
      go_ret
      exact ⟨rfl, keeps_trans k1 k9⟩
    have LL := Lib.hid L1
    have HFN := Lib.hid L1.clean.now
    have HLI := Lib.hid (show i < l.length by have := HN.out; have := HK.out.1; omega)
    have HLK := Lib.hid (show k < l.length by have := HN.out; have := HK.out.2.1; omega)
    have R1 := Lib.hid (L1.h.read_ HZ.out nmJ (oi : Int) 64 ⟨by omega, by omega⟩ ⟨by decide, by decide⟩ _ strJ.symm (l := secAt f.now i) (E := 0) (by
      rw [show (64 : Int) = ((64 : Nat) : Int) from rfl, readj L1.clean.name, ← HK.out.2.2.1]; rfl))
    have S1 := Lib.hid (show (secAt f.now i).length = 64 by rw [HFN.out]; exact secAt_length HLI.out)
    have S2 := Lib.hid (show (secAt f.now k).length = 64 by rw [HFN.out]; exact secAt_length HLK.out)
    have FLN := Lib.hid (show f.now.length = 64 * l.length by rw [HFN.out, fileR_length])
    clear L1
    go_wp2_with fail
    refine R1.out.mono ?_
    rintro e u2 ⟨A2, c2, rfl, -, o2, h2, k2⟩
    rw [S1.out] at o2 ⊢
    have O2 := Lib.hid o2
    have R2 := Lib.hid (h2.read_ HZ.out nmJ (ok : Int) 64 ⟨by omega, by omega⟩ ⟨by decide, by decide⟩ _ strJ.symm (l := secAt f.now k) (E := 0) (by
      rw [show (64 : Int) = ((64 : Nat) : Int) from rfl, readj LL.out.clean.name, ← HK.out.2.2.2]; rfl))
    have K2 := Lib.hid k2
    have NF2 := Lib.hid (show ∀ q, (Value.slice A2 64 c2).ownBlock = some q → ¬ F q from fun q hq hf => by have h1 := (o2.lt q hq).1; have h2 := K.lt LL.out.h.D q hf; omega)
    clear o2 h2 k2
    go_wp2_with fail
    refine R2.out.mono ?_
    rintro e u3 ⟨A3, c3, rfl, -, o3, h3, k3⟩
    rw [S2.out] at o3 ⊢
    have NF3 := Lib.hid (show ∀ q, (Value.slice A3 64 c3).ownBlock = some q → ¬ F q from fun q hq hf => by have h1 := (o3.lt q hq).1; have h2 := K.lt LL.out.h.D q hf; have := K2.out.size; omega)
    have W1 := Lib.hid (h3.writeU_ HZ.out nmJ (oi : Int) ⟨by omega, by omega⟩ _ strJ.symm o3 S2.out.symm NF3.out (by decide) (writej0 LL.out.clean.name (off := oi) (b := secAt f.now k) (by have := FLN.out; have := HLI.out; have := HK.out.2.2.1; omega) (by have := FLN.out; have := HLI.out; have := HK.out.2.2.1; have := S2.out; have := HNB.out; have := HN.out; omega) (by have := FLN.out; have := HLI.out; have := HK.out.2.2.1; have := S2.out; have := HNB.out; have := HN.out; omega)))
    have O23 := Lib.hid (O2.out.keep k3)
    clear o3 h3 k3
    go_wp2_with fail
    refine W1.out.mono ?_
    rintro e u4 ⟨rfl, F4, h4, t4⟩
    have O4 := Lib.hid (O23.out.turns t4 NF2.out)
    have NF4 := Lib.hid (show ∀ q, (Value.slice A2 64 c2).ownBlock = some q → ¬ F4 q from fun q hq => t4.notIn (O23.out.lt q hq).2 (NF2.out q hq))
    obtain ⟨f2, hf2⟩ : ∃ f2, writeF f oi (secAt f.now k) = f2 := ⟨_, rfl⟩
    rw [hf2] at h4
    have N2 := Lib.hid (show f2.name = nmJ by rw [← hf2]; exact LL.out.clean.name)
    have B2 := Lib.hid (show f2.now = layB f.now (64 * i) (secAt f.now k) by rw [← hf2, HK.out.2.2.1]; rfl)
    have L2 := Lib.hid (show f2.now.length = 64 * l.length by rw [B2.out, layB_length _ _ _ (by have := FLN.out; have := HLI.out; omega), FLN.out, S2.out]; have := HLI.out; omega)
    have W2 := Lib.hid (h4.writeU_ HZ.out nmJ (ok : Int) ⟨by omega, by omega⟩ _ strJ.symm O4.out S1.out.symm NF4.out (by decide) (writej0 N2.out (off := ok) (b := secAt f.now i) (by have := L2.out; have := HLK.out; have := HK.out.2.2.2; omega) (by have := L2.out; have := HLK.out; have := HK.out.2.2.2; have := S1.out; have := HNB.out; have := HN.out; omega) (by have := L2.out; have := HLK.out; have := HK.out.2.2.2; have := S1.out; have := HNB.out; have := HN.out; omega)))
    clear h4 t4 hf2
    go_wp2_with fail
    refine W2.out.mono ?_
    rintro e u5 ⟨rfl, F5, h5, t5⟩
    obtain ⟨g, ho, hcl⟩ := openJ_file (q := 1024) (f := writeF f2 ok (secAt f.now i)) N2.out
    have hrec : recsOf (writeF f2 ok (secAt f.now i)).now = if i = k then l else l.take m := by
      show recsOf (layB f2.now ok (secAt f.now i)) = _
      rw [B2.out, ← HK.out.2.2.2, HFN.out, recs_moved LL.out.fine (by have := HNB.out; have := HN.out; omega) HLI.out HLK.out, HM.out]
    have OPW := Lib.hid ho
    have H5 := Lib.hid h5
    have HREC := Lib.hid hrec
    clear h5 t5 ho hcl hrec
    by_cases hik : i = k
    · have hne : ((i : Int) != (k : Int)) = false := by rw [hik]; simp
      have hr2 : recsOf (writeF f2 ok (secAt f.now i)).now = l := by rw [HREC.out, if_pos hik]
      have ho2 := OPW.out
      rw [hr2] at ho2
      have OP := Lib.hid (jrOpen_any H5.out HZ.out HS.out ho2)
      clear hik hr2 ho2
      go_wp2_with fail
      refine OP.out.mono ?_
      rintro e u6 ⟨F6, h6, t6, ⟨-, j6, G6, rfl, hj6, -⟩ | ⟨hbad, -⟩⟩
      rotate_left
      · exact absurd rfl hbad
      have K6 := Lib.hid h6.kp
      have RC := Lib.hid (jrRecs_any hj6)
      have SM := Lib.hid (fun (V : World) (kk : Keeps u6 V) (A7 : Option Addr) (c7 : Nat) (o : At V V.heap.size A7 (rowsC l)) => same9_any A7 l.length c7 l A n c l V o rfl (H.out.keep (keeps_trans K6.out kk)).cells HN.out (by have := HN.out; have := HNB.out; omega))
      rw [decide_eq_true rfl] at SM
      clear h6 t6 hj6
      go_wp2_with fail
      refine RC.out.mono ?_
      rintro e u7 ⟨A7, c7, rfl, o7, k7⟩
      have S7 := Lib.hid (SM.out _ k7 A7 c7 o7.at_)
      have K7 := Lib.hid (keeps_trans K6.out k7)
      clear o7 k7
      go_wp2_with fail
      refine S7.out.mono ?_
      rintro e u8 ⟨rfl, k8⟩
      have K8 := Lib.hid (keeps_trans K7.out k8)
      clear k8
      go_wp2_with fail
      refine (WK.out _ K8.out).mono ?_
      rintro e w9 ⟨rfl, k9⟩
      go_wp2_with fail
      go_ret
      exact ⟨rfl, keeps_trans K8.out k9⟩
    · have hne : ((i : Int) != (k : Int)) = true := by rw [bne_iff_ne]; omega
      have hr2 : recsOf (writeF f2 ok (secAt f.now i)).now = l.take m := by rw [HREC.out, if_neg hik]
      have ho2 := OPW.out
      rw [hr2] at ho2
      have OP := Lib.hid (jrOpen_any H5.out HZ.out HS.out ho2)
      have HLM := Lib.hid (show (l.take m).length = m by rw [List.length_take]; have := HM.out; have := HLI.out; omega)
      clear hik hr2 ho2
      go_wp2_with fail
      refine OP.out.mono ?_
      rintro e u6 ⟨F6, h6, t6, ⟨-, j6, G6, rfl, hj6, -⟩ | ⟨hbad, -⟩⟩
      rotate_left
      · exact absurd rfl hbad
      have K6 := Lib.hid h6.kp
      have RC := Lib.hid (jrRecs_any hj6)
      have SM := Lib.hid (fun (V : World) (kk : Keeps u6 V) (A7 : Option Addr) (c7 : Nat) (o : At V V.heap.size A7 (rowsC (l.take m))) => same9_any A7 m c7 (l.take m) A m c (l.take m) V o HLM.out.symm (recs_front (H.out.keep (keeps_trans K6.out kk)) m) HLM.out.symm (by have := HLM.out; have := HM.out; have := HLI.out; have := HN.out; have := HNB.out; omega))
      rw [decide_eq_true rfl] at SM
      rw [HLM.out] at RC
      clear h6 t6 hj6
      go_wp2_with fail
      refine RC.out.mono ?_
      rintro e u7 ⟨A7, c7, rfl, o7, k7⟩
      have S7 := Lib.hid (SM.out _ k7 A7 c7 o7.at_)
      have K7 := Lib.hid (keeps_trans K6.out k7)
      clear o7 k7
      go_wp2_with fail
      refine S7.out.mono ?_
      rintro e u8 ⟨rfl, k8⟩
      have K8 := Lib.hid (keeps_trans K7.out k8)
      clear k8
      go_wp2_with fail
      refine (WK.out _ K8.out).mono ?_
      rintro e w9 ⟨rfl, k9⟩
      go_wp2_with fail
      go_ret
      exact ⟨rfl, keeps_trans K8.out k9⟩
end Go.Proofs.YtiohijkelagloaaDoor
