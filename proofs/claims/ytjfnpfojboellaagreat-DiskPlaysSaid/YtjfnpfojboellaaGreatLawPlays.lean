/- DiskPlays: are both disks alike? -/
import Derived.Test.YtjfnpfojboellaaGreatDkA
import Derived.Test.YtjfnpfojboellaaGreatLawMeant
import Derived.Test.YtjfnpfojboellaaGreatFlat
namespace Go.Proofs.YtjfnpfojboellaaGreat
open Go.RowKit
set_option linter.unusedSimpArgs false
set_option linter.unusedVariables false
set_option maxRecDepth 100000

theorem place_cells (l : List (List UInt8 × Nat)) (i : Nat) (p : List UInt8 × Nat) (hp : l[i]? = some p) : (l.flatMap placeC)[i * 2]? = some (.string (str p.1)) ∧ (l.flatMap placeC)[i * 2 + 1]? = some (.int .i64 (p.2 : Int)) := by
  have h0 := flatMap_get placeC 2 (fun _ => rfl) l (i := i) (j := 0) (by decide)
  have h1 := flatMap_get placeC 2 (fun _ => rfl) l (i := i) (j := 1) (by decide)
  rw [hp] at h0 h1
  exact ⟨h0, h1⟩
set_option maxHeartbeats 8000000 in
theorem alike_any (K : DiskOk) (R : Ref.DiskOk) {w0 w : World} {b b2 : Nat} {F F2 : Nat → Prop} {s : Ds} (hZ : K.Z w0) (hY : R.Z w0) (h : Have K w0 w b F s) (h2 : Ref.Have R w0 w b2 F2 s) (few : s.l.length ≤ 70000) (fewp : (placesL s.l).length ≤ 9223372036854775000) :
    Calls Tryz.prog 11 #[dpt b, dpt b2] w fun e w' => e = .returned (.bool true) ∧ Keeps w w' := by
  have H := Lib.hid h
  have H2 := Lib.hid h2
  have HZ := Lib.hid hZ
  have HY := Lib.hid hY
  have N1 := Lib.hid (K.names (h.z hZ) h.D few)
  have N2 := Lib.hid (fun (V : World) (k : Keeps w V) => R.names ((h2.keep k).z hY) (h2.keep k).D few)
  have L1 := Lib.hid (fun (V : World) (k : Keeps w V) => K.loose ((h.keep k).z hZ) (h.keep k).D)
  have L2 := Lib.hid (fun (V : World) (k : Keeps w V) => R.loose ((h2.keep k).z hY) (h2.keep k).D few)
  have U1 := Lib.hid (fun (V : World) (k : Keeps w V) => K.used ((h.keep k).z hZ) (h.keep k).D)
  have U2 := Lib.hid (fun (V : World) (k : Keeps w V) => R.used ((h2.keep k).z hY) (h2.keep k).D few)
  have D1 := Lib.hid (fun (V : World) (k : Keeps w V) => K.dead ((h.keep k).z hZ) (h.keep k).D)
  have D2 := Lib.hid (fun (V : World) (k : Keeps w V) => R.dead ((h2.keep k).z hY) (h2.keep k).D)
  unfold dpt at *
  clear h h2 hZ hY
  obtain ⟨n, hn⟩ : ∃ n, n = s.l.length := ⟨_, rfl⟩
  obtain ⟨pl, hpl⟩ : ∃ pl, pl = placesL s.l := ⟨_, rfl⟩
  obtain ⟨nl, hnl⟩ : ∃ nl, nl = s.l.map fun f => strV f.name := ⟨_, rfl⟩
  rw [← hn, ← hnl] at N1 N2
  rw [← hpl] at L1 L2 fewp
  have HNL := Lib.hid (show ∀ j, j < n → ∃ x, nl[j]? = some (.string (str x)) by
    intro j hj
    obtain ⟨f, hf⟩ : ∃ f, s.l[j]? = some f := ⟨_, List.getElem?_eq_getElem (by omega)⟩
    exact ⟨f.name, by rw [hnl, List.getElem?_map, hf]; rfl⟩)
  have ni : (n : Int) ≤ 70000 := by omega
  clear few
  have HLL := Lib.hid (show nl.length = n by rw [hnl, List.length_map, hn])
  clear hn hpl hnl
  have hLL : (pl.flatMap placeC).length = pl.length * 2 := flatMap_length placeC 2 (fun _ => rfl) pl
  have HPL := Lib.hid hLL
  obtain ⟨m, hm⟩ : ∃ m, m = pl.length := ⟨_, rfl⟩
  have HM := Lib.hid hm
  rw [← hm] at L1 L2 fewp
  clear hm hLL
  generalize usedL s.l = u at *
  generalize s.off = oo at *
  have e1 : ((n : Int) != (n : Int)) = false := by simp
  have e2 : ((m : Int) != (m : Int)) = false := by simp
  have e3 : ((u : Int) != (u : Int)) = false := by simp
  have e4 : (oo != oo) = false := by cases oo <;> rfl
  go_enter Tryz.func11, Tryz.ntmps11
  go_wp2_with fail
  refine N1.out.mono ?_
  rintro e w1 ⟨v1, rfl, o1, k1⟩
  obtain ⟨A1, c1, rfl, -⟩ := o1.form
  have O1 := Lib.hid o1
  have K1 := Lib.hid k1
  clear o1 k1
  go_wp2_with fail
  refine (N2.out _ K1.out).mono ?_
  rintro e w2 ⟨v2, rfl, o2, k2⟩
  obtain ⟨A2, c2, rfl, -⟩ := o2.form
  have O2 := Lib.hid o2
  have O12 := Lib.hid (O1.out.keep k2)
  have K2 := Lib.hid (keeps_trans K1.out k2)
  clear o2 k2
  go_wp2_with fail
  refine (L1.out _ K2.out).mono ?_
  rintro e w3 ⟨v3, rfl, o3, k3⟩
  obtain ⟨A3, c3, rfl, -⟩ := o3.form
  have O3 := Lib.hid o3
  have O13 := Lib.hid (O12.out.keep k3)
  have O23 := Lib.hid (O2.out.keep k3)
  have K3 := Lib.hid (keeps_trans K2.out k3)
  clear o3 k3
  go_wp2_with fail
  refine (L2.out _ K3.out).mono ?_
  rintro e w4 ⟨v4, rfl, o4, k4⟩
  obtain ⟨A4, c4, rfl, -⟩ := o4.form
  have O4 := Lib.hid o4
  have O14 := Lib.hid (O13.out.keep k4)
  have O24 := Lib.hid (O23.out.keep k4)
  have O34 := Lib.hid (O3.out.keep k4)
  have K4 := Lib.hid (keeps_trans K3.out k4)
  clear o4 k4
  go_wp2_with fail
  refine (U1.out _ K4.out).mono ?_
  rintro e w5 ⟨rfl, k5⟩
  have K5 := Lib.hid (keeps_trans K4.out k5)
  have Q5 := Lib.hid k5
  clear k5
  go_wp2_with fail
  refine (U2.out _ K5.out).mono ?_
  rintro e w6 ⟨rfl, k6⟩
  have K6 := Lib.hid (keeps_trans K5.out k6)
  have Q6 := Lib.hid (keeps_trans Q5.out k6)
  clear k6
  go_wp2_with fail
  refine (D1.out _ K6.out).mono ?_
  rintro e w7 ⟨rfl, k7⟩
  have K7 := Lib.hid (keeps_trans K6.out k7)
  have Q7 := Lib.hid (keeps_trans Q6.out k7)
  clear k7
  go_wp2_with fail
  refine (D2.out _ K7.out).mono ?_
  rintro e w8 ⟨rfl, k8⟩
  have K8 := Lib.hid (keeps_trans K7.out k8)
  have Q8 := Lib.hid (keeps_trans Q7.out k8)
  clear k8
  have P1 := Lib.hid (O14.out.keep Q8.out)
  have P2 := Lib.hid (O24.out.keep Q8.out)
  have P3 := Lib.hid (O34.out.keep Q8.out)
  have P4 := Lib.hid (O4.out.keep Q8.out)
  go_wp2_with fail
  go_loopw [9] (fun i wr => ∃ j : Nat, j ≤ n ∧ i = .int .i64 j ∧ Keeps w8 wr) (fun i _ => n - (intOf i).toNat)
  case atStart => exact ⟨0, Nat.zero_le _, rfl, keeps_refl _⟩
  case round =>
    obtain ⟨j, hj, rfl, kr⟩ := hrel
    have KR := Lib.hid kr
    clear kr
    by_cases hlt : j < n
    · have hjn : (j : Int) < (n : Int) := by omega
      obtain ⟨x, hx⟩ := HNL.out j hlt
      obtain ⟨g, rfl, q0, -⟩ := (P1.out.keep KR.out).cell (j := j) (by rw [HLL.out]; exact hlt)
      obtain ⟨g2, rfl, q2, -⟩ := (P2.out.keep KR.out).cell (j := j) (by rw [HLL.out]; exact hlt)
      rw [hx] at q0 q2
      generalize str x = sx at *
      have y1 : (sx.toList == sx.toList) = true := by simp
      have y2 : (sx.toList != sx.toList) = false := by simp
      clear hx
      go_wp2_with fail
      go_quiet (fail)
      go_wp2_with fail
      go_roundw
      case rel => exact ⟨j + 1, by omega, by go_num, keeps_trans KR.out (keeps_drewN _ _)⟩
      case measure => simp [intOf]; omega
    · obtain rfl : j = n := by omega
      clear hlt hj
      go_wp2_with fail
      go_loopw [10] (fun i wz => ∃ k : Nat, k ≤ m ∧ i = .int .i64 k ∧ Keeps w8 wz) (fun i _ => m - (intOf i).toNat)
      case atStart => exact ⟨0, Nat.zero_le _, rfl, KR.out⟩
      case round =>
        obtain ⟨k, hk, rfl, kz⟩ := hrel
        have KZ := Lib.hid kz
        clear kz
        by_cases hlt : k < m
        · have hkm : (k : Int) < (m : Int) := by omega
          obtain ⟨p, hp⟩ : ∃ p, pl[k]? = some p := ⟨_, List.getElem?_eq_getElem (by have := HM.out; omega)⟩
          obtain ⟨pc0, pc1⟩ := place_cells pl k p hp
          obtain ⟨g, rfl, q0, -⟩ := (P3.out.keep KZ.out).cell (j := k * 2) (by rw [HPL.out]; have := HM.out; omega)
          obtain ⟨g', hg', q1, -⟩ := (P3.out.keep KZ.out).cell (j := k * 2 + 1) (by rw [HPL.out]; have := HM.out; omega)
          obtain ⟨z, rfl, r0, -⟩ := (P4.out.keep KZ.out).cell (j := k * 2) (by rw [HPL.out]; have := HM.out; omega)
          obtain ⟨z', hz', r1, -⟩ := (P4.out.keep KZ.out).cell (j := k * 2 + 1) (by rw [HPL.out]; have := HM.out; omega)
          obtain rfl : g = g' := by injection hg' with e; injection e
          obtain rfl : z = z' := by injection hz' with e; injection e
          rw [pc0] at q0 r0
          rw [pc1] at q1 r1
          have hE := fun w => run_eqPl (P := Tryz.prog) (K := 73) Tryz.underlying73 ⟨rfl, rfl, rfl⟩ ⟨rfl, rfl, rfl⟩ Tryz.underlying9 Tryz.underlying3 (by kernel_rfl) p p w
          unfold plV at hE
          rw [decide_eq_true rfl] at hE
          obtain ⟨pn, pk⟩ := p
          simp only at q0 q1 r0 r1 hE
          generalize str pn = sp at *
          clear pc0 pc1 hp hg' hz'
          go_wp2_with fail
          go_quiet (fail)
          go_wp2_with fail
          go_roundw
          case rel => exact ⟨k + 1, by omega, by go_num, keeps_trans KZ.out (keeps_drewN _ _)⟩
          case measure => simp [intOf]; omega
        · obtain rfl : k = m := by omega
          clear hlt hk
          go_wp2_with fail
          go_ret
          exact ⟨rfl, keeps_trans K8.out KZ.out⟩
end Go.Proofs.YtjfnpfojboellaaGreat
