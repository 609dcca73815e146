/- PoolPins. -/
import Derived.Test.YtamboappeahgpaaDoorQPoolHeal
namespace Go.Proofs.YtamboappeahgpaaDoor
open Go.RowKit
set_option linter.unusedSimpArgs false
set_option linter.unusedVariables false
set_option maxRecDepth 100000

theorem str97 : str [97] = ⟨#[97]⟩ := rfl
theorem byte_at {w : World} {base : Nat} {A : Option Addr} {c k : Nat} (hk : k < 256) (o : Own w base 5 1 (.slice A 1 c) 1 (cel [UInt8.ofNat k])) : ∃ g, A = some ⟨g, 0, none⟩ ∧ w.cell? ⟨g, 0, none⟩ = some (.int .u8 (k : Int)) := by
  obtain ⟨g, e, q, -⟩ := o.cell (j := 0) (by simp [cel])
  refine ⟨g, e, q.trans ?_⟩
  have : (UInt8.ofNat k).toNat = k := by simp; omega
  simp [cel, this]
set_option maxHeartbeats 32000000 in
theorem pins10_walk (K : DiskOk) (PK : PageOk) (x y : Nat) (hx : x < 256) (hy : y < 256) (w : World) (hZ : K.Z w) (hS : Sizes w) :
    Calls Tryd.prog 3 #[.int .u8 (x : Int), .int .u8 (y : Int)] w (Yes10 w) := by
  have WK := Lib.hid (fun (W : World) (q : Keeps w W) => works10 K PK W (K.keep hZ q) (hS.keep q))
  have NW := Lib.hid (fun (W : World) (k : Keeps w W) => K.new 4096 W (K.keep hZ k) (by decide) (by decide))
  have HZ := Lib.hid hZ
  have HS := Lib.hid hS
  clear hZ hS
  have w1 : IntKind.i64.wrap (x : Int) = (x : Int) := IntWalk.i64_in _ (by omega)
  have w2 : IntKind.i64.wrap (y : Int) = (y : Int) := IntWalk.i64_in _ (by omega)
  obtain ⟨r, hr⟩ : ∃ r : Nat, x % 20 = r := ⟨_, rfl⟩
  have hr20 : r < 20 := by omega
  obtain ⟨n, hn⟩ : ∃ n : Nat, 1 + r = n := ⟨_, rfl⟩
  have hn1 : 1 ≤ n := by omega
  have hn2 : n ≤ 20 := by omega
  have x2 : Int.tmod (x : Int) 20 = (r : Int) := by rw [Int.tmod_eq_emod_of_nonneg (by omega), ← hr]; exact (Int.natCast_emod x 20).symm
  have x3 : (1 : Int) + (r : Int) = (n : Int) := by omega
  have x4 : IntKind.i64.wrap (n : Int) = (n : Int) := IntWalk.i64_in _ (by omega)
  obtain ⟨k, hk⟩ : ∃ k : Nat, y % n = k := ⟨_, rfl⟩
  have hkn : k < n := by rw [← hk]; exact Nat.mod_lt _ (by omega)
  have x5 : Int.tmod (y : Int) (n : Int) = (k : Int) := by rw [Int.tmod_eq_emod_of_nonneg (by omega), ← hk]; exact (Int.natCast_emod y n).symm
  have x6 : ((n : Int) == 0) = false := by rw [beq_eq_false_iff_ne]; omega
  have HKN := Lib.hid hkn
  have X5 := Lib.hid x5
  have W2 := Lib.hid w2
  have X6 := Lib.hid x6
  clear hr hn hk x5 w2 hy x6 hkn
  go_enter Tryd.func3, Tryd.ntmps3
  go_wp2_with fail
  refine (NW.out w (keeps_refl _)).mono ?_
  rintro e w3 (⟨-, -, b, F, rfl, hD, hF, k3⟩ | ⟨hbad, -⟩)
  rotate_left
  · exfalso; omega
  have HV := Lib.hid (show Have K w w3 b F ⟨[], 4096, 0, false⟩ from ⟨hD, hF, k3⟩)
  clear hD hF k3 x2 x3 w1 hx
  unfold dpt
  have PN := Lib.hid (new10_any HV.out (n : Int) ⟨by omega, by omega⟩)
  go_wp2_with fail
  refine PN.out.mono ?_
  rintro e w5 ⟨k5, ⟨-, -, B, Fp, X, sl, rfl, rfl, h5, l5⟩ | ⟨hbad, -⟩⟩
  rotate_left
  · exfalso; omega
  rw [Int.toNat_natCast] at h5
  have J0 := Lib.hid (show PJ K w B (newPl ⟨[], 4096, 0, false⟩ n) (Both F Fp) w5 from ⟨F, Fp, X, sl, rfl, h5⟩)
  have R0 := Lib.hid (runs_new ⟨[], 4096, 0, false⟩ (n := n) ⟨by omega, by omega⟩)
  obtain ⟨e0, h0⟩ := pins_create (n := n) ⟨by omega, by omega⟩
  have CR := Lib.hid (create_pj J0.out HZ.out [97] (by decide))
  rw [e0] at CR
  have R1 := Lib.hid (R0.out.create J0.out.dok [97])
  have H1 := Lib.hid h0
  clear h5 l5 k5 PN HV e0 h0
  rw [str97] at CR
  generalize (createPl (newPl ⟨[], 4096, 0, false⟩ n) [97]).1 = p1 at *
  go_wp2_with fail
  refine CR.out.mono ?_
  rintro e w6 ⟨rfl, S1, h6, -⟩
  have J1 := Lib.hid h6
  have hnN : n ≤ 4096 := by omega
  clear h6 CR J0 R0
  go_wp2_with fail
  go_loopw [9] (fun i wr => ∃ (j : Nat) (p : Pst) (S : Nat → Prop), j ≤ n + 1 ∧ i = .int .i64 j ∧ Hid (PJ K w B p S wr) ∧ Hid (Runs p n (0 + 1 + j)) ∧ Hid (Heal 4096 PN0 p (vP j) 1 j)) (fun i _ => n + 1 - (intOf i).toNat)
  case atStart => exact ⟨0, p1, S1, Nat.zero_le _, rfl, J1, R1, H1⟩
  case round =>
    obtain ⟨j, p, S, hj, rfl, J2, R2, H2⟩ := hrel
    by_cases hlt : j ≤ n
    · have hjn : (j : Int) ≤ (n : Int) := by omega
      have hw8 : IntKind.u8.wrap (j : Int) = (j : Int) := IntWalk.u8_in _ (by omega)
      obtain ⟨e2, h2⟩ := pins_write H2.out (by omega)
      have hj8 : (UInt8.ofNat j).toNat = j := by simp; omega
      have kb := keeps_alloc wr (.cells #[.int .u8 (j : Int)] 5)
      have BJ : Bs (wr.alloc (.cells #[.int .u8 (j : Int)] 5)) (some ⟨wr.heap.size, 0, none⟩) [UInt8.ofNat j] := by
        have e8 : cel [UInt8.ofNat j] = [Value.int .u8 (j : Int)] := by simp only [cel, List.map_cons, List.map_nil, hj8]
        unfold Bs
        rw [e8]
        exact At.new wr [Value.int .u8 (j : Int)] 5 _ (by simp)
      have WR := Lib.hid (write_pj PK (J2.out.keep kb) HZ.out HS.out R2.out hnN (by omega) [97] (by decide) (j : Int) ⟨by omega, by omega⟩ (some ⟨wr.heap.size, 0, none⟩) 1 1 [UInt8.ofNat j] rfl BJ (fun ad h hF => by cases h; exact Nat.lt_irrefl _ (J2.out.lt _ hF)) (fun h => by cases h) (by decide))
      rw [e2, str97] at WR
      have R3 := Lib.hid (R2.out.write J2.out.dok [97] (j : Int) [UInt8.ofNat j])
      have H3 := Lib.hid h2
      clear e2 h2 hj8 kb BJ
      go_wp2_with fail
      refine WR.out.mono ?_
      rintro e w7 ⟨rfl, S7, h7, -⟩
      have J3 := Lib.hid h7
      clear h7 WR
      go_wp2_with fail
      go_roundw
      case rel => exact ⟨j + 1, _, S7, by omega, by go_num, J3, R3, H3⟩
      case measure => simp [intOf] <;> omega
    · obtain rfl : j = n + 1 := by omega
      have hjb : decide (((n + 1 : Nat) : Int) ≤ (n : Int)) = false := decide_eq_false (by omega)
      obtain ⟨e2, h2⟩ := pins_flush H2.out (by omega)
      have FL := Lib.hid (flush_pj PK J2.out HZ.out HS.out R2.out (by omega) [97] (by decide))
      rw [e2, str97] at FL
      have R3 := Lib.hid (R2.out.flush J2.out.dok [97])
      have P3 := Lib.hid (pinsAt_first h2 R3.out.len)
      clear e2 h2 hlt hj
      go_wp2_with fail
      refine FL.out.mono ?_
      rintro e w7 ⟨rfl, S7, h7, -⟩
      have J3 := Lib.hid h7
      obtain ⟨rr, hrr⟩ : ∃ rr, 0 + 1 + (n + 1) + 1 = rr := ⟨_, rfl⟩
      rw [hrr] at R3
      have hrr2 : rr ≤ 100 := by omega
      clear h7 FL J2 R2 H2 hjb hrr
      generalize (flushPl p [97]).1 = p3 at *
      go_wp2_with fail
      go_loopw [10] (fun i wr => ∃ (j : Nat) (p : Pst) (S : Nat → Prop), j ≤ n ∧ i = .int .i64 j ∧ Hid (PJ K w B p S wr) ∧ Hid (Runs p n (rr + j)) ∧ Hid (PinsAt p n j)) (fun i _ => n - (intOf i).toNat)
      case atStart => exact ⟨0, p3, S7, Nat.zero_le _, rfl, J3, R3, P3⟩
      case round =>
        obtain ⟨j, p, S, hj, rfl, J4, R4, P4⟩ := hrel
        by_cases hlt : j < n
        · have hjn : (j : Int) < (n : Int) := by omega
          have hw8 : IntKind.u8.wrap (j : Int) = (j : Int) := IntWalk.u8_in _ (by omega)
          obtain ⟨e2, h2⟩ := pins_pin P4.out hlt hn2
          have PI := Lib.hid (pin_pj PK J4.out HZ.out HS.out R4.out hnN (by omega) [97] (by decide) (j : Int) ⟨by omega, by omega⟩)
          rw [e2, str97] at PI
          have R5 := Lib.hid (R4.out.pin J4.out.dok [97] (j : Int))
          have P5 := Lib.hid h2
          have hj256 : j < 256 := by omega
          have hbb : ((j : Int) != (j : Int)) = false := by simp
          clear e2 h2
          go_wp2_with fail
          refine PI.out.mono ?_
          rintro e w8 ⟨v8, rfl, o8, S8, h8, -, -⟩
          have o8 : Own w8 _ 5 1 v8 1 (cel [UInt8.ofNat j]) := o8
          obtain ⟨A8, c8, rfl, -⟩ := o8.form
          obtain ⟨g8, rfl, q8⟩ := byte_at hj256 o8
          have J5 := Lib.hid h8
          clear h8 PI o8
          go_wp2_with fail
          go_roundw
          case rel => exact ⟨j + 1, _, S8, by omega, by go_num, J5, R5, P5⟩
          case measure => simp [intOf] <;> omega
        · obtain rfl : n = j := by omega
          have x5 := X5.out
          have w2 := W2.out
          have x6 := X6.out
          have hkn := HKN.out
          have T0 := Lib.hid P4.out.peak
          clear hlt hj J3 R3 P3
          obtain ⟨a1, h1⟩ := pins_read P4.out hn2 hkn
          have C1 := Lib.hid (read_pj PK J4.out HZ.out HS.out R4.out hnN (by omega) [97] (by decide) (k : Int) ⟨by omega, by omega⟩)
          rw [a1, str97] at C1
          have R5 := Lib.hid (R4.out.read J4.out.dok [97] (k : Int))
          have G5 := read_grow J4.out.ok [97] (k : Int)
          have T5 := Lib.hid (And.intro (Nat.le_trans T0.out.1 G5.lo) (Nat.le_trans T0.out.2 G5.pk.1))
          have P5 := Lib.hid h1
          clear a1 h1 G5 T0 R4 P4
          generalize (readPl p [97] (k : Int)).1 = p5 at *
          go_wp2_with fail
          refine C1.out.mono ?_
          rintro e w11 ⟨vb, rfl, ob, S5, h5, -, nb⟩
          have ob : Own w11 _ 5 1 vb 1 (cel [UInt8.ofNat k]) := ob
          obtain ⟨Ab, cb, rfl, -⟩ := ob.form
          have OB5 := Lib.hid ob
          have NB5 := Lib.hid nb
          have J5 := Lib.hid h5
          clear h5 C1 ob nb J4
          obtain ⟨a1, h1⟩ := pins_read_no P5.out
          have C1 := Lib.hid (read_pj PK J5.out HZ.out HS.out R5.out hnN (by omega) [97] (by decide) (n : Int) ⟨by omega, by omega⟩)
          rw [a1, str97] at C1
          have R6 := Lib.hid (R5.out.read J5.out.dok [97] (n : Int))
          have G6 := read_grow J5.out.ok [97] (n : Int)
          have T6 := Lib.hid (And.intro (Nat.le_trans T5.out.1 G6.lo) (Nat.le_trans T5.out.2 G6.pk.1))
          have P6 := Lib.hid h1
          clear a1 h1 G6 T5 R5 P5
          generalize (readPl p5 [97] (n : Int)).1 = p6 at *
          go_wp2_with fail
          refine C1.out.mono ?_
          rintro e w12 ⟨v6, rfl, o6, S6, h6, t6, -⟩
          obtain ⟨A6, c6, rfl, -⟩ := o6.form
          obtain ⟨ob, nb⟩ := own_far OB5.out NB5.out t6
          have OB6 := Lib.hid ob
          have NB6 := Lib.hid nb
          have J6 := Lib.hid h6
          clear h6 C1 ob nb J5 o6 t6 OB5 NB5
          obtain ⟨a1, h1⟩ := pins_pin_no P6.out
          have C1 := Lib.hid (pin_pj PK J6.out HZ.out HS.out R6.out hnN (by omega) [97] (by decide) (n : Int) ⟨by omega, by omega⟩)
          rw [a1, str97] at C1
          have R7 := Lib.hid (R6.out.pin J6.out.dok [97] (n : Int))
          have G7 := pin_grow J6.out.ok [97] (n : Int)
          have T7 := Lib.hid (And.intro (Nat.le_trans T6.out.1 G7.lo) (Nat.le_trans T6.out.2 G7.pk.1))
          have P7 := Lib.hid h1
          clear a1 h1 G7 T6 R6 P6
          generalize (pinPl p6 [97] (n : Int)).1 = p7 at *
          go_wp2_with fail
          refine C1.out.mono ?_
          rintro e w13 ⟨v7, rfl, o7, S7, h7, t7, -⟩
          obtain ⟨A7, c7, rfl, -⟩ := o7.form
          obtain ⟨ob, nb⟩ := own_far OB6.out NB6.out t7
          have OB7 := Lib.hid ob
          have NB7 := Lib.hid nb
          have J7 := Lib.hid h7
          clear h7 C1 ob nb J6 o7 t7 OB6 NB6
          have a1 := pins_drop P7.out hn1
          have C1 := Lib.hid (drop_pj J7.out HZ.out R7.out hnN (by omega) [97] (by decide))
          rw [a1, str97] at C1
          clear a1
          go_wp2_with fail
          refine C1.out.mono ?_
          rintro e w14 ⟨rfl, S8, h8, t8⟩
          obtain ⟨ob, nb⟩ := own_far OB7.out NB7.out t8
          have OB8 := Lib.hid ob
          have NB8 := Lib.hid nb
          have J8 := Lib.hid h8
          clear h8 C1 ob nb J7 t8 OB7 NB7
          obtain ⟨a1, h1⟩ := pins_unpin P7.out hkn
          have C1 := Lib.hid (unpin_pj J8.out R7.out hnN (by omega) [97] (k : Int))
          rw [a1, str97] at C1
          have R9 := Lib.hid (R7.out.unpin J8.out.dok [97] (k : Int))
          have G9 := unpin_grow (p := p7) [97] (k : Int)
          have T9 := Lib.hid (And.intro (Nat.le_trans T7.out.1 G9.lo) (Nat.le_trans T7.out.2 G9.pk.1))
          have P9 := Lib.hid h1
          clear a1 h1 G9 T7 R7 P7
          generalize (unpinPl p7 [97] (k : Int)).1 = p9 at *
          go_wp2_with fail
          refine C1.out.mono ?_
          rintro e w15 ⟨rfl, S9, h9, t9⟩
          obtain ⟨ob, nb⟩ := own_far OB8.out NB8.out t9
          have OB9 := Lib.hid ob
          have NB9 := Lib.hid nb
          have J9 := Lib.hid h9
          clear h9 C1 ob nb J8 t9 OB8 NB8
          have a1 := pins_unpin2 P9.out
          have C1 := Lib.hid (unpin_pj J9.out R9.out hnN (by omega) [97] (k : Int))
          rw [a1, str97] at C1
          clear a1
          go_wp2_with fail
          refine C1.out.mono ?_
          rintro e w16 ⟨rfl, S10, h10, t10⟩
          obtain ⟨ob, nb⟩ := own_far OB9.out NB9.out t10
          have OB10 := Lib.hid ob
          have NB10 := Lib.hid nb
          have J10 := Lib.hid h10
          clear h10 C1 ob nb J9 t10 OB9 NB9
          obtain ⟨a1, h1, f1⟩ := pins_other (k := k) (m := n) hn2 P9.out.heal (.inl rfl) (by omega) P9.out.free
          have C1 := Lib.hid (read_pj PK J10.out HZ.out HS.out R9.out hnN (by omega) [97] (by decide) (n : Int) ⟨by omega, by omega⟩)
          rw [a1, str97] at C1
          have R11 := Lib.hid (R9.out.read J10.out.dok [97] (n : Int))
          have G11 := read_grow J10.out.ok [97] (n : Int)
          have T11 := Lib.hid (And.intro (Nat.le_trans T9.out.1 G11.lo) (Nat.le_trans T9.out.2 G11.pk.1))
          have P11 := Lib.hid h1
          have F11 := Lib.hid f1
          clear a1 h1 f1 G11 T9 R9 P9
          generalize (readPl p9 [97] (n : Int)).1 = p11 at *
          go_wp2_with fail
          refine C1.out.mono ?_
          rintro e w17 ⟨vc, rfl, oc, S11, h11, t11, nc⟩
          have oc : Own w17 _ 5 1 vc 1 (cel [UInt8.ofNat n]) := oc
          obtain ⟨Ac, cc, rfl, -⟩ := oc.form
          obtain ⟨ob, nb⟩ := own_far OB10.out NB10.out t11
          have OB11 := Lib.hid ob
          have OC11 := Lib.hid oc
          have NB11 := Lib.hid nb
          have NC11 := Lib.hid nc
          have J11 := Lib.hid h11
          clear h11 C1 ob nb J10 t11 OB10 NB10 oc nc
          obtain ⟨a1, h1, f1⟩ := pins_other (k := k) (m := k) hn2 P11.out (.inr rfl) (by omega) F11.out
          have C1 := Lib.hid (read_pj PK J11.out HZ.out HS.out R11.out hnN (by omega) [97] (by decide) (k : Int) ⟨by omega, by omega⟩)
          rw [a1, str97] at C1
          have R12 := Lib.hid (R11.out.read J11.out.dok [97] (k : Int))
          have G12 := read_grow J11.out.ok [97] (k : Int)
          have T12 := Lib.hid (And.intro (Nat.le_trans T11.out.1 G12.lo) (Nat.le_trans T11.out.2 G12.pk.1))
          clear a1 h1 f1 G12 T11 R11 P11 F11
          generalize (readPl p11 [97] (k : Int)).1 = p12 at *
          go_wp2_with fail
          refine C1.out.mono ?_
          rintro e w18 ⟨vd, rfl, od, S12, h12, t12, -⟩
          obtain ⟨Ad, cd, rfl, -⟩ := od.form
          obtain ⟨ob, nb⟩ := own_far OB11.out NB11.out t12
          obtain ⟨oc, nc⟩ := own_far OC11.out NC11.out t12
          have OB12 := Lib.hid ob
          have OC12 := Lib.hid oc
          have J12 := Lib.hid h12
          have KP := Lib.hid h12.kp
          have m1 : p12.mostR = n := by have := T12.out.1; have := R12.out.R; omega
          have m2 : p12.mostP = n := by have := T12.out.2; have := R12.out.R; have := R12.out.P; omega
          have PK2 := Lib.hid (peak_pj J12.out)
          rw [m1, m2] at PK2
          clear h12 C1 ob nb oc nc J11 t12 OB11 NB11 OC11 NC11 od m1 m2 T12 R12 J12
          go_wp2_with fail
          refine PK2.out.mono ?_
          rintro e w19 ⟨rfl, k19⟩
          have K19 := Lib.hid (keeps_trans KP.out k19)
          obtain ⟨gb, rfl, qb⟩ := byte_at (by omega) (OB12.out.keep k19)
          obtain ⟨gc, rfl, qc⟩ := byte_at (by omega) (OC12.out.keep k19)
          have y1 : IntKind.u8.wrap (k : Int) = (k : Int) := IntWalk.u8_in _ (by omega)
          have y2 : IntKind.u8.wrap (n : Int) = (n : Int) := IntWalk.u8_in _ (by omega)
          have y3 : ((k : Int) == (k : Int)) = true := by simp
          have y4 : ((n : Int) == (n : Int)) = true := by simp
          clear k19 PK2 OB12 OC12
          go_wp2_with fail
          refine (WK.out _ K19.out).mono ?_
          rintro e w20 ⟨rfl, k20⟩
          have K20 := Lib.hid (keeps_trans K19.out k20)
          clear k20
          go_wp2_with fail
          go_ret
          exact ⟨rfl, K20.out⟩
end Go.Proofs.YtamboappeahgpaaDoor
