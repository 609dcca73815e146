/- Layer 14's statements: WitnessForks. (Written by mkforks.py.) -/
import Derived.Test.YtkijfbnibfbldaaLawWit4
namespace Go.Proofs.Ytkijfbnibfbldaa
open Go.RowKit
set_option linter.unusedSimpArgs false
set_option linter.unusedVariables false
set_option maxRecDepth 100000

set_option maxHeartbeats 16000000 in
theorem forks14_walk (K : HeapOk) (w : World) (y : ForkS) (hy : ForkOk y) (most : Nat) (hm : most < 18446744073709551616) : Calls Try.prog 10 #[.agg (forkA y), .int .u64 (most : Int)] w (Yes w) := by
  have WK := Lib.hid (works14 K)
  have B0 := Box.new w 62 (forkA y)
  have K0 := Lib.hid (keeps_alloc w (.cells (forkA y) 62))
  obtain ⟨W0, hW0⟩ : ∃ W0, W0 = w.alloc (.cells (forkA y) 62) := ⟨_, rfl⟩
  rw [← hW0] at B0 K0
  have FNB := Lib.hid (fun (fb : Bool) (hfb : forkB y most = fb) => show Calls Try.prog 13 #[.func (.func 26) #[.pointer (some ⟨w.heap.size, 0, none⟩)] #[], .func (.func 27) #[.pointer (some ⟨w.heap.size, 0, none⟩)] #[], .int .u32 0, .int .u32 3, .int .u64 (most : Int)] W0 (fun e w' => e = .returned (.tuple #[.bool fb, .int .i64 0]) ∧ Keeps W0 w') from
    Calls.mono (keepFind K (o := outF y) (av := fun _ => false) W0 _ _ _ _ (enters_of Try.func26 rfl rfl) (enters_of Try.func27 rfl rfl) (fun w' v k hv => forkOut_any (B0.keep k) v hv) (fun w' v k hv => forkShun_any _ _ _) (fun v hv => outF_ok hy v) 0 3 most (by decide) (by decide) hm) (by
      rintro e w' ⟨r, rfl, hA, k⟩
      obtain ⟨h1, h2⟩ := fork_is hA
      rw [h1, h2, hfb]
      exact ⟨rfl, k⟩))
  have AB0 := Lib.hid (fun V => refAdd_any y.a y.b hy.a hy.b V)
  have CD0 := Lib.hid (fun V => refAdd_any y.c y.d hy.c hy.d V)
  have CC := Lib.hid (fun V (k : Keeps W0 V) => show V.cell? ⟨w.heap.size, 0, none⟩ = some (.int .u64 (y.a : Int)) ∧ V.cell? ⟨w.heap.size, 1, none⟩ = some (.int .u64 (y.b : Int)) ∧ V.cell? ⟨w.heap.size, 2, none⟩ = some (.int .u64 (y.c : Int)) ∧ V.cell? ⟨w.heap.size, 3, none⟩ = some (.int .u64 (y.d : Int)) ∧ V.cell? ⟨w.heap.size, 4, none⟩ = some (.int .u64 (y.e : Int)) ∧ w.heap.size < V.heap.size from ⟨(B0.keep k).cell 0 rfl, (B0.keep k).cell 1 rfl, (B0.keep k).cell 2 rfl, (B0.keep k).cell 3 rfl, (B0.keep k).cell 4 rfl, (B0.keep k).lt⟩)
  have E1 : ∀ {p : Prop} [Decidable p] {b : Bool}, decide p = b → decide p = b := fun h => h
  obtain ⟨e, he⟩ : ∃ e, y.e = e := ⟨_, rfl⟩
  obtain ⟨p, hp⟩ : ∃ p, addV y.a y.b = p := ⟨_, rfl⟩
  obtain ⟨q, hq⟩ : ∃ q, addV y.c y.d = q := ⟨_, rfl⟩
  obtain ⟨a1, ha1⟩ : ∃ a1, addB y.a y.b = a1 := ⟨_, rfl⟩
  obtain ⟨c1, hc1⟩ : ∃ c1, addB y.c y.d = c1 := ⟨_, rfl⟩
  have FB := Lib.hid (show forkB y most = ((decide (e < far) && decide (e ≤ most)) || (a1 && decide (p ≤ most)) || (c1 && decide (q ≤ most))) from by
    unfold forkB
    rw [ha1, hc1, ← he, ← hp, ← hq]
    have g1 : (a1 && decide (y.a + y.b ≤ most)) = (a1 && decide (addV y.a y.b ≤ most)) := by
      cases a1
      · rfl
      · rw [addV_true ha1]
    have g2 : (c1 && decide (y.c + y.d ≤ most)) = (c1 && decide (addV y.c y.d ≤ most)) := by
      cases c1
      · rfl
      · rw [addV_true hc1]
    rw [g1, g2])
  rw [ha1, hp] at AB0
  rw [hc1, hq] at CD0
  rw [he] at CC
  have HEQ := Lib.hid (show W0 = w.alloc (.cells #[.int .u64 (y.a : Int), .int .u64 (y.b : Int), .int .u64 (y.c : Int), .int .u64 (y.d : Int), .int .u64 (e : Int)] 62) by rw [hW0, ← he]; rfl)
  obtain ⟨ya, hya⟩ : ∃ v, y.a = v := ⟨_, rfl⟩
  obtain ⟨yb, hyb⟩ : ∃ v, y.b = v := ⟨_, rfl⟩
  obtain ⟨yc, hyc⟩ : ∃ v, y.c = v := ⟨_, rfl⟩
  obtain ⟨yd, hyd⟩ : ∃ v, y.d = v := ⟨_, rfl⟩
  have hfA : forkA y = #[.int .u64 (ya : Int), .int .u64 (yb : Int), .int .u64 (yc : Int), .int .u64 (yd : Int), .int .u64 (e : Int)] := by unfold forkA; rw [hya, hyb, hyc, hyd, he]
  rw [hya, hyb] at AB0
  rw [hyc, hyd] at CD0
  rw [hya, hyb, hyc, hyd] at CC HEQ
  rw [hfA]
  have FNC := Lib.hid (fun (fb : Bool) (h : ((decide (e < far) && decide (e ≤ most)) || (a1 && decide (p ≤ most)) || (c1 && decide (q ≤ most))) = fb) => FNB.out fb (FB.out.trans h))
  clear B0 hW0 hy hm E1 he hp hq ha1 hc1 hya hyb hyc hyd hfA FNB FB
  obtain ⟨x0, x1, x2, x3, x4, lx⟩ := CC.out _ (keeps_refl _)
  rw [HEQ.out] at x0 x1 x2 x3 x4 lx
  by_cases hef : e < far
  · have fi : decide ((e : Int) < 9223372036854775808) = true := decide_eq_true (by unfold far at *; omega)
    by_cases hem : e ≤ most
    · have mi : decide ((e : Int) ≤ (most : Int)) = true := decide_eq_true (by omega)
      have mn : decide (e ≤ most) = true := decide_eq_true (by omega)
      have FN := Lib.hid (FNC.out true (by simp [*]))
      have AB := AB0
      have CD := CD0
      clear FNC AB0 CD0
      try clear hef
      try clear hem
      try clear hpm
      try clear hqm
      go_enter Try.func10, Try.ntmps10
      go_wp2_with fail
      rw [← HEQ.out] at *
      refine FN.out.mono ?_
      rintro e w2 ⟨rfl, k2⟩
      have K2 := Lib.hid k2
      clear x0 x1 x2 x3 x4 lx k2
      obtain ⟨x0, x1, x2, x3, x4, lx⟩ := CC.out _ K2.out
      go_wp2_with fail
      refine (AB.out _).mono ?_
      rintro e w3 ⟨rfl, rfl⟩
      go_wp2_with fail
      refine (CD.out _).mono ?_
      rintro e w4 ⟨rfl, rfl⟩
      go_wp2_with fail
      refine (WK.out _).mono ?_
      rintro e w5 ⟨rfl, k5⟩
      go_wp2_with fail
      go_ret
      exact ⟨rfl, keeps_trans K0.out (keeps_trans K2.out k5)⟩
    · have mi : decide ((e : Int) ≤ (most : Int)) = false := decide_eq_false (by omega)
      have mn : decide (e ≤ most) = false := decide_eq_false (by omega)
      cases a1 with
      | false =>
        cases c1 with
        | false =>
          have FN := Lib.hid (FNC.out false (by simp [*]))
          have AB := AB0
          have CD := CD0
          clear FNC AB0 CD0
          try clear hef
          try clear hem
          try clear hpm
          try clear hqm
          go_enter Try.func10, Try.ntmps10
          go_wp2_with fail
          rw [← HEQ.out] at *
          refine FN.out.mono ?_
          rintro e w2 ⟨rfl, k2⟩
          have K2 := Lib.hid k2
          clear x0 x1 x2 x3 x4 lx k2
          obtain ⟨x0, x1, x2, x3, x4, lx⟩ := CC.out _ K2.out
          go_wp2_with fail
          refine (AB.out _).mono ?_
          rintro e w3 ⟨rfl, rfl⟩
          go_wp2_with fail
          refine (CD.out _).mono ?_
          rintro e w4 ⟨rfl, rfl⟩
          go_wp2_with fail
          refine (WK.out _).mono ?_
          rintro e w5 ⟨rfl, k5⟩
          go_wp2_with fail
          go_ret
          exact ⟨rfl, keeps_trans K0.out (keeps_trans K2.out k5)⟩
        | true =>
          by_cases hqm : q ≤ most
          · have qi : decide ((q : Int) ≤ (most : Int)) = true := decide_eq_true (by omega)
            have qn : decide (q ≤ most) = true := decide_eq_true (by omega)
            have FN := Lib.hid (FNC.out true (by simp [*]))
            have AB := AB0
            have CD := CD0
            clear FNC AB0 CD0
            try clear hef
            try clear hem
            try clear hpm
            try clear hqm
            go_enter Try.func10, Try.ntmps10
            go_wp2_with fail
            rw [← HEQ.out] at *
            refine FN.out.mono ?_
            rintro e w2 ⟨rfl, k2⟩
            have K2 := Lib.hid k2
            clear x0 x1 x2 x3 x4 lx k2
            obtain ⟨x0, x1, x2, x3, x4, lx⟩ := CC.out _ K2.out
            go_wp2_with fail
            refine (AB.out _).mono ?_
            rintro e w3 ⟨rfl, rfl⟩
            go_wp2_with fail
            refine (CD.out _).mono ?_
            rintro e w4 ⟨rfl, rfl⟩
            go_wp2_with fail
            refine (WK.out _).mono ?_
            rintro e w5 ⟨rfl, k5⟩
            go_wp2_with fail
            go_ret
            exact ⟨rfl, keeps_trans K0.out (keeps_trans K2.out k5)⟩
          · have qi : decide ((q : Int) ≤ (most : Int)) = false := decide_eq_false (by omega)
            have qn : decide (q ≤ most) = false := decide_eq_false (by omega)
            have FN := Lib.hid (FNC.out false (by simp [*]))
            have AB := AB0
            have CD := CD0
            clear FNC AB0 CD0
            try clear hef
            try clear hem
            try clear hpm
            try clear hqm
            go_enter Try.func10, Try.ntmps10
            go_wp2_with fail
            rw [← HEQ.out] at *
            refine FN.out.mono ?_
            rintro e w2 ⟨rfl, k2⟩
            have K2 := Lib.hid k2
            clear x0 x1 x2 x3 x4 lx k2
            obtain ⟨x0, x1, x2, x3, x4, lx⟩ := CC.out _ K2.out
            go_wp2_with fail
            refine (AB.out _).mono ?_
            rintro e w3 ⟨rfl, rfl⟩
            go_wp2_with fail
            refine (CD.out _).mono ?_
            rintro e w4 ⟨rfl, rfl⟩
            go_wp2_with fail
            refine (WK.out _).mono ?_
            rintro e w5 ⟨rfl, k5⟩
            go_wp2_with fail
            go_ret
            exact ⟨rfl, keeps_trans K0.out (keeps_trans K2.out k5)⟩
      | true =>
        by_cases hpm : p ≤ most
        · have pi : decide ((p : Int) ≤ (most : Int)) = true := decide_eq_true (by omega)
          have pn : decide (p ≤ most) = true := decide_eq_true (by omega)
          have FN := Lib.hid (FNC.out true (by simp [*]))
          have AB := AB0
          have CD := CD0
          clear FNC AB0 CD0
          try clear hef
          try clear hem
          try clear hpm
          try clear hqm
          go_enter Try.func10, Try.ntmps10
          go_wp2_with fail
          rw [← HEQ.out] at *
          refine FN.out.mono ?_
          rintro e w2 ⟨rfl, k2⟩
          have K2 := Lib.hid k2
          clear x0 x1 x2 x3 x4 lx k2
          obtain ⟨x0, x1, x2, x3, x4, lx⟩ := CC.out _ K2.out
          go_wp2_with fail
          refine (AB.out _).mono ?_
          rintro e w3 ⟨rfl, rfl⟩
          go_wp2_with fail
          refine (CD.out _).mono ?_
          rintro e w4 ⟨rfl, rfl⟩
          go_wp2_with fail
          refine (WK.out _).mono ?_
          rintro e w5 ⟨rfl, k5⟩
          go_wp2_with fail
          go_ret
          exact ⟨rfl, keeps_trans K0.out (keeps_trans K2.out k5)⟩
        · have pi : decide ((p : Int) ≤ (most : Int)) = false := decide_eq_false (by omega)
          have pn : decide (p ≤ most) = false := decide_eq_false (by omega)
          cases c1 with
          | false =>
            have FN := Lib.hid (FNC.out false (by simp [*]))
            have AB := AB0
            have CD := CD0
            clear FNC AB0 CD0
            try clear hef
            try clear hem
            try clear hpm
            try clear hqm
            go_enter Try.func10, Try.ntmps10
            go_wp2_with fail
            rw [← HEQ.out] at *
            refine FN.out.mono ?_
            rintro e w2 ⟨rfl, k2⟩
            have K2 := Lib.hid k2
            clear x0 x1 x2 x3 x4 lx k2
            obtain ⟨x0, x1, x2, x3, x4, lx⟩ := CC.out _ K2.out
            go_wp2_with fail
            refine (AB.out _).mono ?_
            rintro e w3 ⟨rfl, rfl⟩
            go_wp2_with fail
            refine (CD.out _).mono ?_
            rintro e w4 ⟨rfl, rfl⟩
            go_wp2_with fail
            refine (WK.out _).mono ?_
            rintro e w5 ⟨rfl, k5⟩
            go_wp2_with fail
            go_ret
            exact ⟨rfl, keeps_trans K0.out (keeps_trans K2.out k5)⟩
          | true =>
            by_cases hqm : q ≤ most
            · have qi : decide ((q : Int) ≤ (most : Int)) = true := decide_eq_true (by omega)
              have qn : decide (q ≤ most) = true := decide_eq_true (by omega)
              have FN := Lib.hid (FNC.out true (by simp [*]))
              have AB := AB0
              have CD := CD0
              clear FNC AB0 CD0
              try clear hef
              try clear hem
              try clear hpm
              try clear hqm
              go_enter Try.func10, Try.ntmps10
              go_wp2_with fail
              rw [← HEQ.out] at *
              refine FN.out.mono ?_
              rintro e w2 ⟨rfl, k2⟩
              have K2 := Lib.hid k2
              clear x0 x1 x2 x3 x4 lx k2
              obtain ⟨x0, x1, x2, x3, x4, lx⟩ := CC.out _ K2.out
              go_wp2_with fail
              refine (AB.out _).mono ?_
              rintro e w3 ⟨rfl, rfl⟩
              go_wp2_with fail
              refine (CD.out _).mono ?_
              rintro e w4 ⟨rfl, rfl⟩
              go_wp2_with fail
              refine (WK.out _).mono ?_
              rintro e w5 ⟨rfl, k5⟩
              go_wp2_with fail
              go_ret
              exact ⟨rfl, keeps_trans K0.out (keeps_trans K2.out k5)⟩
            · have qi : decide ((q : Int) ≤ (most : Int)) = false := decide_eq_false (by omega)
              have qn : decide (q ≤ most) = false := decide_eq_false (by omega)
              have FN := Lib.hid (FNC.out false (by simp [*]))
              have AB := AB0
              have CD := CD0
              clear FNC AB0 CD0
              try clear hef
              try clear hem
              try clear hpm
              try clear hqm
              go_enter Try.func10, Try.ntmps10
              go_wp2_with fail
              rw [← HEQ.out] at *
              refine FN.out.mono ?_
              rintro e w2 ⟨rfl, k2⟩
              have K2 := Lib.hid k2
              clear x0 x1 x2 x3 x4 lx k2
              obtain ⟨x0, x1, x2, x3, x4, lx⟩ := CC.out _ K2.out
              go_wp2_with fail
              refine (AB.out _).mono ?_
              rintro e w3 ⟨rfl, rfl⟩
              go_wp2_with fail
              refine (CD.out _).mono ?_
              rintro e w4 ⟨rfl, rfl⟩
              go_wp2_with fail
              refine (WK.out _).mono ?_
              rintro e w5 ⟨rfl, k5⟩
              go_wp2_with fail
              go_ret
              exact ⟨rfl, keeps_trans K0.out (keeps_trans K2.out k5)⟩
  · have fi : decide ((e : Int) < 9223372036854775808) = false := decide_eq_false (by unfold far at *; omega)
    cases a1 with
    | false =>
      cases c1 with
      | false =>
        have FN := Lib.hid (FNC.out false (by simp [*]))
        have AB := AB0
        have CD := CD0
        clear FNC AB0 CD0
        try clear hef
        try clear hem
        try clear hpm
        try clear hqm
        go_enter Try.func10, Try.ntmps10
        go_wp2_with fail
        rw [← HEQ.out] at *
        refine FN.out.mono ?_
        rintro e w2 ⟨rfl, k2⟩
        have K2 := Lib.hid k2
        clear x0 x1 x2 x3 x4 lx k2
        obtain ⟨x0, x1, x2, x3, x4, lx⟩ := CC.out _ K2.out
        go_wp2_with fail
        refine (AB.out _).mono ?_
        rintro e w3 ⟨rfl, rfl⟩
        go_wp2_with fail
        refine (CD.out _).mono ?_
        rintro e w4 ⟨rfl, rfl⟩
        go_wp2_with fail
        refine (WK.out _).mono ?_
        rintro e w5 ⟨rfl, k5⟩
        go_wp2_with fail
        go_ret
        exact ⟨rfl, keeps_trans K0.out (keeps_trans K2.out k5)⟩
      | true =>
        by_cases hqm : q ≤ most
        · have qi : decide ((q : Int) ≤ (most : Int)) = true := decide_eq_true (by omega)
          have qn : decide (q ≤ most) = true := decide_eq_true (by omega)
          have FN := Lib.hid (FNC.out true (by simp [*]))
          have AB := AB0
          have CD := CD0
          clear FNC AB0 CD0
          try clear hef
          try clear hem
          try clear hpm
          try clear hqm
          go_enter Try.func10, Try.ntmps10
          go_wp2_with fail
          rw [← HEQ.out] at *
          refine FN.out.mono ?_
          rintro e w2 ⟨rfl, k2⟩
          have K2 := Lib.hid k2
          clear x0 x1 x2 x3 x4 lx k2
          obtain ⟨x0, x1, x2, x3, x4, lx⟩ := CC.out _ K2.out
          go_wp2_with fail
          refine (AB.out _).mono ?_
          rintro e w3 ⟨rfl, rfl⟩
          go_wp2_with fail
          refine (CD.out _).mono ?_
          rintro e w4 ⟨rfl, rfl⟩
          go_wp2_with fail
          refine (WK.out _).mono ?_
          rintro e w5 ⟨rfl, k5⟩
          go_wp2_with fail
          go_ret
          exact ⟨rfl, keeps_trans K0.out (keeps_trans K2.out k5)⟩
        · have qi : decide ((q : Int) ≤ (most : Int)) = false := decide_eq_false (by omega)
          have qn : decide (q ≤ most) = false := decide_eq_false (by omega)
          have FN := Lib.hid (FNC.out false (by simp [*]))
          have AB := AB0
          have CD := CD0
          clear FNC AB0 CD0
          try clear hef
          try clear hem
          try clear hpm
          try clear hqm
          go_enter Try.func10, Try.ntmps10
          go_wp2_with fail
          rw [← HEQ.out] at *
          refine FN.out.mono ?_
          rintro e w2 ⟨rfl, k2⟩
          have K2 := Lib.hid k2
          clear x0 x1 x2 x3 x4 lx k2
          obtain ⟨x0, x1, x2, x3, x4, lx⟩ := CC.out _ K2.out
          go_wp2_with fail
          refine (AB.out _).mono ?_
          rintro e w3 ⟨rfl, rfl⟩
          go_wp2_with fail
          refine (CD.out _).mono ?_
          rintro e w4 ⟨rfl, rfl⟩
          go_wp2_with fail
          refine (WK.out _).mono ?_
          rintro e w5 ⟨rfl, k5⟩
          go_wp2_with fail
          go_ret
          exact ⟨rfl, keeps_trans K0.out (keeps_trans K2.out k5)⟩
    | true =>
      by_cases hpm : p ≤ most
      · have pi : decide ((p : Int) ≤ (most : Int)) = true := decide_eq_true (by omega)
        have pn : decide (p ≤ most) = true := decide_eq_true (by omega)
        have FN := Lib.hid (FNC.out true (by simp [*]))
        have AB := AB0
        have CD := CD0
        clear FNC AB0 CD0
        try clear hef
        try clear hem
        try clear hpm
        try clear hqm
        go_enter Try.func10, Try.ntmps10
        go_wp2_with fail
        rw [← HEQ.out] at *
        refine FN.out.mono ?_
        rintro e w2 ⟨rfl, k2⟩
        have K2 := Lib.hid k2
        clear x0 x1 x2 x3 x4 lx k2
        obtain ⟨x0, x1, x2, x3, x4, lx⟩ := CC.out _ K2.out
        go_wp2_with fail
        refine (AB.out _).mono ?_
        rintro e w3 ⟨rfl, rfl⟩
        go_wp2_with fail
        refine (CD.out _).mono ?_
        rintro e w4 ⟨rfl, rfl⟩
        go_wp2_with fail
        refine (WK.out _).mono ?_
        rintro e w5 ⟨rfl, k5⟩
        go_wp2_with fail
        go_ret
        exact ⟨rfl, keeps_trans K0.out (keeps_trans K2.out k5)⟩
      · have pi : decide ((p : Int) ≤ (most : Int)) = false := decide_eq_false (by omega)
        have pn : decide (p ≤ most) = false := decide_eq_false (by omega)
        cases c1 with
        | false =>
          have FN := Lib.hid (FNC.out false (by simp [*]))
          have AB := AB0
          have CD := CD0
          clear FNC AB0 CD0
          try clear hef
          try clear hem
          try clear hpm
          try clear hqm
          go_enter Try.func10, Try.ntmps10
          go_wp2_with fail
          rw [← HEQ.out] at *
          refine FN.out.mono ?_
          rintro e w2 ⟨rfl, k2⟩
          have K2 := Lib.hid k2
          clear x0 x1 x2 x3 x4 lx k2
          obtain ⟨x0, x1, x2, x3, x4, lx⟩ := CC.out _ K2.out
          go_wp2_with fail
          refine (AB.out _).mono ?_
          rintro e w3 ⟨rfl, rfl⟩
          go_wp2_with fail
          refine (CD.out _).mono ?_
          rintro e w4 ⟨rfl, rfl⟩
          go_wp2_with fail
          refine (WK.out _).mono ?_
          rintro e w5 ⟨rfl, k5⟩
          go_wp2_with fail
          go_ret
          exact ⟨rfl, keeps_trans K0.out (keeps_trans K2.out k5)⟩
        | true =>
          by_cases hqm : q ≤ most
          · have qi : decide ((q : Int) ≤ (most : Int)) = true := decide_eq_true (by omega)
            have qn : decide (q ≤ most) = true := decide_eq_true (by omega)
            have FN := Lib.hid (FNC.out true (by simp [*]))
            have AB := AB0
            have CD := CD0
            clear FNC AB0 CD0
            try clear hef
            try clear hem
            try clear hpm
            try clear hqm
            go_enter Try.func10, Try.ntmps10
            go_wp2_with fail
            rw [← HEQ.out] at *
            refine FN.out.mono ?_
            rintro e w2 ⟨rfl, k2⟩
            have K2 := Lib.hid k2
            clear x0 x1 x2 x3 x4 lx k2
            obtain ⟨x0, x1, x2, x3, x4, lx⟩ := CC.out _ K2.out
            go_wp2_with fail
            refine (AB.out _).mono ?_
            rintro e w3 ⟨rfl, rfl⟩
            go_wp2_with fail
            refine (CD.out _).mono ?_
            rintro e w4 ⟨rfl, rfl⟩
            go_wp2_with fail
            refine (WK.out _).mono ?_
            rintro e w5 ⟨rfl, k5⟩
            go_wp2_with fail
            go_ret
            exact ⟨rfl, keeps_trans K0.out (keeps_trans K2.out k5)⟩
          · have qi : decide ((q : Int) ≤ (most : Int)) = false := decide_eq_false (by omega)
            have qn : decide (q ≤ most) = false := decide_eq_false (by omega)
            have FN := Lib.hid (FNC.out false (by simp [*]))
            have AB := AB0
            have CD := CD0
            clear FNC AB0 CD0
            try clear hef
            try clear hem
            try clear hpm
            try clear hqm
            go_enter Try.func10, Try.ntmps10
            go_wp2_with fail
            rw [← HEQ.out] at *
            refine FN.out.mono ?_
            rintro e w2 ⟨rfl, k2⟩
            have K2 := Lib.hid k2
            clear x0 x1 x2 x3 x4 lx k2
            obtain ⟨x0, x1, x2, x3, x4, lx⟩ := CC.out _ K2.out
            go_wp2_with fail
            refine (AB.out _).mono ?_
            rintro e w3 ⟨rfl, rfl⟩
            go_wp2_with fail
            refine (CD.out _).mono ?_
            rintro e w4 ⟨rfl, rfl⟩
            go_wp2_with fail
            refine (WK.out _).mono ?_
            rintro e w5 ⟨rfl, k5⟩
            go_wp2_with fail
            go_ret
            exact ⟨rfl, keeps_trans K0.out (keeps_trans K2.out k5)⟩
end Go.Proofs.Ytkijfbnibfbldaa
