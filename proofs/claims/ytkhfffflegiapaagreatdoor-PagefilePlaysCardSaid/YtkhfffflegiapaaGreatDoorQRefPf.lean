/- What the reference's package of chapter 8 answers: Create, Open, Name, Pages, Sync, Read. (Written by mkrefpf.py.) -/
import Derived.Test.YtkhfffflegiapaaGreatDoorQLawMeant
import Derived.Test.YtkhfffflegiapaaGreatDoorQRefPage
import Derived.Test.YtkhfffflegiapaaGreatDoorQPf
import Derived.Test.YtkhfffflegiapaaGreatDoorQPfBad
import Derived.Test.YtkhfffflegiapaaGreatDoorQPfVast
namespace Go.Proofs.YtkhfffflegiapaaGreatDoor.Ref
open Go.RowKit
set_option linter.unusedSimpArgs false
set_option linter.unusedVariables false
set_option maxRecDepth 100000

/-- a file of pages lies there: its disk and its name -/
def PfAt (w : World) (f b : Nat) (nm : List UInt8) : Prop := Box w f 178 #[.pointer (some ⟨b, 0, none⟩), .string (str nm)]
theorem PfAt.keep {w w' : World} {f b : Nat} {nm : List UInt8} (h : PfAt w f b nm) (k : Keeps w w') : PfAt w' f b nm := Box.keep h k
theorem PfAt.turn {w w' : World} {f b : Nat} {nm : List UInt8} {F F' : Nat → Prop} (h : PfAt w f b nm) (t : Turns w w' F F') (hf : ¬ F f) : PfAt w' f b nm ∧ ¬ F' f :=
  ⟨Box.turned h t hf, t.notIn h.lt hf⟩

section
variable {K : DiskOk} {w0 w : World} {b f : Nat} {F : Nat → Prop} {s : Ds}
/-- a file, or none -/
def MadeF (w0 w : World) (K : DiskOk) (b : Nat) (F : Nat → Prop) (s' : Ds) (E : Nat) (nm : List UInt8) (e : Ending) (w' : World) : Prop :=
  ∃ F', Have K w0 w' b F' s' ∧ Turns w w' F F' ∧ ((E = 0 ∧ ∃ f, e = .returned (.tuple #[.pointer (some ⟨f, 0, none⟩), .int .i64 0]) ∧ PfAt w' f b nm ∧ w.heap.size ≤ f ∧ ¬ F' f) ∨ (E ≠ 0 ∧ e = .returned (.tuple #[.pointer none, .int .i64 (E : Int)])))
set_option maxHeartbeats 4000000 in
theorem pfCreate_any (h : Have K w0 w b F s) (hZ : K.Z w0) (hs7 : s.l.length ≤ 70000) (nm : List UInt8) (hnm : nm.length ≤ maxLen) {s' : Ds} {E : Nat} (hs : createS s nm = (s', E)) :
    Calls Tryz.prog 74 #[.pointer (some ⟨b, 0, none⟩), .string (str nm)] w (MadeF w0 w K b F s' E nm) := by
  have C := Lib.hid (h.went hs (K.create nm (h.z hZ) h.D hs7 hnm))
  unfold dpt strV at C
  clear h hZ hs
  go_enter Tryz.func74, Tryz.ntmps74
  go_wp2_with fail
  refine C.out.mono ?_
  rintro e w1 ⟨rfl, F1, h1, t1⟩
  have H1 := Lib.hid h1
  have T1 := Lib.hid t1
  clear h1 t1
  by_cases h0 : E = 0
  · subst h0
    go_wp2_with fail
    go_returns
    have lt := K.lt H1.out.D
    exact ⟨F1, H1.out.keep (keeps_alloc _ _), T1.out.trans (Turns.of_keeps (keeps_alloc _ _)), .inl ⟨rfl, w1.heap.size, rfl, Box.new _ _ _, T1.out.only.size, fun hf => by have := lt _ hf; omega⟩⟩
  · have hne : ((E : Int) != 0) = true := by rw [bne_iff_ne]; omega
    go_wp2_with fail
    go_returns
    exact ⟨F1, H1.out, T1.out, .inr ⟨h0, rfl⟩⟩
set_option maxHeartbeats 4000000 in
theorem pfOpen_any (h : Have K w0 w b F s) (hZ : K.Z w0) (hs7 : s.l.length ≤ 70000) (nm : List UInt8) (hnm : nm.length ≤ maxLen) {n E : Nat} (hs : sizeS s nm = (n, E)) (hn : n ≤ 16777216) :
    Calls Tryz.prog 76 #[.pointer (some ⟨b, 0, none⟩), .string (str nm)] w fun e w' => Keeps w w' ∧ ((openE s nm = 0 ∧ ∃ f, e = .returned (.tuple #[.pointer (some ⟨f, 0, none⟩), .int .i64 0]) ∧ PfAt w' f b nm ∧ w.heap.size ≤ f) ∨ (openE s nm ≠ 0 ∧ e = .returned (.tuple #[.pointer none, .int .i64 (openE s nm : Int)]))) := by
  have C := Lib.hid (h.size_ hZ hs7 nm (str nm) rfl hs hnm)
  obtain ⟨o, ho⟩ : ∃ o, openE s nm = o := ⟨_, rfl⟩
  rw [ho]
  unfold openE at ho
  rw [hs] at ho
  have HO := Lib.hid ho
  have H := Lib.hid h
  have hni : (n : Int) ≤ 16777216 := by omega
  clear h hZ hs ho hn
  go_enter Tryz.func76, Tryz.ntmps76
  go_wp2_with fail
  refine C.out.mono ?_
  rintro e w1 ⟨rfl, -, k1⟩
  by_cases h0 : E = 0
  · subst h0
    by_cases h1 : n % 256 = 0
    · have hm2 : ((n : Int).tmod 256) = 0 := by rw [Int.tmod_eq_emod_of_nonneg (by omega)]; omega
      have e0 := Lib.hid (show o = 0 by have := HO.out; simpa [h1] using this.symm)
      clear h1
      go_wp2_with fail
      go_returns
      exact ⟨keeps_trans k1 (keeps_alloc _ _), .inl ⟨e0.out, w1.heap.size, rfl, Box.new _ _ _, k1.size⟩⟩
    · obtain ⟨r, hr⟩ : ∃ r : Int, (n : Int).tmod 256 = r := ⟨_, rfl⟩
      have hr0 : (r != 0) = true := by
        rw [Int.tmod_eq_emod_of_nonneg (by omega)] at hr
        rw [bne_iff_ne]
        omega
      have e0 := Lib.hid (show o = 7 by have := HO.out; simpa [h1] using this.symm)
      clear h1
      go_wp2_with fail
      go_returns
      rw [e0.out]
      exact ⟨k1, .inr ⟨by decide, rfl⟩⟩
  · have hne : ((E : Int) != 0) = true := by rw [bne_iff_ne]; omega
    have e0 := Lib.hid (show o = E by have := HO.out; simpa [h0] using this.symm)
    go_wp2_with fail
    go_returns
    rw [e0.out]
    exact ⟨k1, .inr ⟨h0, rfl⟩⟩
theorem pfName_any {nm : List UInt8} (hf : PfAt w f b nm) : Calls Tryz.prog 75 #[.pointer (some ⟨f, 0, none⟩)] w fun e w' => e = .returned (.string (str nm)) ∧ Keeps w w' := by
  have c1 := Box.cell hf 1 rfl
  generalize str nm = sv at *
  go_enter Tryz.func75, Tryz.ntmps75
  go_wp2_with fail
  go_ret
  exact ⟨rfl, keeps_refl _⟩
set_option maxHeartbeats 4000000 in
theorem pfPages_any {nm : List UInt8} (h : Have K w0 w b F s) (hZ : K.Z w0) (hs7 : s.l.length ≤ 70000) (hf : PfAt w f b nm) (hnm : nm.length ≤ maxLen) {n E : Nat} (hs : sizeS s nm = (n, E)) (hn : n ≤ 16777216) :
    Calls Tryz.prog 80 #[.pointer (some ⟨f, 0, none⟩)] w fun e w' => e = .returned (.tuple #[.int .i64 ((n / 256 : Nat) : Int), .int .i64 (E : Int)]) ∧ Keeps w w' := by
  have C := Lib.hid ((h.keep (keeps_drew w)).size_ hZ hs7 nm (str nm) rfl hs hnm)
  have c0 := Box.cell hf 0 rfl
  have c1 := Box.cell hf 1 rfl
  have hni : (n : Int) ≤ 16777216 := by omega
  obtain ⟨q, hq⟩ : ∃ q, n / 256 = q := ⟨_, rfl⟩
  have hq2 : (n : Int).tdiv 256 = (q : Int) := by rw [Int.tdiv_eq_ediv_of_nonneg (by omega)]; omega
  have hqi : (q : Int) ≤ 65536 := by omega
  rw [hq]
  have HQ := Lib.hid hq
  clear h hZ hs hf hn hq
  generalize str nm = sv at *
  go_enter Tryz.func80, Tryz.ntmps80
  go_wp2_with fail
  go_region_with (go_at_call 112; refine C.out.mono ?_; rintro ee w2 ⟨rfl, -, k2⟩)
  all_goals
    go_wp2_with fail
    go_returns
    exact ⟨rfl, keeps_trans (keeps_drew w) k2⟩
set_option maxHeartbeats 4000000 in
theorem pfSync_any {nm : List UInt8} (h : Have K w0 w b F s) (hZ : K.Z w0) (hs7 : s.l.length ≤ 70000) (hf : PfAt w f b nm) (hnm : nm.length ≤ maxLen) {s' : Ds} {E : Nat} (hs : syncS s nm = (s', E)) :
    Calls Tryz.prog 79 #[.pointer (some ⟨f, 0, none⟩)] w (WentU K w0 w b F s' E) := by
  have k := K.sync nm ((h.keep (keeps_drew w)).z hZ) (h.keep (keeps_drew w)).D hs7 hnm
  rw [hs] at k
  have C := Lib.hid k
  have H := Lib.hid h
  have c0 := Box.cell hf 0 rfl
  have c1 := Box.cell hf 1 rfl
  unfold dpt strV at *
  clear h hZ hs hf k
  generalize str nm = sv at *
  go_enter Tryz.func79, Tryz.ntmps79
  go_wp2_with fail
  go_region_with (go_at_call 118; refine C.out.mono ?_; rintro ee w2 ⟨rfl, F2, D2, t2⟩)
  all_goals
    go_wp2_with fail
    go_ret
    have tt := (Turns.of_keeps (S := F) (keeps_drew w)).trans t2
    exact ⟨rfl, F2, H.out.step D2 tt, tt⟩
end


section
variable {K : DiskOk} {w0 w : World} {b f : Nat} {F : Nat → Prop} {s : Ds}
/-- bytes in new memory, and an error -/
def GaveU (w : World) (l : List UInt8) (E : Nat) (e : Ending) (w' : World) : Prop := ∃ A c, e = .returned (.tuple #[.slice A l.length c, .int .i64 (E : Int)]) ∧ l.length ≤ c ∧ Own w' w.heap.size 5 1 (.slice A l.length c) l.length (cel l) ∧ Keeps w w'
theorem GaveU.none {w w' : World} {E : Nat} (k : Keeps w w') : GaveU w [] E (.returned (.tuple #[.slice none 0 0, .int .i64 (E : Int)])) w' := ⟨Option.none, 0, rfl, Nat.le_refl _, Own.nil _ _ _ _, k⟩
set_option maxHeartbeats 8000000 in
theorem pfRead_any {nm : List UInt8} (h : Have K w0 w b F s) (hZ : K.Z w0) (hs7 : s.l.length ≤ 70000) (hf : PfAt w f b nm) (hnm : nm.length ≤ 100000) (k : Int) (hk : IsI k) {l : List UInt8} {E : Nat} (hs : readP s nm k = (l, E)) :
    Calls Tryz.prog 77 #[.pointer (some ⟨f, 0, none⟩), .int .i64 k] w (GaveU w l E) := by
  have hn := size_le (K.ok h.D) nm
  have hml : nm.length ≤ maxLen := by unfold maxLen; omega
  obtain ⟨n, E0, hz⟩ : ∃ n E0, sizeS s nm = (n, E0) := ⟨_, _, rfl⟩
  rw [hz] at hn
  have PG := Lib.hid (pfPages_any h hZ hs7 hf hml hz hn)
  unfold readP at hs
  rw [hz] at hs
  simp only at hs
  have hki := hk.2
  have hkl := hk.1
  have HS := Lib.hid hs
  have HF := Lib.hid hf
  have H := Lib.hid h
  by_cases k0 : k < 0
  · have e := HS.out
    rw [if_pos k0] at e
    obtain ⟨rfl, rfl⟩ := Prod.mk.inj e
    clear h hZ hf hs e hz hn PG
    go_enter Tryz.func77, Tryz.ntmps77
    go_wp2_with fail
    go_returns
    exact GaveU.none (keeps_refl _)
  · obtain ⟨kn, rfl⟩ : ∃ kn : Nat, k = (kn : Int) := ⟨k.toNat, by omega⟩
    by_cases e0 : E0 = 0
    · subst e0
      obtain ⟨q, hq⟩ : ∃ q, n / 256 = q := ⟨_, rfl⟩
      have hq2 : q ≤ 65536 := by omega
      have hqi : (q : Int) ≤ 65536 := by omega
      rw [hq] at PG
      by_cases big : q ≤ kn
      · have hb : (q : Int) ≤ (kn : Int) := by omega
        have e := HS.out
        rw [if_neg k0, if_neg (by simp), if_pos (by rw [hq]; simpa using big)] at e
        obtain ⟨rfl, rfl⟩ := Prod.mk.inj e
        clear h hZ hf hs e hz hn hq big hq2
        go_enter Tryz.func77, Tryz.ntmps77
        go_wp2_with fail
        refine PG.out.mono ?_
        rintro e w1 ⟨rfl, k1⟩
        go_wp2_with fail
        go_returns
        exact GaveU.none k1
      · have hb : (kn : Int) < (q : Int) := by omega
        obtain ⟨f0, -, -, hr⟩ := size_ok (s := s) (nm := nm) (by rw [hz])
        obtain ⟨p, hp⟩ : ∃ p, readS s nm ((kn : Int) * 256) 256 = (p, 0) := ⟨_, hr _ _ (by omega) (by decide)⟩
        have HPL := Lib.hid (show p.length ≤ 1000000 by
          rw [hr _ _ (by omega) (by decide)] at hp
          rw [← (Prod.mk.inj hp).1, List.length_take]
          omega)
        have e := HS.out
        rw [if_neg k0, if_neg (by simp), if_neg (by rw [hq]; simpa using big), hp] at e
        simp only [Int.toNat_natCast] at e
        obtain ⟨off, hoff⟩ : ∃ off : Nat, (kn : Int) * 256 = (off : Int) := ⟨kn * 256, by omega⟩
        have hofi : (off : Int) ≤ 16777216 := by omega
        rw [hoff] at hp
        have hoff2 : (256 : Int) * (kn : Int) = (off : Int) := by omega
        have hwr : IntKind.i64.wrap (off : Int) = (off : Int) := IntWalk.i64_in _ (by omega)
        have RD := Lib.hid (fun (V : World) (kk : Keeps w V) => (h.keep kk).read_ hZ hs7 nm (off : Int) 256 ⟨by omega, by omega⟩ ⟨by decide, by decide⟩ (str nm) rfl hp hml)
        have TG := Lib.hid (fun V => refTag_any nm V (by omega))
        have CC := Lib.hid (fun (V : World) (kk : Keeps w V) => And.intro (Box.cell (hf.keep kk) 0 rfl) (Box.cell (hf.keep kk) 1 rfl))
        have TL := Lib.hid (show extC 0 nm < 4294967296 from tagN_lt nm)
        have hkk : (kn : Int) ≤ 65535 := by omega
        have hwu : IntKind.u32.wrap (kn : Int) = (kn : Int) := by simp [IntKind.wrap, IntKind.bits, IntKind.signed]; omega
        have hk32 : (kn : Int) % 4294967296 = (kn : Int) := by omega
        have HKN := Lib.hid (show kn < 4294967296 by omega)
        have HE := Lib.hid e
        have e1 : ((0 : Int) != 0) = false := rfl
        clear h hZ hf hs e hz hn hq big hq2 HS HF H hp hr hki hkl k0 hk
        unfold tagN at HE
        generalize extC 0 nm = t at *
        generalize str nm = sv at *
        go_enter Tryz.func77, Tryz.ntmps77
        go_wp2_with fail
        refine PG.out.mono ?_
        rintro e w1 ⟨rfl, k1⟩
        have K1 := Lib.hid k1
        obtain ⟨c0, c1⟩ := CC.out _ k1
        clear k1
        go_wp2_with fail
        go_region_with (go_at_call 113; refine (RD.out _ (keeps_trans K1.out (keeps_drew w1))).mono ?_; rintro ee w2 ⟨A, c, rfl, hc, o2, -, k2⟩)
        all_goals
          have K2 := Lib.hid (keeps_trans (keeps_trans K1.out (keeps_drew w1)) k2)
          obtain ⟨d0, d1⟩ := CC.out _ K2.out
          have hcm := Lib.hid o2.capm
          have O2 := Lib.hid o2
          clear c0 c1 k2
          go_wp2_with fail
          refine (TG.out _).mono ?_
          rintro e w3 ⟨rfl, k3⟩
          have K3 := Lib.hid (keeps_trans K2.out k3)
          have B3 := Lib.hid (Bs.keep (Own.at_ O2.out) k3)
          clear k3
          by_cases isp : IsPage p t kn
          · have e := HE.out
            rw [if_pos isp] at e
            obtain ⟨rfl, rfl⟩ := Prod.mk.inj e
            have OP := Lib.hid (refOpen_yes t kn TL.out HKN.out A p.length c p w3 B3.out rfl hc isp)
            clear e isp
            go_wp2_with fail
            refine OP.out.mono ?_
            rintro e w4 ⟨v4, rfl, o4, k4⟩
            obtain ⟨A4, c4, rfl, hc4, -⟩ := o4.form
            go_wp2_with fail
            go_returns
            exact ⟨A4, c4, rfl, hc4, o4.base_le K3.out.size, keeps_trans K3.out k4⟩
          · have e := HE.out
            rw [if_neg isp] at e
            obtain ⟨rfl, rfl⟩ := Prod.mk.inj e
            have OP := Lib.hid (refOpen_no t kn TL.out HKN.out A p.length c p w3 B3.out rfl hc HPL.out isp)
            clear e isp
            go_wp2_with fail
            refine OP.out.mono ?_
            rintro e w4 ⟨rfl, k4⟩
            go_wp2_with fail
            go_returns
            exact GaveU.none (keeps_trans K3.out k4)
    · have hne : ((E0 : Int) != 0) = true := by rw [bne_iff_ne]; omega
      have e := HS.out
      rw [if_neg k0, if_pos e0] at e
      obtain ⟨rfl, rfl⟩ := Prod.mk.inj e
      generalize n / 256 = q at *
      clear h hZ hf hs e hz hn
      go_enter Tryz.func77, Tryz.ntmps77
      go_wp2_with fail
      refine PG.out.mono ?_
      rintro e w1 ⟨rfl, k1⟩
      go_wp2_with fail
      go_returns
      exact GaveU.none k1
end
end Go.Proofs.YtkhfffflegiapaaGreatDoor.Ref
/- What the reference's package of chapter 8 answers: Write, Bad. -/
namespace Go.Proofs.YtkhfffflegiapaaGreatDoor.Ref
open Go.RowKit
set_option linter.unusedSimpArgs false
set_option linter.unusedVariables false
set_option maxRecDepth 100000

section
variable {K : DiskOk} {w0 w : World} {b f : Nat} {F : Nat → Prop} {s : Ds}
theorem went_keep {w' : World} {E : Nat} (h : Have K w0 w b F s) (k : Keeps w w') : WentU K w0 w b F s E (.returned (.int .i64 (E : Int))) w' := ⟨rfl, F, h.keep k, Turns.of_keeps k⟩
set_option maxHeartbeats 8000000 in
theorem pfWrite_any {nm : List UInt8} (h : Have K w0 w b F s) (hZ : K.Z w0) (hs7 : s.l.length ≤ 70000) (hf : PfAt w f b nm) (hnm : nm.length ≤ 100000) (k : Int) (hk : IsI k)
    (A : Option Addr) (m c : Nat) (l : List UInt8) (hB : Bs w A l) (hm : m = l.length) (hmx : m ≤ maxLen) {s' : Ds} {E : Nat} (hs : writeP s nm k l = (s', E)) :
    Calls Tryz.prog 78 #[.pointer (some ⟨f, 0, none⟩), .int .i64 k, .slice A m c] w (WentU K w0 w b F s' E) := by
  have hn := size_le (K.ok h.D) nm
  have hml : nm.length ≤ maxLen := by unfold maxLen; omega
  unfold maxLen at hmx
  obtain ⟨n, E0, hz⟩ : ∃ n E0, sizeS s nm = (n, E0) := ⟨_, _, rfl⟩
  rw [hz] at hn
  unfold writeP at hs
  rw [hz] at hs
  simp only at hs
  have hki := hk.2
  have hkl := hk.1
  have HS := Lib.hid hs
  have H := Lib.hid h
  by_cases k0 : k < 0
  · have e := HS.out
    rw [if_pos k0] at e
    obtain ⟨rfl, rfl⟩ := Prod.mk.inj e
    clear h hZ hf hs e hz hn hB
    go_enter Tryz.func78, Tryz.ntmps78
    go_wp2_with fail
    go_ret
    exact went_keep H.out (keeps_refl _)
  · obtain ⟨kn, rfl⟩ : ∃ kn : Nat, k = (kn : Int) := ⟨k.toNat, by omega⟩
    have TG := Lib.hid (fun V => refTag_any nm V (by omega))
    have CC := Lib.hid (fun (V : World) (kk : Keeps w V) => And.intro (Box.cell (hf.keep kk) 0 rfl) (Box.cell (hf.keep kk) 1 rfl))
    have TL := tagN_lt nm
    unfold tagN at TL
    by_cases big : 240 < m
    · have hbig : (240 : Int) < (m : Int) := by omega
      have e := HS.out
      rw [if_neg k0, if_pos (by omega)] at e
      obtain ⟨rfl, rfl⟩ := Prod.mk.inj e
      clear h hZ hf hs e hz hn hB hm big TL
      generalize extC 0 nm = t at *
      generalize str nm = sv at *
      go_enter Tryz.func78, Tryz.ntmps78
      go_wp2_with fail
      go_ret
      exact went_keep H.out (keeps_refl _)
    · have hb : l.length ≤ 240 := by omega
      have hbi : (m : Int) ≤ 240 := by omega
      have PG := Lib.hid (pfPages_any h hZ hs7 hf hml hz hn)
      by_cases e0 : E0 = 0
      · subst e0
        obtain ⟨q, hq⟩ : ∃ q, n / 256 = q := ⟨_, rfl⟩
        have hq2 : q ≤ 65536 := by omega
        have hqi : (q : Int) ≤ 65536 := by omega
        rw [hq] at PG
        by_cases far : q < kn
        · have hfar : (q : Int) < (kn : Int) := by omega
          have e := HS.out
          rw [if_neg k0, if_neg (by omega), if_neg (by simp), if_pos (by rw [hq]; simpa using far)] at e
          obtain ⟨rfl, rfl⟩ := Prod.mk.inj e
          have e1 : ((0 : Int) != 0) = false := rfl
          clear h hZ hf hs e hz hn hB hm big TL hb hq hq2 far
          generalize extC 0 nm = t at *
          generalize str nm = sv at *
          go_enter Tryz.func78, Tryz.ntmps78
          go_wp2_with fail
          refine PG.out.mono ?_
          rintro e w3 ⟨rfl, k3⟩
          go_wp2_with fail
          go_ret
          exact went_keep H.out k3
        · have hfar : (kn : Int) ≤ (q : Int) := by omega
          have hkn : kn < 4294967296 := by omega
          obtain ⟨off, hoff⟩ : ∃ off : Nat, (kn : Int) * 256 = (off : Int) := ⟨kn * 256, by omega⟩
          have hoff2 : (256 : Int) * (kn : Int) = (off : Int) := by omega
          have hofi : (off : Int) ≤ 16777216 := by omega
          have e := HS.out
          rw [if_neg k0, if_neg (by omega), if_neg (by simp), if_neg (by rw [hq]; simpa using far), hoff] at e
          simp only [Int.toNat_natCast] at e
          unfold tagN at e
          have HL := Lib.hid (pageB_length (b := l) (extC 0 nm) kn hb)
          have MK := Lib.hid (fun (V : World) (kk : Keeps w V) => refMake_any (extC 0 nm) kn TL hkn A m c l V (hB.keep kk) hm hb)
          have WR := Lib.hid (fun (V : World) (kk : Keeps w V) (A3 : Option Addr) (c3 : Nat) (o : Own V w.heap.size 5 1 (.slice A3 256 c3) 256 (cel (pageB (extC 0 nm) kn l))) =>
            (h.keep kk).went e (K.write nm (off : Int) A3 256 c3 (pageB (extC 0 nm) kn l) ((h.keep kk).z hZ) (h.keep kk).D hs7 hml (by omega) (by omega) o.at_ (fun ad ha _ hf => by
              obtain ⟨A', c', hv, hc', hm', -, hb'⟩ := o.form
              injection hv with h3 h4 h5
              subst h3
              have h6 := (hb' ad ha).2.1
              have h7 := K.lt h.D _ hf
              omega) HL.out.symm (by obtain ⟨A', c', hv, hc', -⟩ := o.form; injection hv with h3 h4 h5; subst h5; exact hc') (by decide)))
          have hwr : IntKind.i64.wrap (off : Int) = (off : Int) := IntWalk.i64_in _ (by omega)
          have hkk : (kn : Int) ≤ 65536 := by omega
          have hk32 : (kn : Int) % 4294967296 = (kn : Int) := by omega
          have e1 : ((0 : Int) != 0) = false := rfl
          unfold dpt strV at WR
          clear h hZ hf hs e hz hn hB hm big TL hb hq hq2 far HS hki hkl hk
          generalize pageB (extC 0 nm) kn l = p at *
          generalize extC 0 nm = t at *
          generalize str nm = sv at *
          go_enter Tryz.func78, Tryz.ntmps78
          go_wp2_with fail
          refine PG.out.mono ?_
          rintro e w1 ⟨rfl, k1⟩
          have K1 := Lib.hid k1
          obtain ⟨c0, c1⟩ := CC.out _ k1
          clear k1
          go_wp2_with fail
          refine (TG.out _).mono ?_
          rintro e w2 ⟨rfl, k2⟩
          have K2 := Lib.hid (keeps_trans K1.out k2)
          have M2 := Lib.hid (MK.out _ K2.out)
          clear k2 c0 c1
          go_wp2_with fail
          refine M2.out.mono ?_
          rintro e w3 ⟨v3, rfl, o3, k3⟩
          rw [HL.out] at o3
          obtain ⟨A3, c3, rfl, -⟩ := o3.form
          have O3 := Lib.hid (o3.base_le K2.out.size)
          have K3 := Lib.hid (keeps_trans K2.out k3)
          obtain ⟨d0, d1⟩ := CC.out _ K3.out
          have W3 := Lib.hid (WR.out _ (keeps_trans K3.out (keeps_drew w3)) A3 c3 (O3.out.keep (keeps_drew w3)))
          clear k3 o3
          go_wp2_with fail
          go_region_with (go_at_call 117; refine W3.out.mono ?_; rintro ee w4 ⟨rfl, F4, h4, t4⟩)
          all_goals
            go_wp2_with fail
            go_ret
            exact ⟨rfl, F4, h4, (Turns.of_keeps (keeps_trans K3.out (keeps_drew w3))).trans t4⟩
      · have hne : ((E0 : Int) != 0) = true := by rw [bne_iff_ne]; omega
        have e := HS.out
        rw [if_neg k0, if_neg (by omega), if_pos e0] at e
        obtain ⟨rfl, rfl⟩ := Prod.mk.inj e
        generalize n / 256 = q at *
        clear h hZ hf hs e hz hn hB hm big TL hb
        generalize str nm = sv at *
        go_enter Tryz.func78, Tryz.ntmps78
        go_wp2_with fail
        refine PG.out.mono ?_
        rintro e w3 ⟨rfl, k3⟩
        go_wp2_with fail
        go_ret
        exact went_keep H.out k3
set_option maxHeartbeats 8000000 in
theorem pfBad_any {nm : List UInt8} (h : Have K w0 w b F s) (hZ : K.Z w0) (hs7 : s.l.length ≤ 70000) (hnm : nm.length ≤ 100000) :
    Calls Tryz.prog 81 #[.pointer (some ⟨b, 0, none⟩), .string (str nm)] w fun e w' => ∃ v, e = .returned (.tuple #[v, .int .i64 ((badP s nm).2 : Int)]) ∧ Own w' w.heap.size 3 1 v (badP s nm).1.length (intC ((badP s nm).1.map fun (k : Nat) => (k : Int))) ∧ Keeps w w' := by
  have hn := size_le (K.ok h.D) nm
  have hml : nm.length ≤ maxLen := by unfold maxLen; omega
  obtain ⟨n, E0, hz⟩ : ∃ n E0, sizeS s nm = (n, E0) := ⟨_, _, rfl⟩
  rw [hz] at hn
  have OP := Lib.hid (pfOpen_any h hZ hs7 nm hml hz hn)
  have H := Lib.hid h
  have HB : badP s nm = if openE s nm ≠ 0 then ([], openE s nm) else (rotten s nm (n / 256), 0) := by unfold badP; rw [hz]
  by_cases e0 : openE s nm = 0
  · rw [e0] at OP HB
    rw [if_neg (by simp)] at HB
    rw [HB]
    have hE : E0 = 0 := by
      unfold openE at e0
      rw [hz] at e0
      by_cases x : E0 = 0
      · exact x
      · rw [if_pos x] at e0; exact e0
    subst hE
    obtain ⟨i0, hi, hz0, hz1, hz2⟩ := info_parts infoI8
    have PG := Lib.hid (fun (V : World) (kk : Keeps w V) (f : Nat) (hf : PfAt V f b nm) => pfPages_any (h.keep kk) hZ hs7 hf hml hz hn)
    obtain ⟨q, hq⟩ : ∃ q, n / 256 = q := ⟨_, rfl⟩
    rw [hq] at PG ⊢
    have hq6 : (q : Int) ≤ 65536 := by omega
    have RD := Lib.hid (fun (V : World) (kk : Keeps w V) (f : Nat) (hf : PfAt V f b nm) (k : Nat) (hk : k ≤ 65536) => pfRead_any (h.keep kk) hZ hs7 hf hnm (k : Int) ⟨by omega, by omega⟩ (l := (readP s nm (k : Int)).1) (E := (readP s nm (k : Int)).2) rfl)
    have RS := Lib.hid (rotten_succ s nm)
    have RL := Lib.hid (rotten_len s nm)
    have R0 := Lib.hid (show rotten s nm 0 = [] from rfl)
    clear h hZ e0 HB hz hn hq
    generalize str nm = sv at *
    go_enter Tryz.func81, Tryz.ntmps81
    go_wp2_with fail
    refine OP.out.mono ?_
    rintro e w1 ⟨k1, ⟨-, f, rfl, hf, -⟩ | ⟨hbad, -⟩⟩
    rotate_left
    · exact absurd rfl hbad
    have PG1 := Lib.hid (PG.out _ k1 f hf)
    have K1 := Lib.hid k1
    have HF1 := Lib.hid hf
    clear k1 hf
    go_wp2_with fail
    refine PG1.out.mono ?_
    rintro e w2 ⟨rfl, k2⟩
    have K2 := Lib.hid (keeps_trans K1.out k2)
    have HF2 := Lib.hid (HF1.out.keep k2)
    clear k2
    go_wp2_with fail
    go_loopw [10, 11] (fun v i wr => ∃ j : Nat, j ≤ q ∧ i = .int .i64 j ∧ Hid (Keeps w2 wr) ∧ Hid (Own wr w2.heap.size 3 1 v (rotten s nm j).length (intC ((rotten s nm j).map fun (k : Nat) => (k : Int))))) (fun _ i _ => q - (intOf i).toNat)
    case atStart => exact ⟨0, Nat.zero_le _, rfl, Lib.hid (keeps_refl _), Lib.hid (by rw [R0.out]; exact Own.nil _ _ _ _)⟩
    case round =>
      rename Value => vv
      obtain ⟨j, hj, rfl, KR, HO⟩ := hrel
      obtain ⟨A9, c9, rfl, -⟩ := HO.out.form
      by_cases hlt : j < q
      · have hjq : (j : Int) < (q : Int) := by omega
        have R1 := Lib.hid (RD.out wr (keeps_trans K2.out KR.out) f (HF2.out.keep KR.out) j (by omega))
        have RSj := Lib.hid (RS.out j)
        have hlen := RL.out j
        generalize (readP s nm (j : Int)).1 = rl at *
        generalize (readP s nm (j : Int)).2 = rE at *
        by_cases e0 : rE = 0
        · subst e0
          have e1 : ((0 : Int) != 0) = false := rfl
          have RN := Lib.hid (show rotten s nm (j + 1) = rotten s nm j by have := RSj.out; simpa using this)
          clear hlen hlt hj
          go_wp2_with fail
          refine R1.out.mono ?_
          rintro e w3 ⟨A3, c3, rfl, -, -, k3⟩
          go_wp2_with fail
          go_roundw
          case rel => exact ⟨j + 1, by omega, by go_num, Lib.hid (keeps_trans KR.out k3), by rw [RN.out]; exact Lib.hid (HO.out.keep k3)⟩
          case measure => simp [intOf]; omega
        · have hne : ((rE : Int) != 0) = true := by rw [bne_iff_ne]; omega
          have RN := Lib.hid (show rotten s nm (j + 1) = rotten s nm j ++ [j] by have := RSj.out; rw [if_pos e0] at this; exact this)
          generalize hrl : (rotten s nm j).length = rlen at *
          clear hlt hj e0
          go_wp2_with fail
          refine R1.out.mono ?_
          rintro e w3 ⟨A3, c3, rfl, -, -, k3⟩
          have k4 := keeps_alloc w3 (.cells #[.int .i64 (j : Int)] 3)
          have K34 := Lib.hid (keeps_trans k3 k4)
          have O4 := Lib.hid (HO.out.keep K34.out)
          have AT := Lib.hid (At.new w3 [.int .i64 (j : Int)] 3 (w3.heap.size + 1) (Nat.lt_succ_self _))
          have hs2 := Lib.hid (keeps_trans KR.out K34.out).size
          clear k3 k4
          go_wp2_with (at_builtin; refine wpList_app _ rfl _ _ 77 rfl w2.heap.size 3 i0 (.int .i64 0) 1 8 Tryz.underlying77 hi hz0 hz1 hz2 rfl (by decide) _ rlen _ rfl O4.out _ (some ⟨w3.heap.size, 0, none⟩) 1 1 [.int .i64 (j : Int)] rfl rfl AT.out (by intro u hu; simp at hu; rw [hu]; rfl) (by unfold maxLen; omega) (by omega) hs2.out ?_; intro v5 w5 hown5 hg5 hb5)
          have K5 := Lib.hid (show Keeps w2 w5 from Below.grown (keeps_trans KR.out K34.out) hg5 hs2.out (fun g hg => (O4.out.lt g hg).1))
          have O5 := Lib.hid hown5
          clear hown5 hg5 hb5
          go_wp2_with fail
          go_roundw
          case rel => exact ⟨j + 1, by omega, by go_num, K5, by
            rw [RN.out, List.length_append, hrl]
            have := O5
            simpa [intC] using this⟩
          case measure => simp [intOf]; omega
      · obtain rfl : q = j := by omega
        clear hlt hj
        go_wp2_with fail
        go_returns
        exact ⟨_, rfl, HO.out.base_le K2.out.size, keeps_trans K2.out KR.out⟩
  · obtain ⟨o, ho⟩ : ∃ o, openE s nm = o := ⟨_, rfl⟩
    rw [ho] at OP HB e0
    rw [if_pos e0] at HB
    rw [HB]
    have hne : ((o : Int) != 0) = true := by rw [bne_iff_ne]; omega
    have E0' := Lib.hid e0
    clear h hZ HB hz hn ho
    generalize str nm = sv at *
    go_enter Tryz.func81, Tryz.ntmps81
    go_wp2_with fail
    refine OP.out.mono ?_
    rintro e w1 ⟨k1, ⟨hbad, -⟩ | ⟨-, rfl⟩⟩
    · exact absurd hbad E0'.out
    go_wp2_with fail
    go_returns
    exact ⟨_, rfl, Own.nil _ _ _ _, k1⟩
end
end Go.Proofs.YtkhfffflegiapaaGreatDoor.Ref
/- What is done with the disk itself. (Written by mkraw.py.) -/
namespace Go.Proofs.YtkhfffflegiapaaGreatDoor.Ref
open Go.RowKit
set_option linter.unusedSimpArgs false
set_option linter.unusedVariables false
set_option maxRecDepth 100000

section
variable {K : DiskOk} {w0 w : World} {b : Nat} {F : Nat → Prop} {s : Ds}
set_option maxHeartbeats 4000000 in
theorem raw_remove (h : Have K w0 w b F s) (hZ : K.Z w0) (hs7 : s.l.length ≤ 70000) (o : OpS) (ho : OpOk w0 o) (hk : o.x.kind = 1) :
    Calls Tryz.prog 82 #[.pointer (some ⟨b, 0, none⟩), .agg (opA o)] w (WentU K w0 w b F (rawS s o.x).1 (rawS s o.x).2) := by
  have kW := keeps_alloc w (.cells (opA o) 83)
  have hw := h.keep kW
  have e : rawS s o.x = removeS s o.x.name := by unfold rawS; rw [hk]; rfl
  rw [e]
  have C := Lib.hid (hw.went (s' := (removeS s o.x.name).1) (E := (removeS s o.x.name).2) rfl (K.remove o.x.name (hw.z hZ) hw.D hs7 ho.nm))
  have KW := Lib.hid kW
  generalize (removeS s o.x.name).1 = s' at *
  generalize (removeS s o.x.name).2 = E at *
  unfold opA dpt strV at *
  rw [hk] at *
  clear h hZ ho hw kW e
  go_enter Tryz.func82, Tryz.ntmps82
  go_wp2_with fail
  refine C.out.mono ?_
  rintro e w2 ⟨rfl, F2, h2, t2⟩
  go_wp2_with fail
  go_ret
  exact ⟨rfl, F2, h2, (Turns.of_keeps KW.out).trans t2⟩
set_option maxHeartbeats 4000000 in
theorem raw_cut (h : Have K w0 w b F s) (hZ : K.Z w0) (hs7 : s.l.length ≤ 70000) (o : OpS) (ho : OpOk w0 o) (hk : o.x.kind = 4) :
    Calls Tryz.prog 82 #[.pointer (some ⟨b, 0, none⟩), .agg (opA o)] w (WentU K w0 w b F (rawS s o.x).1 (rawS s o.x).2) := by
  have kW := keeps_alloc w (.cells (opA o) 83)
  have hw := h.keep kW
  have e : rawS s o.x = cutS s o.x.name o.x.off := by unfold rawS; rw [hk]; rfl
  rw [e]
  have C := Lib.hid (hw.went (s' := (cutS s o.x.name o.x.off).1) (E := (cutS s o.x.name o.x.off).2) rfl (K.cut o.x.name o.x.off (hw.z hZ) hw.D hs7 ho.nm ho.off.1 ho.off.2))
  have KW := Lib.hid kW
  generalize (cutS s o.x.name o.x.off).1 = s' at *
  generalize (cutS s o.x.name o.x.off).2 = E at *
  unfold opA dpt strV at *
  rw [hk] at *
  clear h hZ ho hw kW e
  go_enter Tryz.func82, Tryz.ntmps82
  go_wp2_with fail
  refine C.out.mono ?_
  rintro e w2 ⟨rfl, F2, h2, t2⟩
  go_wp2_with fail
  go_ret
  exact ⟨rfl, F2, h2, (Turns.of_keeps KW.out).trans t2⟩
set_option maxHeartbeats 4000000 in
theorem raw_quota (h : Have K w0 w b F s) (hZ : K.Z w0) (hs7 : s.l.length ≤ 70000) (o : OpS) (ho : OpOk w0 o) (hk : o.x.kind = 8) :
    Calls Tryz.prog 82 #[.pointer (some ⟨b, 0, none⟩), .agg (opA o)] w (WentU K w0 w b F (rawS s o.x).1 (rawS s o.x).2) := by
  have kW := keeps_alloc w (.cells (opA o) 83)
  have hw := h.keep kW
  have e : rawS s o.x = quotaS s o.x.n := by unfold rawS; rw [hk]; rfl
  rw [e]
  have C := Lib.hid (hw.went (s' := (quotaS s o.x.n).1) (E := (quotaS s o.x.n).2) rfl (K.quota o.x.n (hw.z hZ) hw.D hs7 ho.n.1 ho.n.2))
  have KW := Lib.hid kW
  generalize (quotaS s o.x.n).1 = s' at *
  generalize (quotaS s o.x.n).2 = E at *
  unfold opA dpt strV at *
  rw [hk] at *
  clear h hZ ho hw kW e
  go_enter Tryz.func82, Tryz.ntmps82
  go_wp2_with fail
  refine C.out.mono ?_
  rintro e w2 ⟨rfl, F2, h2, t2⟩
  go_wp2_with fail
  go_ret
  exact ⟨rfl, F2, h2, (Turns.of_keeps KW.out).trans t2⟩
set_option maxHeartbeats 4000000 in
theorem raw_arm (h : Have K w0 w b F s) (hZ : K.Z w0) (hs7 : s.l.length ≤ 70000) (o : OpS) (ho : OpOk w0 o) (hk : o.x.kind = 9) :
    Calls Tryz.prog 82 #[.pointer (some ⟨b, 0, none⟩), .agg (opA o)] w (WentU K w0 w b F (rawS s o.x).1 (rawS s o.x).2) := by
  have kW := keeps_alloc w (.cells (opA o) 83)
  have hw := h.keep kW
  have e : rawS s o.x = armS s o.x.n := by unfold rawS; rw [hk]; rfl
  rw [e]
  have C := Lib.hid (hw.went (s' := (armS s o.x.n).1) (E := (armS s o.x.n).2) rfl (K.arm o.x.n (hw.z hZ) hw.D hs7 ho.n.1 ho.n.2))
  have KW := Lib.hid kW
  generalize (armS s o.x.n).1 = s' at *
  generalize (armS s o.x.n).2 = E at *
  unfold opA dpt strV at *
  rw [hk] at *
  clear h hZ ho hw kW e
  go_enter Tryz.func82, Tryz.ntmps82
  go_wp2_with fail
  refine C.out.mono ?_
  rintro e w2 ⟨rfl, F2, h2, t2⟩
  go_wp2_with fail
  go_ret
  exact ⟨rfl, F2, h2, (Turns.of_keeps KW.out).trans t2⟩
set_option maxHeartbeats 4000000 in
theorem raw_flip (h : Have K w0 w b F s) (hZ : K.Z w0) (hs7 : s.l.length ≤ 70000) (o : OpS) (ho : OpOk w0 o) (hk : o.x.kind = 11) :
    Calls Tryz.prog 82 #[.pointer (some ⟨b, 0, none⟩), .agg (opA o)] w (WentU K w0 w b F (rawS s o.x).1 (rawS s o.x).2) := by
  have kW := keeps_alloc w (.cells (opA o) 83)
  have hw := h.keep kW
  have e : rawS s o.x = flipS s o.x.name o.x.off o.x.mask := by unfold rawS; rw [hk]; rfl
  rw [e]
  have C := Lib.hid (hw.went (s' := (flipS s o.x.name o.x.off o.x.mask).1) (E := (flipS s o.x.name o.x.off o.x.mask).2) rfl (K.flip o.x.name o.x.off o.x.mask (hw.z hZ) hw.D hs7 ho.nm ho.off.1 ho.off.2))
  have KW := Lib.hid kW
  generalize (flipS s o.x.name o.x.off o.x.mask).1 = s' at *
  generalize (flipS s o.x.name o.x.off o.x.mask).2 = E at *
  unfold opA dpt strV at *
  rw [hk] at *
  clear h hZ ho hw kW e
  go_enter Tryz.func82, Tryz.ntmps82
  go_wp2_with fail
  refine C.out.mono ?_
  rintro e w2 ⟨rfl, F2, h2, t2⟩
  go_wp2_with fail
  go_ret
  exact ⟨rfl, F2, h2, (Turns.of_keeps KW.out).trans t2⟩
set_option maxHeartbeats 4000000 in
theorem raw_write (h : Have K w0 w b F s) (hZ : K.Z w0) (hs7 : s.l.length ≤ 70000) (o : OpS) (ho : OpOk w0 o) (hm : o.len ≤ 70000) (hk : o.x.kind = 3) :
    Calls Tryz.prog 82 #[.pointer (some ⟨b, 0, none⟩), .agg (opA o)] w (WentU K w0 w b F (rawS s o.x).1 (rawS s o.x).2) := by
  have kW := keeps_alloc w (.cells (opA o) 83)
  have hw := h.keep kW
  have e : rawS s o.x = writeS s o.x.name o.x.off o.x.b := by unfold rawS; rw [hk]; rfl
  rw [e]
  have C := Lib.hid (hw.went (s' := (writeS s o.x.name o.x.off o.x.b).1) (E := (writeS s o.x.name o.x.off o.x.b).2) rfl (K.write o.x.name o.x.off o.A o.len o.c o.x.b (hw.z hZ) hw.D hs7 ho.nm ho.off.1 ho.off.2 (ho.b.low (keeps_trans h.kp kW)) (fun ad ha hl hf => by have h1 := at_low ho.b (fun e => hl (by simpa [cel] using e)) ha; have h2 := h.low _ hf; omega) ho.len ho.c hm))
  have KW := Lib.hid kW
  generalize (writeS s o.x.name o.x.off o.x.b).1 = s' at *
  generalize (writeS s o.x.name o.x.off o.x.b).2 = E at *
  unfold opA dpt strV at *
  rw [hk] at *
  clear h hZ ho hw kW e
  go_enter Tryz.func82, Tryz.ntmps82
  go_wp2_with fail
  refine C.out.mono ?_
  rintro e w2 ⟨rfl, F2, h2, t2⟩
  go_wp2_with fail
  go_ret
  exact ⟨rfl, F2, h2, (Turns.of_keeps KW.out).trans t2⟩
set_option maxHeartbeats 4000000 in
theorem raw_on (h : Have K w0 w b F s) (hZ : K.Z w0) (hs7 : s.l.length ≤ 70000) (o : OpS) (ho : OpOk w0 o) (hm : o.len2 ≤ 70000) (hk : o.x.kind = 10) :
    Calls Tryz.prog 82 #[.pointer (some ⟨b, 0, none⟩), .agg (opA o)] w (WentU K w0 w b F (rawS s o.x).1 (rawS s o.x).2) := by
  have kW := keeps_alloc w (.cells (opA o) 83)
  have hw := h.keep kW
  have e : rawS s o.x = onS s o.x.keep := by unfold rawS; rw [hk]; rfl
  rw [e]
  have C := Lib.hid (hw.went (s' := (onS s o.x.keep).1) (E := (onS s o.x.keep).2) rfl (K.on o.A2 o.len2 o.c2 o.x.keep (hw.z hZ) hw.D hs7 (ho.keep.low (keeps_trans h.kp kW)) (fun ad ha hl hf => by have h1 := at_low ho.keep (fun e => hl (by simpa [intC] using e)) ha; have h2 := h.low _ hf; omega) ho.len2 ho.c2 hm))
  have KW := Lib.hid kW
  generalize (onS s o.x.keep).1 = s' at *
  generalize (onS s o.x.keep).2 = E at *
  unfold opA dpt strV at *
  rw [hk] at *
  clear h hZ ho hw kW e
  go_enter Tryz.func82, Tryz.ntmps82
  go_wp2_with fail
  refine C.out.mono ?_
  rintro e w2 ⟨rfl, F2, h2, t2⟩
  go_wp2_with fail
  go_ret
  exact ⟨rfl, F2, h2, (Turns.of_keeps KW.out).trans t2⟩
theorem raw_none (h : Have K w0 w b F s) (hZ : K.Z w0) (hs7 : s.l.length ≤ 70000) (o : OpS) (ho : OpOk w0 o) (hk : o.x.kind ≠ 1 ∧ o.x.kind ≠ 3 ∧ o.x.kind ≠ 4 ∧ o.x.kind ≠ 8 ∧ o.x.kind ≠ 9 ∧ o.x.kind ≠ 10 ∧ o.x.kind ≠ 11) :
    Calls Tryz.prog 82 #[.pointer (some ⟨b, 0, none⟩), .agg (opA o)] w (WentU K w0 w b F (rawS s o.x).1 (rawS s o.x).2) := by
  have kW := keeps_alloc w (.cells (opA o) 83)
  have hw := h.keep kW
  have e : rawS s o.x = (s, 0) := by unfold rawS; rw [if_neg hk.1, if_neg hk.2.1, if_neg hk.2.2.1, if_neg hk.2.2.2.1, if_neg hk.2.2.2.2.1, if_neg hk.2.2.2.2.2.1, if_neg hk.2.2.2.2.2.2]
  rw [e]
  have hw2 := Lib.hid hw
  have KW := Lib.hid kW
  obtain ⟨k1, k3, k4, k8, k9, k10, k11⟩ := hk
  have b1 : (o.x.kind == 1) = false := by rw [beq_eq_false_iff_ne]; exact k1
  have b3 : (o.x.kind == 3) = false := by rw [beq_eq_false_iff_ne]; exact k3
  have b4 : (o.x.kind == 4) = false := by rw [beq_eq_false_iff_ne]; exact k4
  have b8 : (o.x.kind == 8) = false := by rw [beq_eq_false_iff_ne]; exact k8
  have b9 : (o.x.kind == 9) = false := by rw [beq_eq_false_iff_ne]; exact k9
  have b10 : (o.x.kind == 10) = false := by rw [beq_eq_false_iff_ne]; exact k10
  have b11 : (o.x.kind == 11) = false := by rw [beq_eq_false_iff_ne]; exact k11
  unfold opA strV at *
  clear h hZ ho hw kW e
  go_enter Tryz.func82, Tryz.ntmps82
  go_wp2_with fail
  go_ret
  exact ⟨rfl, F, hw2.out, Turns.of_keeps KW.out⟩
theorem raw_any (h : Have K w0 w b F s) (hZ : K.Z w0) (hs7 : s.l.length ≤ 70000) (o : OpS) (ho : OpOk w0 o) (hm : o.len ≤ 70000) (hm2 : o.len2 ≤ 70000) :
    Calls Tryz.prog 82 #[.pointer (some ⟨b, 0, none⟩), .agg (opA o)] w (WentU K w0 w b F (rawS s o.x).1 (rawS s o.x).2) := by
  by_cases h1 : o.x.kind = 1
  · exact raw_remove h hZ hs7 o ho h1
  by_cases h3 : o.x.kind = 3
  · exact raw_write h hZ hs7 o ho hm h3
  by_cases h4 : o.x.kind = 4
  · exact raw_cut h hZ hs7 o ho h4
  by_cases h8 : o.x.kind = 8
  · exact raw_quota h hZ hs7 o ho h8
  by_cases h9 : o.x.kind = 9
  · exact raw_arm h hZ hs7 o ho h9
  by_cases h10 : o.x.kind = 10
  · exact raw_on h hZ hs7 o ho hm2 h10
  by_cases h11 : o.x.kind = 11
  · exact raw_flip h hZ hs7 o ho h11
  · exact raw_none h hZ hs7 o ho ⟨h1, h3, h4, h8, h9, h10, h11⟩
end
end Go.Proofs.YtkhfffflegiapaaGreatDoor.Ref
