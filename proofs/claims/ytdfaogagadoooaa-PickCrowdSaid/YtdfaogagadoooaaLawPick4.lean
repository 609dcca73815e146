/- Layer 16's statements: PickTwice. -/
import Derived.Test.YtdfaogagadoooaaLawPick3
namespace Go.Proofs.Ytdfaogagadoooaa
open Go.RowKit
set_option linter.unusedSimpArgs false
set_option linter.unusedVariables false
set_option maxRecDepth 100000

theorem onceC_more {L M : List Cn} (h : ∀ x ∈ M, x.v ∈ L.map Cn.v) : onceC (L ++ M) = onceC L := by
  revert h
  refine snocInd (P := fun M => (∀ x ∈ M, x.v ∈ L.map Cn.v) → onceC (L ++ M) = onceC L) (fun _ => by simp) (fun M y ih h => ?_) M
  rw [← List.append_assoc, onceC_snoc, ih (fun x hx => h x (List.mem_append_left _ hx)), if_pos]
  rw [onceC_vs]
  exact h y (by simp)
theorem IsPick.of_once {L L' : List Cn} {out : List Nat} (h : IsPick L out) (e : onceC L' = onceC L) : IsPick L' out := ⟨h.rise, fun v => by rw [e]; exact h.mem v⟩
/-- a candidate whose neighbours lie where they lay, or in a row of the call's own -/
def CdAny (w W : World) (x : Cd) : Prop := CdOk w x ∨ CdOwn W w.heap.size x
theorem CdAny.cd {w W : World} {x : Cd} (h : CdAny w W x) (k : Keeps w W) : CdOk W x := by
  rcases h with h | h
  · exact h.keep k
  · exact h.cd
theorem CdAny.keep {w W W' : World} {x : Cd} (h : CdAny w W x) (k : Keeps W W') : CdAny w W' x := by
  rcases h with h | h
  · exact .inl h
  · exact .inr (h.keep k)
theorem CdAny.grown {w W W' : World} {B' n : Nat} {x : Cd} {v : Value} {xs : List Value} (h : CdAny w W x) (o : Own W B' 33 3 v n xs) (g : W.grownBy W' v.ownBlock) : CdAny w W' x := by
  rcases h with h | h
  · exact .inl h
  · exact .inr (h.grown o g)
theorem CdOwn.base_le {W : World} {B B' : Nat} {x : Cd} (h : CdOwn W B x) (hb : B' ≤ B) : CdOwn W B' x := ⟨h.v, h.key, h.ok, h.own.base_le hb⟩

set_option maxHeartbeats 16000000 in
theorem twice16_walk (K : PickOk) (A : Option Addr) (n c : Nat) (l : List Cd) (Ak : Option Addr) (nk ck : Nat) (ks : List Nat) (w : World) (hl : CdsAt w A l) (hn : n = l.length) (hc : n ≤ c) (hm : c ≤ maxLen) (hk : At w w.heap.size Ak (u64s ks)) (hnk : nk = ks.length) (hok : ∀ x ∈ ks, x < 18446744073709551616) :
    Calls Try.prog 8 #[.slice A n c, .slice Ak nk ck] w (Yes w) := by
  obtain ⟨i0, hi, hz0, hz1, hz2⟩ := info_partsU info_cand
  have LG := Lib.hid (large16_any A n c l w hl hn)
  have WW := Lib.hid (works16 K)
  have HL := Lib.hid hl
  have HN := Lib.hid hn
  have HKS := Lib.hid hk
  have HNK := Lib.hid hnk
  have HOK := Lib.hid hok
  have PK := Lib.hid K
  have PPl := Lib.hid (fun (W : World) (k : Keeps w W) (h1 : n ≤ 100) (h2 : ∀ x ∈ l, x.near.length ≤ 2000) => K.pick A n c l W (hl.keep k) hn (by omega) hc hm (fun x hx => by have := h2 x hx; omega))
  clear hl hn hm hc K hk hnk hok
  by_cases h50 : 50 < n
  · have t1 : decide ((50 : Int) < (n : Int)) = true := decide_eq_true (by omega)
    clear h50
    go_enter Try.func8, Try.ntmps8
    go_wp2_with fail
    refine (WW.out _).mono ?_
    rintro e w9 ⟨rfl, k9⟩
    go_wp2_with fail
    go_ret
    exact ⟨rfl, k9⟩
  · have t1 : decide ((50 : Int) < (n : Int)) = false := decide_eq_false (by omega)
    have HN5 := Lib.hid (show n ≤ 50 by omega)
    clear h50
    go_enter Try.func8, Try.ntmps8
    go_wp2_with fail
    refine LG.out.mono ?_
    rintro e w1 ⟨b, rfl, k1, hf⟩
    cases b with
    | true =>
      clear hf
      go_wp2_with fail
      refine (WW.out _).mono ?_
      rintro e w9 ⟨rfl, k9⟩
      go_wp2_with fail
      go_ret
      exact ⟨rfl, keeps_trans k1 k9⟩
    | false =>
      obtain ⟨-, f2⟩ := hf rfl
      have F2 := Lib.hid f2
      have CP := Lib.hid (copied16_any A n c l w1 (HL.out.keep k1) HN.out (by have := HN5.out; omega) (fun x hx => by have := f2 x hx; omega))
      have PA := Lib.hid (fun W k => PPl.out W k (by have := HN5.out; omega) f2)
      have K1 := Lib.hid k1
      clear hf LG PPl k1 f2
      go_wp2_with fail
      refine CP.out.mono ?_
      rintro e w2 ⟨v2, l2, rfl, m2, o2, a2, k2⟩
      have O2 := Lib.hid (o2.base_le K1.out.size)
      have A2 := Lib.hid (show ∀ x ∈ l2, CdAny w w2 x from fun x hx => .inr ((a2 x hx).base_le K1.out.size))
      have K2 := Lib.hid (keeps_trans K1.out k2)
      have M2 := Lib.hid m2
      obtain ⟨Az, cz, rfl, -, -, -, -⟩ := o2.form
      clear m2 o2 a2 k2 CP
      go_wp2_with fail
      go_loopw [5, 6] (fun u q wr => ∃ (k : Nat) (l' : List Cd) (M : List Cn), k ≤ n ∧ q = .int .i64 k ∧ l'.map Cd.n = l.map Cd.n ++ M ∧ M.length = k ∧ (∀ x ∈ M, x.v ∈ (l.map Cd.n).map Cn.v ∧ x.near.length ≤ 2000) ∧ Own wr w.heap.size 33 3 u l'.length (cdsC l') ∧ (∀ x ∈ l', CdAny w wr x) ∧ Keeps w wr) (fun _ q _ => n - (intOf q).toNat)
      case atStart => exact ⟨0, l2, [], Nat.zero_le _, rfl, by rw [M2.out, List.append_nil], rfl, by simp, O2.out, A2.out, K2.out⟩
      case round =>
        obtain ⟨k, l', M, hk, rfl, hmap, hML, hM, hO, hall, hkp⟩ := hrel
        have HO := Lib.hid hO
        have HKP := Lib.hid hkp
        have HP := Lib.hid hmap
        have HA := Lib.hid hall
        have HMM := Lib.hid hM
        have HML := Lib.hid hML
        have LL := Lib.hid (show l'.length = n + k by
          have h1 := congrArg List.length hmap
          rw [List.length_map, List.length_append, List.length_map, hML, ← HN.out] at h1
          exact h1)
        obtain ⟨Ao, co, rfl, hco, hcm, -, -⟩ := hO.form
        clear hO hkp hmap hall hM hML
        by_cases hlt : k < n
        · obtain ⟨x, hx⟩ : ∃ x, l[k]? = some x := ⟨_, List.getElem?_eq_getElem (by have := HN.out; omega)⟩
          have XO := Lib.hid (HL.out.ok x (List.mem_of_getElem? hx))
          have XN := Lib.hid (F2.out x (List.mem_of_getElem? hx))
          have XV := Lib.hid (show x.v ∈ (l.map Cd.n).map Cn.v from List.mem_map_of_mem (List.mem_map_of_mem (List.mem_of_getElem? hx) : x.n ∈ l.map Cd.n))
          obtain ⟨ad, hA, -, hXd⟩ := cds_at HL.out.cells hx
          subst hA
          have XD := Lib.hid hXd
          obtain ⟨b0, b1, b2⟩ := hXd.keep HKP.out
          have hkn : (k : Int) < (n : Int) := by omega
          have hk0 : (0 : Int) ≤ (k : Int) := by omega
          have hn5 : (n : Int) ≤ 50 := by have := HN5.out; omega
          have HI := Lib.hid hlt
          obtain ⟨xv, xk, XA, xc, xn⟩ := x
          simp only at b0 b1 b2
          have SD := Lib.hid (show ∀ W : World, Keeps w W → W.cell? (ad.add (k * 3)) = some (.int .u32 (xv : Int)) ∧ W.cell? ⟨(ad.add (k * 3)).block, (ad.add (k * 3)).off + 1, none⟩ = some (.int .u64 (xk : Int)) ∧ W.cell? ⟨(ad.add (k * 3)).block, (ad.add (k * 3)).off + 2, none⟩ = some (.slice XA xn.length xc) from fun W kW => XD.out.keep kW)
          obtain ⟨m, hml⟩ : ∃ m, l'.length = m := ⟨_, rfl⟩
          rw [hml] at HO LL hco ⊢
          have HMl := Lib.hid hml
          clear hx hlt hk hml hXd
          go_wp2_with fail
          go_region_held3 (fun W => W.cell? (ad.add (k * 3)) = some (.int .u32 (xv : Int)) ∧ W.cell? ⟨(ad.add (k * 3)).block, (ad.add (k * 3)).off + 1, none⟩ = some (.int .u64 (xk : Int)) ∧ W.cell? ⟨(ad.add (k * 3)).block, (ad.add (k * 3)).off + 2, none⟩ = some (.slice XA xn.length xc)) (first | exact ⟨b0, b1, b2⟩ | exact SD.out _ (by first | exact keeps_trans HKP.out (keeps_drew _) | exact keeps_trans HKP.out (keeps_alloc _ _) | exact keeps_trans HKP.out (keeps_trans (keeps_alloc _ _) (keeps_drew _)) | exact keeps_trans HKP.out (keeps_trans (keeps_drew _) (keeps_alloc _ _)))) (first | fail)
          have BX := (Box.new wr 33 #[.int .u32 (xv : Int), .int .u64 (xk : Int), .slice XA xn.length xc]).keep (keeps_drew _)
          have K3 := Lib.hid (keeps_trans HKP.out (keeps_trans (keeps_alloc wr (.cells #[.int .u32 (xv : Int), .int .u64 (xk : Int), .slice XA xn.length xc] 33)) (keeps_drew _)))
          have kr := keeps_trans (keeps_alloc wr (.cells #[.int .u32 (xv : Int), .int .u64 (xk : Int), .slice XA xn.length xc] 33)) (keeps_drew _)
          have KR := Lib.hid kr
          have lw := HKP.out.size
          have NE := Lib.hid (show ∀ k', Value.ownBlock (.slice Ao m co) = some k' → wr.heap.size ≠ k' from fun k' hk' => by have := (HO.out.lt k' hk').2; omega)
          clear b0 b1 b2 kr
          generalize (wr.alloc (.cells #[.int .u32 (xv : Int), .int .u64 (xk : Int), .slice XA xn.length xc] 33)).drew = W3 at *
          by_cases hkk : k < nk
          · obtain ⟨ae, hAe, e1⟩ := u64s_at HKS.out (k := k) (by have := HNK.out; omega)
            subst hAe
            replace e1 := K3.out.cellOf e1
            obtain ⟨key, hkey⟩ : ∃ key, ks.getD k 0 = key := ⟨_, rfl⟩
            rw [hkey] at e1
            have KB := Lib.hid (show key < 18446744073709551616 by
              rw [← hkey]
              refine HOK.out _ ?_
              have : k < ks.length := by have := HNK.out; omega
              simp [List.getD, this])
            have hkn2 : (k : Int) < (nk : Int) := by omega
            have x1 : W3.cell? ⟨wr.heap.size, 1, none⟩ = some (.int .u64 (xk : Int)) := BX.cell 1 rfl
            have x2 : W3.cell? ⟨wr.heap.size, 2, none⟩ = some (.slice XA xn.length xc) := BX.cell 2 rfl
            have f1 := BX.frozen 1
            have BY : Box (W3.setCell ⟨wr.heap.size, 1, none⟩ (.int .u64 (key : Int))) wr.heap.size 33 #[.int .u32 (xv : Int), .int .u64 (key : Int), .slice XA xn.length xc] := BX.set 1 _
            have f2 := BY.frozen 2
            have BZ : Box ((W3.setCell ⟨wr.heap.size, 1, none⟩ (.int .u64 (key : Int))).setCell ⟨wr.heap.size, 2, none⟩ (.slice none 0 0)) wr.heap.size 33 #[.int .u32 (xv : Int), .int .u64 (key : Int), .slice none 0 0] := BY.set 2 _
            have z0 : ((W3.setCell ⟨wr.heap.size, 1, none⟩ (.int .u64 (key : Int))).setCell ⟨wr.heap.size, 2, none⟩ (.slice none 0 0)).cell? ⟨wr.heap.size, 0, none⟩ = some (.int .u32 (xv : Int)) := BZ.cell 0 rfl
            have z1 : ((W3.setCell ⟨wr.heap.size, 1, none⟩ (.int .u64 (key : Int))).setCell ⟨wr.heap.size, 2, none⟩ (.slice none 0 0)).cell? ⟨wr.heap.size, 1, none⟩ = some (.int .u64 (key : Int)) := BZ.cell 1 rfl
            have z2 : ((W3.setCell ⟨wr.heap.size, 1, none⟩ (.int .u64 (key : Int))).setCell ⟨wr.heap.size, 2, none⟩ (.slice none 0 0)).cell? ⟨wr.heap.size, 2, none⟩ = some (.slice none 0 0) := BZ.cell 2 rfl
            have y0 : W3.cell? ⟨wr.heap.size, 0, none⟩ = some (.int .u32 (xv : Int)) := BX.cell 0 rfl
            have K5 := Lib.hid (show Keeps w ((W3.setCell ⟨wr.heap.size, 1, none⟩ (.int .u64 (key : Int))).setCell ⟨wr.heap.size, 2, none⟩ (.slice none 0 0)) from (K3.out.setCell (p := ⟨wr.heap.size, 1, none⟩) lw _).setCell (p := ⟨wr.heap.size, 2, none⟩) lw _)
            have kr5 : Keeps wr ((W3.setCell ⟨wr.heap.size, 1, none⟩ (.int .u64 (key : Int))).setCell ⟨wr.heap.size, 2, none⟩ (.slice none 0 0)) := (KR.out.setCell (p := ⟨wr.heap.size, 1, none⟩) (Nat.le_refl _) _).setCell (p := ⟨wr.heap.size, 2, none⟩) (Nat.le_refl _) _
            have HO3 := Lib.hid (HO.out.keep kr5)
            have HA3 := Lib.hid (fun y hy => (HA.out y hy).keep kr5)
            obtain ⟨W5, hW5⟩ : ∃ W5, (W3.setCell ⟨wr.heap.size, 1, none⟩ (.int .u64 (key : Int))).setCell ⟨wr.heap.size, 2, none⟩ (.slice none 0 0) = W5 := ⟨_, rfl⟩
            rw [hW5] at z0 z1 z2 K5 HO3 HA3
            have HW5 := Lib.hid hW5
            have SZ := Lib.hid (show W5.heap.size = W3.heap.size by rw [← hW5]; simp)
            have MM2 := Lib.hid (show ∀ y ∈ M ++ [(⟨xv, key, none, 0, []⟩ : Cd).n], y.v ∈ (l.map Cd.n).map Cn.v ∧ y.near.length ≤ 2000 from fun y hy => by
              rcases List.mem_append.1 hy with hy | hy
              · exact HMM.out y hy
              · rw [List.mem_singleton] at hy
                subst hy
                exact ⟨XV.out, Nat.zero_le _⟩)
            clear hkk BX BY BZ lw kr5 hkey hW5
            have AT := Lib.hid (show At (W5.alloc (.cells #[.int .u32 (xv : Int), .int .u64 (key : Int), .slice none 0 0] 33)) (W5.alloc (.cells #[.int .u32 (xv : Int), .int .u64 (key : Int), .slice none 0 0] 33)).heap.size (some ⟨W3.heap.size, 0, none⟩) (cdC ⟨xv, key, none, 0, []⟩) by have h := At.new W5 (cdC ⟨xv, key, none, 0, []⟩) 33 ((W5.alloc (.cells #[.int .u32 (xv : Int), .int .u64 (key : Int), .slice none 0 0] 33)).heap.size) (by simp); rw [SZ.out] at h; exact h)
            go_wp2_with (at_builtin; rw [HW5.out]; refine wpList_app _ rfl _ _ 22 rfl w.heap.size 33 i0 (.agg #[.int .u32 0, .int .u64 0, .slice none 0 0]) 3 40 Try.underlying22 hi hz0 hz1 hz2 rfl (by decide) _ m (cdsC l') rfl (HO3.out.keep (keeps_alloc _ _)) _ _ 1 1 (cdC ⟨xv, key, none, 0, []⟩) rfl rfl AT.out (cdC_ones _) (by have := LL.out; have := HI.out; have := HN5.out; unfold maxLen; omega) (by have := LL.out; have := HI.out; have := HN5.out; omega) (keeps_trans K5.out (keeps_alloc _ _)).size ?_)
            intro v8 w8 o8 g8 b8
            have kB := keeps_alloc W5 (.cells #[.int .u32 (xv : Int), .int .u64 (key : Int), .slice none 0 0] 33)
            have k8 : Keeps w w8 := Below.grown (keeps_trans K5.out kB) g8 (keeps_trans K5.out kB).size (fun g hg => (HO3.out.lt g hg).1)
            have O8 := Lib.hid (show Own w8 w.heap.size 33 3 v8 (l' ++ [(⟨xv, key, none, 0, []⟩ : Cd)]).length (cdsC (l' ++ [(⟨xv, key, none, 0, []⟩ : Cd)])) by
              rw [cdsC_put, List.length_append, HMl.out]
              exact o8)
            have A8 := Lib.hid (show ∀ y ∈ l' ++ [(⟨xv, key, none, 0, []⟩ : Cd)], CdAny w w8 y from fun y hy => by
              rcases List.mem_append.1 hy with hy | hy
              · exact ((HA3.out y hy).keep kB).grown (HO3.out.keep kB) g8
              · rw [List.mem_singleton] at hy
                subst hy
                exact  .inr ⟨XO.out.v, KB.out, by simp, Own.nil _ _ _ _⟩)
            have MP := Lib.hid (show (l' ++ [(⟨xv, key, none, 0, []⟩ : Cd)]).map Cd.n = l.map Cd.n ++ (M ++ [(⟨xv, key, none, 0, []⟩ : Cd).n]) by
              rw [List.map_append, HP.out, List.append_assoc]
              rfl)
            have K8 := Lib.hid k8
            clear o8 g8 b8 kB k8
            go_wp2_with fail
            go_roundw
            case rel => exact ⟨k + 1, l' ++ [(⟨xv, key, none, 0, []⟩ : Cd)], M ++ [(⟨xv, key, none, 0, []⟩ : Cd).n], by have := HI.out; omega, by go_num, MP.out, by rw [List.length_append, HML.out]; rfl, MM2.out, O8.out, A8.out, K8.out⟩
            case measure => have := HI.out; simp [intOf]; omega
          · have hkn2 : ¬ ((k : Int) < (nk : Int)) := by omega
            have HO3 := Lib.hid (HO.out.keep KR.out)
            have HA3 := Lib.hid (fun y hy => (HA.out y hy).keep KR.out)
            have y0 : W3.cell? ⟨wr.heap.size, 0, none⟩ = some (.int .u32 (xv : Int)) := BX.cell 0 rfl
            have y1 : W3.cell? ⟨wr.heap.size, 1, none⟩ = some (.int .u64 (xk : Int)) := BX.cell 1 rfl
            have y2 : W3.cell? ⟨wr.heap.size, 2, none⟩ = some (.slice XA xn.length xc) := BX.cell 2 rfl
            have MM2 := Lib.hid (show ∀ y ∈ M ++ [(⟨xv, xk, XA, xc, xn⟩ : Cd).n], y.v ∈ (l.map Cd.n).map Cn.v ∧ y.near.length ≤ 2000 from fun y hy => by
              rcases List.mem_append.1 hy with hy | hy
              · exact HMM.out y hy
              · rw [List.mem_singleton] at hy
                subst hy
                exact ⟨XV.out, XN.out⟩)
            clear hkk BX lw
            have AT := Lib.hid (show At (W3.alloc (.cells #[.int .u32 (xv : Int), .int .u64 (xk : Int), .slice XA xn.length xc] 33)) (W3.alloc (.cells #[.int .u32 (xv : Int), .int .u64 (xk : Int), .slice XA xn.length xc] 33)).heap.size (some ⟨W3.heap.size, 0, none⟩) (cdC ⟨xv, xk, XA, xc, xn⟩) from At.new W3 (cdC ⟨xv, xk, XA, xc, xn⟩) 33 _ (by simp))
            go_wp2_with (at_builtin; refine wpList_app _ rfl _ _ 22 rfl w.heap.size 33 i0 (.agg #[.int .u32 0, .int .u64 0, .slice none 0 0]) 3 40 Try.underlying22 hi hz0 hz1 hz2 rfl (by decide) _ m (cdsC l') rfl (HO3.out.keep (keeps_alloc _ _)) _ _ 1 1 (cdC ⟨xv, xk, XA, xc, xn⟩) rfl rfl AT.out (cdC_ones _) (by have := LL.out; have := HI.out; have := HN5.out; unfold maxLen; omega) (by have := LL.out; have := HI.out; have := HN5.out; omega) (keeps_trans K3.out (keeps_alloc _ _)).size ?_)
            intro v8 w8 o8 g8 b8
            have kB := keeps_alloc W3 (.cells #[.int .u32 (xv : Int), .int .u64 (xk : Int), .slice XA xn.length xc] 33)
            have k8 : Keeps w w8 := Below.grown (keeps_trans K3.out kB) g8 (keeps_trans K3.out kB).size (fun g hg => (HO3.out.lt g hg).1)
            have O8 := Lib.hid (show Own w8 w.heap.size 33 3 v8 (l' ++ [(⟨xv, xk, XA, xc, xn⟩ : Cd)]).length (cdsC (l' ++ [(⟨xv, xk, XA, xc, xn⟩ : Cd)])) by
              rw [cdsC_put, List.length_append, HMl.out]
              exact o8)
            have A8 := Lib.hid (show ∀ y ∈ l' ++ [(⟨xv, xk, XA, xc, xn⟩ : Cd)], CdAny w w8 y from fun y hy => by
              rcases List.mem_append.1 hy with hy | hy
              · exact ((HA3.out y hy).keep kB).grown (HO3.out.keep kB) g8
              · rw [List.mem_singleton] at hy
                subst hy
                exact  .inl XO.out)
            have MP := Lib.hid (show (l' ++ [(⟨xv, xk, XA, xc, xn⟩ : Cd)]).map Cd.n = l.map Cd.n ++ (M ++ [(⟨xv, xk, XA, xc, xn⟩ : Cd).n]) by
              rw [List.map_append, HP.out, List.append_assoc]
              rfl)
            have K8 := Lib.hid k8
            clear o8 g8 b8 kB k8
            go_wp2_with fail
            go_roundw
            case rel => exact ⟨k + 1, l' ++ [(⟨xv, xk, XA, xc, xn⟩ : Cd)], M ++ [(⟨xv, xk, XA, xc, xn⟩ : Cd).n], by have := HI.out; omega, by go_num, MP.out, by rw [List.length_append, HML.out]; rfl, MM2.out, O8.out, A8.out, K8.out⟩
            case measure => have := HI.out; simp [intOf]; omega
        · obtain rfl : k = n := by omega
          have F3 := Lib.hid (show ∀ x ∈ l', x.near.length ≤ 100000 from fun x hx => by
            have h1 : x.n ∈ l.map Cd.n ++ M := by rw [← HP.out]; exact List.mem_map_of_mem hx
            rcases List.mem_append.1 h1 with h1 | h1
            · obtain ⟨y, hy, e⟩ := List.mem_map.1 h1
              have e2 : y.near = x.near := congrArg Cn.near e
              rw [← e2]
              have := F2.out y hy
              omega
            · have := (HMM.out _ h1).2
              have e2 : x.n.near = x.near := rfl
              rw [e2] at this
              omega)
          have PP := Lib.hid (fun (W : World) (kW : Keeps wr W) => PK.out.pick Ao l'.length co l' W ((CdsAt.mk HO.out.at_ (fun x hx => (HA.out x hx).cd HKP.out)).keep kW) rfl (by have := LL.out; have := HN5.out; omega) hco hcm F3.out)
          have PQ := Lib.hid (PA.out wr HKP.out)
          have OE := Lib.hid (show onceC (l'.map Cd.n) = onceC (l.map Cd.n) by rw [HP.out]; exact onceC_more (fun x hx => (HMM.out x hx).1))
          rw [LL.out] at PP hco HO ⊢
          clear hlt hk
          go_wp2_with fail
          refine PQ.out.mono ?_
          rintro e w3 ⟨v3, out, rfl, hp, o3, k3⟩
          obtain ⟨A3, c3, rfl, -, -, -, -⟩ := o3.form
          have PP3 := Lib.hid (PP.out w3 k3)
          have O3 := Lib.hid o3
          have K3 := Lib.hid k3
          have HP3 := Lib.hid hp
          clear o3 k3 hp PP PQ
          go_wp2_with fail
          refine PP3.out.mono ?_
          rintro e w4 ⟨v4, out4, rfl, hp4, o4, k4⟩
          obtain rfl : out4 = out := hp4.unique (HP3.out.of_once OE.out)
          obtain ⟨A4, c4, rfl, -, -, -, -⟩ := o4.form
          have EQ := Lib.hid (by
            have hl4 := HP3.out.len
            rw [List.length_map] at hl4
            have h := eq16_any A3 A4 out4.length c3 out4.length c4 out4 out4 w4 (O3.out.keep k4).at_ o4.at_ rfl rfl (by have := HN.out; have := HN5.out; omega) (by have := HN.out; have := HN5.out; omega)
            rw [decide_eq_true (rfl : out4 = out4)] at h
            exact h)
          have K4 := Lib.hid (keeps_trans K3.out k4)
          clear o4 k4 hp4
          go_wp2_with fail
          refine EQ.out.mono ?_
          rintro e w5 ⟨rfl, k5⟩
          go_wp2_with fail
          refine (WW.out _).mono ?_
          rintro e w11 ⟨rfl, k11⟩
          go_wp2_with fail
          go_ret
          exact ⟨rfl, keeps_trans HKP.out (keeps_trans K4.out (keeps_trans k5 k11))⟩
end Go.Proofs.Ytdfaogagadoooaa
