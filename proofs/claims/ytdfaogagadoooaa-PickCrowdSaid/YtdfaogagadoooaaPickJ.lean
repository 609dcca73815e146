/- Package pick: foremost. -/
import Derived.Test.YtdfaogagadoooaaPickI
import Derived.Maps.RangeWalk
namespace Go.Proofs.Ytdfaogagadoooaa
open Go.RowKit
set_option linter.unusedSimpArgs false
set_option linter.unusedVariables false
set_option maxRecDepth 100000

/-- what holds while the candidates are gone through -/
structure FoI (w W : World) (ma mf bf r : Nat) (O D : List Cd) (lf : List (Nat × Ce)) (F P : List (Nat × Cd)) : Prop where
  it : IterV u32V ceV W ma r (O.map prD) lf
  box : Box W bf 40 #[.map (some mf)]
  map : MapW u32V ceV W mf (F.map pe)
  fo : FoR F P
  met : MetR O D P
  keep : Keeps w W
section
variable {w W V : World} {ma mf bf r : Nat} {O D : List Cd} {lf lf' : List (Nat × Ce)} {F F' P P' : List (Nat × Cd)}
theorem FoI.ext (h : FoI w W ma mf bf r O D lf F P) (k : Keeps W V) : FoI w V ma mf bf r O D lf F P := ⟨h.it.keep k, h.box.keep k, h.map.keep k, h.fo, h.met, keeps_trans h.keep k⟩
theorem Keeps.far {w W V : World} {b : Nat} (k : Keeps w W) (o : Only W V (fun c => c = b)) (hb : w.heap.size ≤ b) : Keeps w V :=
  Turns.keeps (S := fun c => c = b) (S' := fun c => c = b) k ⟨o, fun _ h => .inl h⟩ (fun c hc => by omega)
/-- the iterator goes on -/
theorem FoI.next (h : FoI w W ma mf bf r O D lf F P) (hi : IterV u32V ceV V ma r (O.map prD) lf') (o : Only W V (fun c => c = r)) (h1 : w.heap.size ≤ r) (h2 : mf ≠ r) (h3 : bf ≠ r) : FoI w V ma mf bf r O D lf' F P :=
  ⟨hi, (o.block bf h.box.lt h3).trans h.box, h.map.same (o.block mf h.map.lt h2), h.fo, h.met, h.keep.far o h1⟩
/-- the map of neighbours turns -/
theorem FoI.turn (h : FoI w W ma mf bf r O D lf F P) (m : MapW u32V ceV V mf (F'.map pe)) (o : Only W V (fun c => c = mf)) (f : FoR F' P') (t : MetR O D P') (h0 : ma ≠ mf) (h1 : w.heap.size ≤ mf) (h2 : mf ≠ r) (h3 : bf ≠ mf) : FoI w V ma mf bf r O D lf F' P' :=
  ⟨h.it.same (o.block ma h.it.lt.1 h0) (o.block r h.it.lt.2 (Ne.symm h2)), (o.block bf h.box.lt h3).trans h.box, m, f, t, h.keep.far o h1⟩
end
theorem cdIn_same {W V : World} {g : Nat} {x : Cd} (h : CdIn W ⟨g, 0, none⟩ x) (e : V.heap[g]? = W.heap[g]?) : CdIn V ⟨g, 0, none⟩ x := by
  have k : ∀ o, V.cell? ⟨g, o, none⟩ = W.cell? ⟨g, o, none⟩ := fun o => by simp [World.cell?, e]
  exact ⟨(k _).trans h.1, (k _).trans h.2.1, (k _).trans h.2.2⟩
theorem prD_mem {O : List Cd} {D : List Cd} {e : Nat × Ce} {lf lf' : List (Nat × Ce)} (hp : (O.map prD).Perm (D.map prD ++ lf)) (hl : lf.Perm (e :: lf')) : ∃ x ∈ O, e = (x.v, x.ce) ∧ (O.map prD).Perm ((D ++ [x]).map prD ++ lf') := by
  have h1 : e ∈ O.map prD := hp.mem_iff.2 (List.mem_append_right _ (hl.mem_iff.2 List.mem_cons_self))
  obtain ⟨x, hx, rfl⟩ := List.mem_map.1 h1
  refine ⟨x, hx, rfl, hp.trans ?_⟩
  rw [List.map_append, List.append_assoc]
  exact List.Perm.append_left _ hl
theorem prD_all {O D : List Cd} (hp : (O.map prD).Perm (D.map prD ++ [])) (hD : ∀ x ∈ D, x ∈ O) (hu : ∀ a ∈ O, ∀ b ∈ O, a.v = b.v → a = b) : ∀ x ∈ O, x ∈ D := by
  intro x hx
  have h1 : prD x ∈ D.map prD ++ [] := hp.mem_iff.1 (List.mem_map_of_mem hx)
  rw [List.append_nil] at h1
  obtain ⟨y, hy, he⟩ := List.mem_map.1 h1
  obtain rfl := hu x hx y (hD y hy) (congrArg Prod.fst he).symm
  exact hy
def ForeV (w : World) (O : List Cd) (e : Ending) (w' : World) : Prop := ∃ mf F P, e = .returned (.map (some mf)) ∧ w.heap.size ≤ mf ∧ MapW u32V ceV w' mf (F.map pe) ∧ FoR F P ∧ MetR O O P ∧ Keeps w w'
set_option maxHeartbeats 16000000 in
theorem foremost_any {w : World} {ma : Nat} {O : List Cd} (ha : MapW u32V ceV w ma (O.map prD)) (hO : ∀ x ∈ O, CdOk w x) (hu : ∀ a ∈ O, ∀ b ∈ O, a.v = b.v → a = b) (hlen : O.length ≤ 1000) (hnear : ∀ x ∈ O, x.near.length ≤ 100000) :
    Calls Try.prog 19 #[.map (some ma)] w (ForeV w O) := by
  have hmm := @run_makeMap Try.prog
  have hal := ha.lt
  obtain ⟨mf, hmf⟩ : ∃ z, z = w.heap.size := ⟨_, rfl⟩
  obtain ⟨bf, hbf⟩ : ∃ z, z = w.heap.size + 1 := ⟨_, rfl⟩
  obtain ⟨r, hr⟩ : ∃ z, z = w.heap.size + 1 + 1 := ⟨_, rfl⟩
  have NUM := Lib.hid (And.intro hmf (And.intro hbf (And.intro hal hr)))
  have HO := Lib.hid hO
  have HU := Lib.hid hu
  have HNR := Lib.hid hnear
  have HLN := Lib.hid hlen
  have kk := keeps_trans (keeps_alloc w (.map #[] 0)) (keeps_alloc _ (.cells #[.map (some w.heap.size)] 40))
  have M0 := Lib.hid ((MapW.new u32V ceV w).keep (keeps_alloc _ (.cells #[.map (some w.heap.size)] 40)))
  have A0 := Lib.hid (ha.keep kk)
  have b0 := Box.new (w.alloc (.map #[] 0)) 40 #[.map (some w.heap.size)]
  simp only [World.size_alloc] at b0
  have B0 := Lib.hid b0
  have K0 := Lib.hid kk
  clear ha hO hu hnear hal kk b0 hlen
  go_enter Try.func19, Try.ntmps19
  go_wp2_with (first
    | (at_range; refine wpList_rangeV _ rfl _ rfl candT ma _ rfl A0.out ?_; intro w4 hi4 hk4 hs4))
  try go_frame
  have I0 := Lib.hid (show FoI w w4 ma mf bf r O [] (O.map prD) [] [] from ⟨by rw [hr]; simpa using hi4, by rw [hbf, hmf]; exact B0.out.keep hk4, by rw [hmf]; exact M0.out.keep hk4, FoR.start, ⟨fun p hp => by simp at hp, fun c hc => by simp at hc⟩, keeps_trans K0.out hk4⟩)
  clear hi4 hk4 hs4 hmm
  simp only [World.size_alloc]
  rw [← hr, ← hbf, ← hmf]
  clear hr hbf hmf M0 A0 B0 K0
  go_loopw [16] (fun _ wr => ∃ (D : List Cd) (lf : List (Nat × Ce)) (F P : List (Nat × Cd)), FoI w wr ma mf bf r O D lf F P ∧ (O.map prD).Perm (D.map prD ++ lf) ∧ (∀ x ∈ D, x ∈ O)) (fun _ wr => wr.rangeLeft ma r)
  case atStart => exact ⟨[], _, [], [], I0.out, by simp, by simp⟩
  case round =>
    obtain ⟨D, lf, F, P, hI, hp, hD⟩ := hrel
    have I1 := Lib.hid hI
    have HP := Lib.hid hp
    have HD := Lib.hid hD
    clear hI hp hD
    go_wp2_with (at_next; refine wpList_nextV _ rfl _ rfl candT ma r _ lf rfl I1.out.it (fun v : Nat => Value.int .u32 (v : Int)) rfl (fun x : Ce => Value.agg #[.int .u32 (x.v : Int), .int .u64 (x.key : Int), .slice x.A x.n x.c]) rfl ?_ ?_)
    · intro hd
      have hpd := HP.out
      rw [hd] at hpd
      have AL := Lib.hid (prD_all hpd HD.out HU.out)
      have c0 : wr.cell? ⟨bf, 0, none⟩ = some (.map (some mf)) := I1.out.box.cell 0 rfl
      clear hd hpd
      go_wp2_with fail
      go_ret
      exact ⟨mf, F, P, rfl, by have := NUM.out; omega, I1.out.map, I1.out.fo, ⟨I1.out.met.sub, fun c hc => I1.out.met.sup c (AL.out c hc)⟩, I1.out.keep⟩
    · rintro ev ec lf' w5 hp hi5 ho5 hen
      obtain ⟨x, hxO, he, hp2⟩ := prD_mem HP.out hp
      obtain ⟨rfl, rfl⟩ : ev = x.v ∧ ec = x.ce := by simpa using he
      have I2 := Lib.hid (I1.out.next (lf' := lf') hi5 ho5 (by have := NUM.out; omega) (by have := NUM.out; omega) (by have := NUM.out; omega))
      have HP2 := Lib.hid hp2
      have LL := Lib.hid (show lf.length = lf'.length + 1 by have := hp.length_eq; simpa using this)
      have LW := Lib.hid (show wr.rangeLeft ma r = lf.length from I1.out.it.left_eq)
      have HX := Lib.hid hxO
      have XO := Lib.hid ((HO.out x hxO).keep I2.out.keep)
      have XN := Lib.hid (HNR.out x hxO)
      obtain ⟨bc, hbc⟩ : ∃ z, z = w5.heap.size := ⟨_, rfl⟩
      have HBC := Lib.hid hbc
      have BX := Lib.hid (cdBox w5 33 x)
      clear hp hi5 ho5 he hp2 hxO
      obtain ⟨xv, xk, XA, xc, xn⟩ := x
      obtain ⟨q, hq⟩ : ∃ q, xn.length = q := ⟨_, rfl⟩
      have HQ := Lib.hid hq
      unfold Cd.ce at hen
      simp only at hen BX XN
      rw [hq] at hen BX XN
      have K1 := Lib.hid (keeps_alloc w5 (.cells #[.int .u32 (xv : Int), .int .u64 (xk : Int), .slice XA q xc] 33))
      rw [← hbc] at BX
      clear hq
      have I3 := Lib.hid (I2.out.ext K1.out)
      have bx2 := BX.out
      obtain ⟨e0, e1, e2⟩ := bx2
      simp only at e0 e1 e2
      rw [HQ.out] at e2
      have hq1 : (q : Int) ≤ 100000 := by have := XN.out; omega
      rw [hbc] at e0 e1 e2
      go_wp2_with fail
      rw [← hbc]
      clear hbc e0 e1 e2
      go_loopw [22] (fun i wr => ∃ (k : Nat) (F P : List (Nat × Cd)), i = .int .i64 (k : Int) ∧ k ≤ q ∧ FoI w wr ma mf bf r O D lf' F P ∧ CdIn wr ⟨bc, 0, none⟩ ⟨xv, xk, XA, xc, xn⟩ ∧ MetC O ⟨xv, xk, XA, xc, xn⟩ k P) (fun i _ => q - (intOf i).toNat)
      case atStart => exact ⟨0, F, P, rfl, Nat.zero_le _, I3.out, BX.out, MetC.start _ _ _⟩
      case round =>
        obtain ⟨k, F4, P4, rfl, hk, hI, hB, hC⟩ := hrel
        have I4 := Lib.hid hI
        have B4 := Lib.hid hB
        have C4 := Lib.hid hC
        clear hI hB hC
        by_cases hlt : k < q
        · obtain ⟨v, hv⟩ : ∃ v, xn[k]? = some v := ⟨_, List.getElem?_eq_getElem (by have := HQ.out; omega)⟩
          obtain ⟨ad, hA, -, hc⟩ := celU_at ((XO.out.keep (keeps_refl _)).at_) hv
          simp only at hA
          subst hA
          have hKv := Lib.hid hv
          have hkn : (k : Int) < (q : Int) := by omega
          have hk0 : (0 : Int) ≤ (k : Int) := by omega
          have HK := Lib.hid hlt
          have hcw : w.cell? (ad.add k) = some (.int .u32 (v : Int)) := by
            obtain ⟨ad', hA', -, hc'⟩ := celU_at (HO.out _ HX.out).at_ hv
            obtain rfl := Option.some.inj hA'
            exact hc'
          have cv := I4.out.keep.cellOf hcw
          have LA := Lib.hid (look_pr O v)
          clear hlt hk hv hc hcw
          by_cases hin : v ∈ O.map Cd.v
          · obtain ⟨o, ho, hov, hf⟩ := find_someC hin
            rw [hf] at LA
            by_cases hvx : v = xv
            · have C5 := Lib.hid (C4.out.pass hKv.out (.inr hvx))
              subst hvx
              obtain ⟨ov, ok, OA, oc, on⟩ := o
              obtain ⟨qo, hqo⟩ : ∃ q, on.length = q := ⟨_, rfl⟩
              have HQO := Lib.hid hqo
              have n1 : ((v : Int) != (v : Int)) = false := by simp
              have n2 : ((v : Int) == (v : Int)) = true := by simp
              have b0 := (B4.out.keep (keeps_alloc wr (.cells #[.int .u32 (ov : Int), .int .u64 (ok : Int), .slice OA qo oc] 33))).1
              simp only at b0
              have KA := Lib.hid (keeps_alloc wr (.cells #[.int .u32 (ov : Int), .int .u64 (ok : Int), .slice OA qo oc] 33))
              clear hin ho hov hf hqo
              go_wp2_with (refine wpList_look2V _ rfl _ _ rfl candT zero_cand ma _ rfl I4.out.it.map v rfl (.agg #[.int .u32 (ov : Int), .int .u64 (ok : Int), .slice OA qo oc]) true (by rw [LA.out, ← HQO.out]; rfl) (by rw [LA.out]; rfl) ?_)
              go_roundw
              case rel => exact ⟨k + 1, F4, P4, by go_num, by have := HK.out; omega, I4.out.ext KA.out, B4.out.keep KA.out, C5.out⟩
              case measure => have := HK.out; simp [intOf]; omega
            · have MR := Lib.hid (I4.out.met.more (c := ⟨xv, xk, some ad, xc, xn⟩) (o := o) HX.out ho (by rw [hov]; exact List.mem_of_getElem? hKv.out) (by rw [hov]; exact hvx))
              have MC := Lib.hid (C4.out.meet HU.out ho (by rw [hov]; exact hKv.out))
              have FR := Lib.hid ((I4.out.fo.meet v ⟨xv, xk, some ad, xc, xn⟩).meet xv o)
              rw [hov] at MR MC
              have n1 : ((v : Int) != (xv : Int)) = true := by simp; omega
              have n2 : ((v : Int) == (xv : Int)) = false := by simp; omega
              obtain ⟨OO, hOO⟩ : ∃ z, z = o := ⟨_, rfl⟩
              have HOO := Lib.hid hOO
              obtain ⟨ov, ok, OA, oc, on⟩ := o
              obtain ⟨qo, hqo⟩ : ∃ q, on.length = q := ⟨_, rfl⟩
              have HQO := Lib.hid hqo
              have KA := Lib.hid (keeps_alloc wr (.cells #[.int .u32 (ov : Int), .int .u64 (ok : Int), .slice OA qo oc] 33))
              have I5 := Lib.hid (I4.out.ext KA.out)
              have B5 := Lib.hid (B4.out.keep KA.out)
              have b5 := B5.out
              obtain ⟨e0, e1, e2⟩ := b5
              simp only at e0 e1 e2
              rw [HQ.out] at e2
              have d0 := cdBox wr 33 ⟨ov, ok, OA, oc, on⟩
              simp only at d0
              rw [hqo] at d0
              have D0 := Lib.hid d0
              have MT := Lib.hid (meet_any v ⟨xv, xk, some ad, xc, xn⟩ I5.out.box I5.out.map)
              simp only at MT
              rw [HQ.out] at MT
              have HBB := Lib.hid (show bc ≠ mf by have := HBC.out; have := I2.out.map.lt; omega)
              have HWW := Lib.hid (show wr.heap.size ≠ mf by have := I4.out.map.lt; omega)
              clear hin ho hov hf hvx hOO hqo d0
              go_wp2_with (refine wpList_look2V _ rfl _ _ rfl candT zero_cand ma _ rfl I4.out.it.map v rfl (.agg #[.int .u32 (ov : Int), .int .u64 (ok : Int), .slice OA qo oc]) true (by rw [LA.out, ← HQO.out]; rfl) (by rw [LA.out]; rfl) ?_)
              go_at_call 26
              refine MT.out.mono ?_
              rintro e w7 ⟨rfl, m7, o7⟩
              have B7 := Lib.hid (cdIn_same B5.out (o7.block bc B5.out.lt HBB.out))
              have D7 := Lib.hid (cdIn_same D0.out (o7.block wr.heap.size (by simp) HWW.out))
              have bx7 : Box w7 bf 40 #[.map (some mf)] := (o7.block bf I5.out.box.lt (by have := NUM.out; omega)).trans I5.out.box
              have MT2 := Lib.hid (meet_any xv ⟨ov, ok, OA, oc, on⟩ bx7 m7)
              simp only at MT2
              rw [HQO.out] at MT2
              have O7 := Lib.hid o7
              have b7 := B7.out
              obtain ⟨e0, e1, e2⟩ := b7
              have d7 := D7.out
              obtain ⟨d0, d1, d2⟩ := d7
              simp only at e0 e1 e2 d0 d1 d2
              rw [HQ.out] at e2
              rw [HQO.out] at d2
              clear m7 o7 bx7
              go_wp2_with fail
              go_at_call 26
              refine MT2.out.mono ?_
              rintro e w8 ⟨rfl, m8, o8⟩
              have I8 := Lib.hid (I5.out.turn m8 (O7.out.trans o8 (fun _ e => .inl e)) FR.out MR.out (by have := NUM.out; omega) (by have := NUM.out; omega) (by have := NUM.out; omega) (by have := NUM.out; omega))
              have B8 := Lib.hid (cdIn_same B7.out (o8.block bc B7.out.lt HBB.out))
              clear m8 o8
              go_wp2_with fail
              go_roundw
              case rel => exact ⟨k + 1, _, _, by go_num, by have := HK.out; omega, I8.out, B8.out, MC.out⟩
              case measure => have := HK.out; simp [intOf]; omega
          · rw [find_none hin] at LA
            have C5 := Lib.hid (C4.out.pass hKv.out (.inl hin))
            have KA := Lib.hid (keeps_alloc wr (.cells #[.int .u32 0, .int .u64 0, .slice none 0 0] 33))
            clear hin
            go_wp2_with (refine wpList_look2V _ rfl _ _ rfl candT zero_cand ma _ rfl I4.out.it.map v rfl (.agg #[.int .u32 0, .int .u64 0, .slice none 0 0]) false (by rw [LA.out]; rfl) (by rw [LA.out]; rfl) ?_)
            go_roundw
            case rel => exact ⟨k + 1, F4, P4, by go_num, by have := HK.out; omega, I4.out.ext KA.out, B4.out.keep KA.out, C5.out⟩
            case measure => have := HK.out; simp [intOf]; omega
        · obtain rfl : k = q := by omega
          have MM := Lib.hid (I4.out.met.next (c := ⟨xv, xk, XA, xc, xn⟩) (by have h1 := C4.out; rw [← HQ.out] at h1; exact h1))
          clear hlt hk
          go_wp2_with fail
          go_roundw
          case rel => exact ⟨D ++ [⟨xv, xk, XA, xc, xn⟩], lf', F4, P4, ⟨I4.out.it, I4.out.box, I4.out.map, I4.out.fo, MM.out, I4.out.keep⟩, HP2.out, fun y hy => by
            rcases List.mem_append.1 hy with hy | hy
            · exact HD.out y hy
            · rw [List.mem_singleton] at hy; rw [hy]; exact HX.out⟩
          case measure => rw [LW.out, I4.out.it.left_eq]; have := LL.out; omega
end Go.Proofs.Ytdfaogagadoooaa
