/- Package pick: Pick. -/
import Derived.Test.YtdfaogagadoooaaPickJ
import Derived.Test.YtdfaogagadoooaaSoSort
namespace Go.Proofs.Ytdfaogagadoooaa
open Go.RowKit
set_option linter.unusedSimpArgs false
set_option linter.unusedVariables false
set_option maxRecDepth 100000

theorem onceD_nodup (l : List Cd) : ((onceD l).map Cd.v).Nodup := by
  have h := onceC_nodup (l.map Cd.n)
  rw [← onceD_n, map_n_v] at h
  exact h
theorem onceD_uniq {l : List Cd} : ∀ a ∈ onceD l, ∀ b ∈ onceD l, a.v = b.v → a = b := by
  intro a ha b hb h
  have hn := onceD_nodup l
  obtain ⟨i, hi⟩ := List.getElem?_of_mem ha
  obtain ⟨j, hj⟩ := List.getElem?_of_mem hb
  have li := (List.getElem?_eq_some_iff.1 hi).1
  have lj := (List.getElem?_eq_some_iff.1 hj).1
  have e : i = j := by
    refine (List.getElem_inj (h₀ := by simpa using li) (h₁ := by simpa using lj) hn).1 ?_
    simp only [List.getElem_map]
    rw [(List.getElem?_eq_some_iff.1 hi).2, (List.getElem?_eq_some_iff.1 hj).2, h]
  subst e
  rw [hi] at hj
  exact Option.some.inj hj
theorem own_iterP {W : World} {base : Nat} {e : TypeId} {size n b r : Nat} {v : Value} {xs : List Value} {κ ε : Type} [DecidableEq κ] {kv : κ → Value} {ev : ε → Value} {l lf : List (κ × ε)} (h : Own W base e size v n xs) (hi : IterV kv ev W b r l lf) : ∀ g, v.ownBlock = some g → g ≠ r := by
  intro g hg
  rcases h.2 with ⟨rfl, _⟩ | ⟨g', cap', cur, fz, rfl, _, hc, _⟩
  · cases hg
  · have e1 : g' = g := by simpa [Value.ownBlock] using hg
    subst e1
    exact (hi.apart hc).2
/-- what holds while it is asked who is picked -/
structure PkI (w W : World) (ma mf b1 b2 r : Nat) (O D : List Cd) (lf : List (Nat × Ce)) (F : List (Nat × Cd)) (u : Value) : Prop where
  it : IterV u32V ceV W ma r (O.map prD) lf
  bx1 : Box W b1 40 #[.map (some mf)]
  bx2 : Box W b2 40 #[.map (some ma)]
  map : MapW u32V ceV W mf (F.map pe)
  own : Own W w.heap.size 30 1 u ((D.filter (pkF F)).map Cd.v).length (celU ((D.filter (pkF F)).map Cd.v))
  keep : Keeps w W
section
variable {w W V : World} {ma mf b1 b2 r : Nat} {O D : List Cd} {lf lf' : List (Nat × Ce)} {F : List (Nat × Cd)} {u : Value}
theorem PkI.ext (h : PkI w W ma mf b1 b2 r O D lf F u) (k : Keeps W V) : PkI w V ma mf b1 b2 r O D lf F u := ⟨h.it.keep k, h.bx1.keep k, h.bx2.keep k, h.map.keep k, h.own.keep k, keeps_trans h.keep k⟩
theorem PkI.next (h : PkI w W ma mf b1 b2 r O D lf F u) (hi : IterV u32V ceV V ma r (O.map prD) lf') (o : Only W V (fun c => c = r)) (h1 : w.heap.size ≤ r) (h2 : mf ≠ r) (h3 : b1 ≠ r) (h4 : b2 ≠ r) : PkI w V ma mf b1 b2 r O D lf' F u :=
  ⟨hi, (o.block b1 h.bx1.lt h3).trans h.bx1, (o.block b2 h.bx2.lt h4).trans h.bx2, h.map.same (o.block mf h.map.lt h2), h.own.same fun g hg => o.block g (h.own.lt g hg).2 (own_iterP h.own h.it g hg), Keeps.far h.keep o h1⟩
end
theorem own_objP {W : World} {base : Nat} {e : TypeId} {size n : Nat} {v : Value} {xs : List Value} (h : Own W base e size v n xs) {g : Nat} (hg : v.ownBlock = some g) : ∃ cs fz, W.heap[g]? = some (.cells cs e fz) := by
  rcases h.2 with ⟨rfl, _⟩ | ⟨g', cap', cur, fz, rfl, _, hc, _⟩
  · cases hg
  · have e1 : g' = g := by simpa [Value.ownBlock] using hg
    subst e1
    exact ⟨_, _, hc⟩
theorem grown_same {W V : World} {row : Option Nat} (g : W.grownBy V row) {k : Nat} (hk : k < W.heap.size) (hne : ∀ b, row = some b → b ≠ k) : V.heap[k]? = W.heap[k]? := g.block k hk (fun e => hne k e.symm rfl)
/-- the row of those who are picked grows -/
theorem PkI.grown {w W V : World} {ma mf b1 b2 r : Nat} {O D D' : List Cd} {lf : List (Nat × Ce)} {F : List (Nat × Cd)} {u u' : Value} (h : PkI w W ma mf b1 b2 r O D lf F u) (g : W.grownBy V u.ownBlock) (o : Own V w.heap.size 30 1 u' ((D'.filter (pkF F)).map Cd.v).length (celU ((D'.filter (pkF F)).map Cd.v))) : PkI w V ma mf b1 b2 r O D' lf F u' := by
  have ob := fun b (hb : u.ownBlock = some b) => own_objP h.own hb
  have nb : ∀ q T, Box W q 40 T → ∀ b, u.ownBlock = some b → b ≠ q := fun q T hq b hb e => by
    obtain ⟨cs, fz, hc⟩ := ob b hb
    subst e
    rw [hq] at hc
    injection hc with hc
    injection hc with h1 h2
    exact absurd h2 (by decide)
  refine ⟨h.it.same (grown_same g h.it.lt.1 fun b hb => ?_) (grown_same g h.it.lt.2 fun b hb => own_iterP h.own h.it b hb), (grown_same g h.bx1.lt (nb b1 _ h.bx1)).trans h.bx1, (grown_same g h.bx2.lt (nb b2 _ h.bx2)).trans h.bx2, h.map.same (grown_same g h.map.lt fun b hb => ?_), o, Below.grown h.keep g h.keep.size (fun b hb => (h.own.lt b hb).1)⟩
  · obtain ⟨cs, fz, hc⟩ := ob b hb
    exact (h.it.apart hc).1
  · obtain ⟨cs, fz, hc⟩ := ob b hb
    exact h.map.ne hc
theorem pick_math {l : List Cd} {F P : List (Nat × Cd)} {D : List Cd} (hF : FoR F P) (hM : MetR (onceD l) (onceD l) P) (hp : ((onceD l).map prD).Perm (D.map prD ++ [])) {out : List Nat} (h1 : out.Perm ((D.filter (pkF F)).map Cd.v)) (h2 : out.Pairwise (· ≤ ·)) (hD : ∀ x ∈ D, x ∈ onceD l) : IsPick (l.map Cd.n) out := by
  have hu := onceD_uniq (l := l)
  have hall := prD_all hp hD hu
  have hnd : (D.map Cd.v).Nodup := by
    have h3 : ((onceD l).map Cd.v).Perm (D.map Cd.v) := by
      have := hp.map Prod.fst
      rw [List.append_nil, List.map_map, List.map_map] at this
      exact this
    exact h3.nodup_iff.1 (onceD_nodup l)
  have hno : out.Nodup := h1.nodup_iff.2 (hnd.sublist (List.Sublist.map _ List.filter_sublist))
  have pk : ∀ x ∈ onceD l, pkF F x = firstC (onceC (l.map Cd.n)) x.n := fun x hx => by
    rw [pk_first hF hM (fun y hy => hy) hu hx, onceD_n]
  constructor
  · have h3 := List.pairwise_and_iff.2 ⟨h2, hno⟩
    exact h3.imp (fun h => Nat.lt_of_le_of_ne h.1 h.2)
  · intro v
    rw [h1.mem_iff, List.mem_map]
    constructor
    · rintro ⟨x, hx, rfl⟩
      obtain ⟨hx1, hx2⟩ := List.mem_filter.1 hx
      have hxO := hD x hx1
      exact ⟨x.n, by rw [← onceD_n]; exact List.mem_map_of_mem hxO, rfl, by rw [← pk x hxO]; exact hx2⟩
    · rintro ⟨y, hy, rfl, hf⟩
      rw [← onceD_n] at hy
      obtain ⟨x, hx, rfl⟩ := List.mem_map.1 hy
      exact ⟨x, List.mem_filter.2 ⟨hall x hx, by rw [pk x hx]; exact hf⟩, rfl⟩
theorem filter_nextP {D : List Cd} {x : Cd} (F : List (Nat × Cd)) : (((D ++ [x]).filter (pkF F)).map Cd.v) = if pkF F x then ((D.filter (pkF F)).map Cd.v) ++ [x.v] else (D.filter (pkF F)).map Cd.v := by
  rw [List.filter_append, List.map_append]
  cases h : pkF F x <;> simp [h]
set_option maxHeartbeats 16000000 in
theorem pick_any (A : Option Addr) (n c : Nat) (l : List Cd) (w : World) (hl : CdsAt w A l) (hn : n = l.length) (hm : n ≤ 1000) (hnear : ∀ x ∈ l, x.near.length ≤ 100000) :
    Calls Try.prog 12 #[.slice A n c] w fun e w' => ∃ v out, e = .returned v ∧ IsPick (l.map Cd.n) out ∧ Own w' w.heap.size 30 1 v out.length (celU out) ∧ Keeps w w' := by
  obtain ⟨j0, hj, hy0, hy1, hy2⟩ := info_partsU info_u32P
  obtain ⟨O, hO⟩ : ∃ O, onceD l = O := ⟨_, rfl⟩
  have CT := Lib.hid (counted_any A n c l w hl hn hm)
  have OL := Lib.hid (show O.length ≤ 1000 by rw [← hO]; exact Nat.le_trans (onceD_len l) (by omega))
  have HO := Lib.hid (show ∀ x ∈ O, CdOk w x ∧ x.near.length ≤ 100000 from fun x hx => by
    rw [← hO] at hx
    exact ⟨hl.ok x (onceD_sub hx), hnear x (onceD_sub hx)⟩)
  have HU := Lib.hid (show ∀ a ∈ O, ∀ b ∈ O, a.v = b.v → a = b by rw [← hO]; exact onceD_uniq)
  have HOL := Lib.hid hO
  have FIN := Lib.hid (fun (F P : List (Nat × Cd)) (D : List Cd) (out : List Nat) (hF : FoR F P) (hM : MetR O O P) (hp : (O.map prD).Perm (D.map prD ++ [])) (h1 : out.Perm ((D.filter (pkF F)).map Cd.v)) (h2 : out.Pairwise (· ≤ ·)) (hD : ∀ x ∈ D, x ∈ O) => show IsPick (l.map Cd.n) out by
    subst hO
    exact pick_math hF hM hp h1 h2 hD)
  clear hl hn hm hnear
  unfold CountV at CT
  rw [hO] at CT
  clear hO
  go_enter Try.func12, Try.ntmps12
  go_wp2_with fail
  go_at_call 18
  refine CT.out.mono ?_
  rintro e w1 ⟨ma, rfl, hma, m1, k1⟩
  obtain ⟨b2, hb2⟩ : ∃ z, z = w1.heap.size := ⟨_, rfl⟩
  have K1 := Lib.hid k1
  have M1 := Lib.hid m1
  have KB := Lib.hid (keeps_alloc w1 (.cells #[.map (some ma)] 40))
  have BX2 := Lib.hid (Box.new w1 40 #[.map (some ma)])
  rw [← hb2] at BX2
  have N1 := Lib.hid (And.intro hb2 (And.intro hma k1.size))
  have FO := Lib.hid (foremost_any (m1.keep KB.out) (fun x hx => ((HO.out x hx).1.keep k1).keep KB.out) HU.out OL.out (fun x hx => (HO.out x hx).2))
  have c2 : (w1.alloc (.cells #[.map (some ma)] 40)).cell? ⟨w1.heap.size, 0, none⟩ = some (.map (some ma)) := by rw [← hb2]; exact BX2.out.cell 0 rfl
  unfold ForeV at FO
  clear hma m1 k1
  go_wp2_with fail
  go_at_call 19
  refine FO.out.mono ?_
  rintro e w3 ⟨mf, F, P, rfl, hmf, m3, hF, hM, k3⟩
  rw [← hb2]
  obtain ⟨b1, hb1⟩ : ∃ z, z = w3.heap.size := ⟨_, rfl⟩
  obtain ⟨r, hr⟩ : ∃ z, z = w3.heap.size + 1 := ⟨_, rfl⟩
  have K3 := Lib.hid (keeps_trans KB.out k3)
  have KC := Lib.hid (keeps_alloc w3 (.cells #[.map (some mf)] 40))
  have BX1 := Lib.hid (Box.new w3 40 #[.map (some mf)])
  have HF := Lib.hid hF
  have HM := Lib.hid hM
  have N3 := Lib.hid (show b1 = w3.heap.size ∧ r = w3.heap.size + 1 ∧ mf < w3.heap.size ∧ b2 < w3.heap.size ∧ w.heap.size ≤ w3.heap.size from ⟨hb1, hr, m3.lt, by have := k3.size; simp at this; omega, by have := K1.out.size; have := k3.size; simp at this; omega⟩)
  have M3 := Lib.hid (m3.keep KC.out)
  have A3 := Lib.hid ((M1.out.keep K3.out).keep KC.out)
  have BX3 := Lib.hid ((BX2.out.keep k3).keep KC.out)
  have c3 : (w3.alloc (.cells #[.map (some mf)] 40)).cell? ⟨b2, 0, none⟩ = some (.map (some ma)) := BX3.out.cell 0 rfl
  clear c2 hmf m3 hF hM k3 hb2
  go_wp2_with (at_range; refine wpList_rangeV _ rfl _ rfl candT ma _ rfl A3.out ?_; intro w4 hi4 hk4 hs4)
  try go_frame
  simp only [World.size_alloc]
  rw [← hr, ← hb1]
  have I0 := Lib.hid (show PkI w w4 ma mf b1 b2 r O [] (O.map prD) F (.slice none 0 0) from ⟨by rw [hr]; simpa using hi4, by rw [hb1]; exact BX1.out.keep hk4, BX3.out.keep hk4, M3.out.keep hk4, Own.nil _ _ _ _, keeps_trans K1.out (keeps_trans K3.out (keeps_trans KC.out hk4))⟩)
  clear hi4 hk4 hs4 c3 hr hb1
  go_loopw [6] (fun u wr => ∃ (D : List Cd) (lf : List (Nat × Ce)), PkI w wr ma mf b1 b2 r O D lf F u ∧ (O.map prD).Perm (D.map prD ++ lf) ∧ (∀ x ∈ D, x ∈ O)) (fun _ wr => wr.rangeLeft ma r)
  case atStart => exact ⟨[], _, I0.out, by simp, by simp⟩
  case round =>
    obtain ⟨D, lf, hI, hp, hD⟩ := hrel
    have I1 := Lib.hid hI
    have HP := Lib.hid hp
    have HD := Lib.hid hD
    have LD := Lib.hid (show D.length + lf.length = O.length by have := hp.length_eq; simp at this; omega)
    have LC := Lib.hid (show ((D.filter (pkF F)).map Cd.v).length ≤ D.length by rw [List.length_map]; exact List.length_filter_le _ _)
    obtain ⟨Ao, co, rfl, hco, -, -, -⟩ := hI.own.form
    obtain ⟨cs, hcs⟩ : ∃ cs, (D.filter (pkF F)).map Cd.v = cs := ⟨_, rfl⟩
    have O1 := Lib.hid hI.own
    rw [hcs] at hco O1 LC ⊢
    have HCS := Lib.hid hcs
    clear hI hp hD hcs
    obtain ⟨m, hml⟩ : ∃ m, cs.length = m := ⟨_, rfl⟩
    rw [hml] at hco O1 LC ⊢
    have HML := Lib.hid hml
    clear hml
    go_wp2_with (at_next; refine wpList_nextV _ rfl _ rfl candT ma r _ lf rfl I1.out.it (fun v : Nat => Value.int .u32 (v : Int)) rfl (fun x : Ce => Value.agg #[.int .u32 (x.v : Int), .int .u64 (x.key : Int), .slice x.A x.n x.c]) rfl ?_ ?_)
    · intro hd
      have hpd := HP.out
      rw [hd] at hpd
      have HPD := Lib.hid hpd
      clear hd hpd
      have KW := Lib.hid I1.out.keep
      rcases O1.out.2 with ⟨hv, hz⟩ | ⟨gb, cap, cur, fz, hv, hbase, hgb, r1, r2, r3, r4⟩
      · obtain ⟨rfl, rfl, rfl⟩ : Ao = none ∧ m = 0 ∧ co = 0 := by injection hv with a b c; exact ⟨a, b, c⟩
        have CN := Lib.hid (show cs = [] from List.eq_nil_of_length_eq_zero HML.out)
        clear hv hz
        go_wp2_with (go_at_call 22; refine (sort_nil_u32 _).mono ?_; rintro e w6 ⟨rfl, rfl⟩)
        go_ret
        exact ⟨_, [], rfl, FIN.out F P D [] HF.out HM.out HPD.out (by rw [HCS.out, CN.out]) (by simp) HD.out, Own.nil _ _ _ _, KW.out⟩
      · obtain ⟨rfl⟩ : Ao = some ⟨gb, 0, none⟩ := by injection hv
        have ST := Lib.hid (sort_u32 O1.out (by have := LC.out; have := LD.out; have := OL.out; omega))
        have GB := Lib.hid hbase
        clear hv hgb r1 r2 r3 r4 hbase
        go_wp2_with (go_at_call 22; refine ST.out.mono ?_; rintro e w6 ⟨out, rfl, hpo, hso, oo, on6⟩)
        go_ret
        exact ⟨_, out, rfl, FIN.out F P D out HF.out HM.out HPD.out (by rw [HCS.out]; exact hpo) hso HD.out, by rw [hpo.length_eq, HML.out]; exact oo, Keeps.far KW.out on6 GB.out⟩
    · rintro ev ec lf' w5 hp hi5 ho5 hen
      obtain ⟨x, hxO, he, hp2⟩ := prD_mem HP.out hp
      obtain ⟨rfl, rfl⟩ : ev = x.v ∧ ec = x.ce := by simpa using he
      have I2 := Lib.hid (I1.out.next (lf' := lf') hi5 ho5 (by have := N3.out; omega) (by have := N3.out; omega) (by have := N3.out; omega) (by have := N3.out; omega))
      have HP2 := Lib.hid hp2
      have LL := Lib.hid (show lf.length = lf'.length + 1 by have := hp.length_eq; simpa using this)
      have LW := Lib.hid (show wr.rangeLeft ma r = lf.length from I1.out.it.left_eq)
      have HX := Lib.hid hxO
      have FX := Lib.hid (show O.find? (fun z => decide (z.v = x.v)) = some x by
        obtain ⟨y, hy, hyv, hf⟩ := find_someC (List.mem_map_of_mem (f := Cd.v) hxO)
        rw [hf, HU.out y hy x hxO hyv])
      have PK := Lib.hid (picked_any I2.out.bx1 I2.out.bx2 I2.out.map I2.out.it.map FX.out)
      have FN := Lib.hid (filter_nextP (D := D) (x := x) F)
      have O2 := Lib.hid I2.out.own
      have HD2 := Lib.hid (show ∀ y ∈ D ++ [x], y ∈ O from fun y hy => by
        rcases List.mem_append.1 hy with hy | hy
        · exact HD.out y hy
        · rw [List.mem_singleton] at hy; rw [hy]; exact HX.out)
      rw [HCS.out] at O2 FN
      rw [HML.out] at O2
      clear hp hi5 ho5 he hp2 hxO
      obtain ⟨xv, hxv⟩ : ∃ z, x.v = z := ⟨_, rfl⟩
      rw [hxv] at PK FN hen ⊢
      clear hxv
      cases hb : pkF F x
      · rw [hb] at PK FN
        go_wp2_with (go_at_call 20; refine PK.out.mono ?_; rintro e w6 ⟨rfl, k6⟩; have K6 := Lib.hid k6; clear k6)
        go_roundw
        case rel => exact ⟨D ++ [x], lf', ⟨(I2.out.ext K6.out).it, (I2.out.ext K6.out).bx1, (I2.out.ext K6.out).bx2, (I2.out.ext K6.out).map, by
          rw [FN.out, if_neg (by simp), HML.out]
          exact O2.out.keep K6.out, (I2.out.ext K6.out).keep⟩, HP2.out, HD2.out⟩
        case measure => rw [LW.out, (I2.out.ext K6.out).it.left_eq]; have := LL.out; omega
      · rw [hb] at PK FN
        have AT := Lib.hid (show ∀ W : World, At (W.alloc (.cells #[.int .u32 (xv : Int)] 30)) (W.alloc (.cells #[.int .u32 (xv : Int)] 30)).heap.size (some ⟨W.heap.size, 0, none⟩) (celU [xv]) from fun W => At.new _ _ _ _ (by simp))
        go_wp2_with (first
          | (go_at_call 20; refine PK.out.mono ?_; rintro e w6 ⟨rfl, k6⟩; have K6 := Lib.hid k6; clear k6)
          | (at_builtin; refine wpList_app _ rfl _ _ 26 rfl w.heap.size 30 j0 (.int .u32 0) 1 4 Try.underlying26 hj hy0 hy1 hy2 rfl (by decide) (.slice Ao m co) m (celU cs) rfl ((O2.out.keep K6.out).keep (keeps_alloc _ _)) _ _ 1 1 (celU [xv]) rfl rfl (AT.out _) (celU_one _) (by have := LC.out; have := LD.out; have := OL.out; unfold maxLen; omega) (by have := LC.out; have := LD.out; have := OL.out; omega) (keeps_trans (keeps_trans I2.out.keep K6.out) (keeps_alloc _ _)).size ?_; intro v8 w8 o8 g8 b8; have O8 := Lib.hid o8; have G8 := Lib.hid g8; clear o8 g8 b8))
        have I8 := Lib.hid (((I2.out.ext K6.out).ext (keeps_alloc w6 (.cells #[.int .u32 (xv : Int)] 30))).grown (D' := D ++ [x]) (by rw [HCS.out, HML.out]; exact G8.out) (by
          have h1 := O8.out
          rw [FN.out, if_pos (by first | rfl | trivial), List.length_append, HML.out]
          simpa [celU] using h1))
        go_wp2_with fail
        go_roundw
        case rel => exact ⟨D ++ [x], lf', I8.out, HP2.out, HD2.out⟩
        case measure => rw [LW.out, I8.out.it.left_eq]; have := LL.out; omega
theorem pickOk : PickOk where
  pick A n c l w hl hn hm _ _ hnear := pick_any A n c l w hl hn hm hnear
end Go.Proofs.Ytdfaogagadoooaa
