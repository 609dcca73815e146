/- The reference's disk: Files. -/
import Derived.Test.YtkhfffflegiapaaGreatDoorQRefD
import Derived.Test.YtkhfffflegiapaaGreatDoorQLawDisk6
namespace Go.Proofs.YtkhfffflegiapaaGreatDoor
open Go.RowKit
set_option linter.unusedSimpArgs false
set_option linter.unusedVariables false
set_option maxRecDepth 100000

theorem info_afile : (Tryz.prog.info? 68).map (fun i => (i.zero, i.size, i.bytes)) = some (some (.agg #[.string ⟨#[]⟩, .slice none 0 0]), 2, 40) := by kernel_rfl
theorem u8_afile : 5 ≠ 68 := by decide
def filR (L : List (List UInt8 × List UInt8)) (vs : List Value) : List Value := (L.zip vs).flatMap fun p => [strV p.1.1, p.2]
theorem filR_step (L : List (List UInt8 × List UInt8)) (vs : List Value) (x : Value) {j : Nat} (hv : vs.length = j) {p : List UInt8 × List UInt8} (hp : L[j]? = some p) : filR (L.take (j + 1)) (vs ++ [x]) = filR (L.take j) vs ++ [strV p.1, x] := by
  unfold filR
  rw [List.take_add_one, hp, Option.toList_some, List.zip_append (by rw [List.length_take, hv]; have := (List.getElem?_eq_some_iff.1 hp).1; omega), List.flatMap_append]
  rfl
section
variable {w w' : World} {b : Nat} {F : Nat → Prop} {s : Ds} {A : Option Addr} {c : Nat} {es : List Ent}
set_option maxHeartbeats 4000000 in
theorem Rk.files_any (h : Rk w b F s A c es) (hm : es.length ≤ 70000) : Calls Tryz.prog 39 #[dpt b] w fun e w' => ∃ v, e = .returned v ∧ FilesAt w' w.heap.size v (s.l.map fun f => (f.name, f.now)) ∧ Keeps w w' := by
  obtain ⟨i0, hi, hz0, hz1, hz2⟩ := info_parts info_afile
  obtain ⟨i1, hi1, hy0, hy1, hy2⟩ := info_parts info_b8
  have H := Lib.hid h
  obtain ⟨n, hn⟩ : ∃ n, n = es.length := ⟨_, rfl⟩
  have HN := Lib.hid hn
  have c0 := Lib.hid (fun (V : World) (k : Keeps w V) => show V.cell? ⟨b, 0, none⟩ = some (.slice A n c) by rw [hn]; exact (h.keep k).box.cell 0 rfl)
  have hbl := h.box.lt
  have ni : (n : Int) ≤ 70000 := by omega
  have HL := Lib.hid (show s.l.length = n by rw [h.len, hn])
  have hmn : n ≤ 70000 := by omega
  unfold dpt
  clear h hm hn
  go_enter Tryz.func39, Tryz.ntmps39
  go_wp2_with fail
  go_loopw [3, 4] (fun v i wr => ∃ (j : Nat) (vs : List Value), j ≤ n ∧ i = .int .i64 (j : Int) ∧ Hid (vs.length = j) ∧ Own wr w.heap.size 68 2 v j (filR ((s.l.map fun f => (f.name, f.now)).take j) vs) ∧ Hid (∀ (t : Nat) (l : List UInt8) (x : Value), ((s.l.map fun f => (f.name, f.now))[t]?).map Prod.snd = some l → vs[t]? = some x → Own wr w.heap.size 5 1 x l.length (cel l)) ∧ Keeps w wr) (fun _ i _ => n - (intOf i).toNat)
  case atStart => exact ⟨0, [], Nat.zero_le _, rfl, Lib.hid rfl, by simpa [filR] using Own.nil w w.heap.size 68 2, Lib.hid (fun t l x _ hx => by simp at hx), keeps_refl _⟩
  case round =>
    obtain ⟨j, vs, hj, rfl, HV, hrow, HY, hk⟩ := hrel
    have HR := Lib.hid hrow
    have HK := Lib.hid hk
    have d0 := c0.out _ hk
    have hS := hk.size
    have hbl2 : b < wr.heap.size := Nat.lt_of_lt_of_le hbl hS
    obtain ⟨Ao, co, rfl, -⟩ := hrow.form
    clear hrow hk
    by_cases hlt : j < n
    · have hjn : (j : Int) < (n : Int) := by omega
      obtain ⟨x, hx⟩ : ∃ x, es[j]? = some x := ⟨_, List.getElem?_eq_getElem (by have := HN.out; omega)⟩
      obtain ⟨g, rfl, q0, -, hgl⟩ := H.out.cell hx 0 (by decide)
      obtain ⟨g', hg', q1, -⟩ := H.out.cell hx 1 (by decide)
      obtain rfl : g = g' := by injection hg' with e; injection e
      have q0' : w.cell? ⟨g, j * 4, none⟩ = some (.string (str x.f.name)) := q0
      obtain ⟨fo, eo⟩ := (H.out.keep HK.out).ok hx
      obtain ⟨A1, c1, e1, -⟩ := eo.now.form
      have q1' : w.cell? ⟨g, j * 4 + 1, none⟩ = some (.slice A1 x.f.now.length c1) := by rw [q1, ← e1]; rfl
      have hBs : Bs wr A1 x.f.now := by have := eo.now; rw [e1] at this; exact this.at_
      have k0 := keeps_trans (keeps_drew wr) (keeps_alloc wr.drew (.cells #[] 5))
      have B2 := Lib.hid (hBs.keep k0)
      have O0 := Lib.hid (own_empty wr.drew 5 1)
      have hp : (s.l.map fun f => (f.name, f.now))[j]? = some (x.f.name, x.f.now) := by rw [List.getElem?_map, H.out.at_l hx]; rfl
      have HP := Lib.hid hp
      have LM := Lib.hid fo.size
      obtain ⟨m, hm⟩ : ∃ m, m = x.f.now.length := ⟨_, rfl⟩
      have HM := Lib.hid hm
      rw [← hm] at q1'
      have lcel := Lib.hid (cel_length x.f.now)
      have mi : m ≤ 16777216 := by have := LM.out; omega
      clear q0 q1 hx eo fo e1 hBs hp hm hg'
      generalize hsx : str x.f.name = sx at *
      have HSX := Lib.hid hsx
      clear hsx
      go_wp2_with fail
      have O9 := Lib.hid (fun (V : World) (k : Keeps wr V) => HR.out.keep k)
      have QS := Lib.hid (fun (V : World) (k : Keeps w V) => And.intro (c0.out _ k) (And.intro (k.cellOf q0') (k.cellOf q1')))
      clear q0' q1'
      go_region_held3 (fun V => V.cell? ⟨b, 0, none⟩ = some (.slice (some ⟨g, 0, none⟩) n c) ∧ V.cell? ⟨g, j * 4, none⟩ = some (.string sx) ∧ V.cell? ⟨g, j * 4 + 1, none⟩ = some (.slice A1 m c1)) (exact QS.out _ (by first | assumption | exact keeps_trans HK.out (keeps_drew _) | exact keeps_trans HK.out k0 | exact keeps_trans HK.out k3 | exact keeps_trans HK.out (keeps_trans k3 (keeps_alloc _ _)) | exact HK.out)) (first
        | ((refine step_appD _ rfl (.tmp 25) (.tmp 33) 22 rfl w.heap.size 5 i1 (.int .u8 0) 1 1 Tryz.underlying22 hi1 hy0 hy1 hy2 rfl (by decide) _ 0 [] (by simp [Act.eval, Act.put]) (O0.out.base_le hS) _ A1 m c1 (cel x.f.now) (by simp [Act.eval, Act.put]) (by rw [lcel.out, ← HM.out, Nat.mul_one]) B2.out (cel_one _) (by unfold maxLen; omega) (by omega) (by simp; omega) ?_); intro v3 w3 hown3 hgrow3 hblk3; have k3 : Keeps wr w3 := Below.grown k0 hgrow3 k0.size (fun g hg => (O0.out.lt g hg).1); have O3 := Lib.hid (show Own w3 w.heap.size 5 1 v3 m (cel x.f.now) by simpa using hown3); clear hown3 hgrow3 hblk3; obtain ⟨A3, c3, rfl, -⟩ := O3.out.form)
        | ((refine step_appD _ rfl (.tmp 16) (.tmp 36) 50 rfl w.heap.size 68 i0 (.agg #[.string ⟨#[]⟩, .slice none 0 0]) 2 40 Tryz.underlying50 hi hz0 hz1 hz2 rfl (by decide) _ j _ (by simp [Act.eval, Act.put]) (O9.out _ (keeps_trans k3 (keeps_alloc w3 _))) _ (some ⟨w3.heap.size, 0, none⟩) 1 1 [.string sx, .slice A3 m c3] (by simp [Act.eval, Act.put]) rfl (At.new _ _ _ _ (Nat.lt_succ_self _)) (fun u hu => by simp at hu; rcases hu with rfl | rfl <;> rfl) (by unfold maxLen; omega) (by omega) (by have := k3.size; simp; omega) ?_); intro v4 w4 hown4 hgrow4 hblk4; have k4 : Keeps w w4 := Below.grown (keeps_trans HK.out (keeps_trans k3 (keeps_alloc w3 _))) hgrow4 (keeps_trans HK.out (keeps_trans k3 (keeps_alloc w3 _))).size (fun g hg => (HR.out.lt g hg).1); have O4 := Lib.hid hown4; have G4 := Lib.hid hgrow4; clear hown4 hgrow4 hblk4))
      have KA := keeps_trans k3 (keeps_alloc w3 (.cells #[.string sx, .slice A3 m c3] 68))
      have HR3 := HR.out.keep KA
      have byt : ∀ {l : List UInt8} {x : Value}, Own w3 w.heap.size 5 1 x l.length (cel l) → Own w4 w.heap.size 5 1 x l.length (cel l) := fun o => (o.keep (keeps_alloc w3 _)).grown G4.out ((o.keep (keeps_alloc w3 _)).apart HR3 u8_afile)
      have V4 := Lib.hid (show (vs ++ [Value.slice A3 m c3]).length = j + 1 by rw [List.length_append, HV.out]; rfl)
      have R4 := Lib.hid (show Own w4 w.heap.size 68 2 v4 (j + 1) (filR ((s.l.map fun f => (f.name, f.now)).take (j + 1)) (vs ++ [.slice A3 m c3])) by
        rw [filR_step _ _ _ HV.out HP.out]
        have := O4.out
        rw [← HSX.out] at this
        exact this)
      have Y4 := Lib.hid (show ∀ (t : Nat) (l : List UInt8) (x : Value), ((s.l.map fun f => (f.name, f.now))[t]?).map Prod.snd = some l → (vs ++ [Value.slice A3 m c3])[t]? = some x → Own w4 w.heap.size 5 1 x l.length (cel l) from fun t l y h1 h2 => by
        have htl : t < (vs ++ [Value.slice A3 m c3]).length := (List.getElem?_eq_some_iff.1 h2).1
        rw [List.length_append, HV.out] at htl
        simp only [List.length_cons, List.length_nil] at htl
        by_cases e : t < j
        · rw [List.getElem?_append_left (by rw [HV.out]; exact e)] at h2
          exact byt ((HY.out t l y h1 h2).keep k3)
        · obtain rfl : t = j := by omega
          rw [List.getElem?_append_right (by rw [HV.out]; exact Nat.le_refl _), HV.out, Nat.sub_self] at h2
          obtain rfl := Option.some.inj h2
          rw [HP.out] at h1
          obtain rfl := Option.some.inj h1
          have := O3.out
          rw [HM.out] at this ⊢
          exact byt this)
      have K4 := Lib.hid k4
      clear HR3 KA byt k4
      go_wp2_with fail
      first
        | exact ⟨⟨j + 1, _, by omega, by go_num, V4, R4.out, Y4, K4.out⟩, by simp [intOf]; omega⟩
        | (refine ⟨?_, by simp [intOf]; omega⟩
           (repeat apply Exists.intro)
           refine ⟨?_, rfl⟩
           exact ⟨j + 1, _, by omega, by go_num, V4, R4.out, Y4, K4.out⟩)
    · obtain rfl : j = n := by omega
      clear hlt hj
      go_wp2_with fail
      go_ret
      refine ⟨_, rfl, ⟨vs, by rw [HV.out, List.length_map, HL.out], ?_, fun t l x h1 h2 => HY.out t l x h1 h2⟩, HK.out⟩
      have h1 := HR.out
      rw [List.take_of_length_le (by rw [List.length_map, HL.out]; exact Nat.le_refl _)] at h1
      rw [List.length_map, HL.out]
      exact h1
end
end Go.Proofs.YtkhfffflegiapaaGreatDoor
/- The reference's disk: Loose. -/
namespace Go.Proofs.YtkhfffflegiapaaGreatDoor
open Go.RowKit
set_option linter.unusedSimpArgs false
set_option linter.unusedVariables false
set_option maxRecDepth 100000

theorem info_pl : (Tryz.prog.info? 121).map (fun i => (i.zero, i.size, i.bytes)) = some (some (.agg #[.string ⟨#[]⟩, .int .i64 0]), 2, 24) := by kernel_rfl
/-- the loose sectors below k -/
def looseB (f : Fl) (k : Nat) : List Nat := (List.range k).filter f.loose
theorem looseB_succ (f : Fl) (k : Nat) : looseB f (k + 1) = if f.loose k = true then looseB f k ++ [k] else looseB f k := by
  unfold looseB
  rw [List.range_succ, List.filter_append]
  by_cases h : f.loose k = true
  · rw [if_pos h]; simp [h]
  · rw [if_neg h]; simp [h]
theorem looseB_len (f : Fl) (k : Nat) : (looseB f k).length ≤ k := by
  unfold looseB
  have := List.length_filter_le f.loose (List.range k)
  simpa using this
theorem looseB_more (f : Fl) {a b : Nat} (hab : a ≤ b) (h : ∀ k, a ≤ k → f.loose k = false) : looseB f b = looseB f a := by
  induction b with
  | zero => obtain rfl : a = 0 := by omega
            rfl
  | succ b ih =>
    by_cases e : a = b + 1
    · rw [e]
    · rw [looseB_succ, if_neg (by rw [h b (by omega)]; simp), ih (by omega)]
theorem EntOk.looseF {w : World} {F : Nat → Prop} {e : Ent} (h : EntOk w F e) : looseF e.f = looseB e.f e.bs.length := by
  show looseB e.f (sect e.f.now.length) = _
  refine looseB_more e.f h.few fun k hk => ?_
  rw [h.flag]
  simp [List.getD, List.getElem?_eq_none hk]
def placesB (l : List Fl) (f : Fl) (k : Nat) : List (List UInt8 × Nat) := placesL l ++ (looseB f k).map fun k => (f.name, k)
theorem placesL_take {l : List Fl} {j : Nat} {f : Fl} (h : l[j]? = some f) : placesL (l.take (j + 1)) = placesL (l.take j) ++ (looseF f).map fun k => (f.name, k) := by
  unfold placesL
  rw [List.take_add_one, h, Option.toList_some, List.flatMap_append]
  simp
theorem placesC_len (l : List (List UInt8 × Nat)) : (l.flatMap placeC).length = l.length * 2 := flatMap_length placeC 2 (fun _ => rfl) l
section
variable {w w' : World} {b : Nat} {F : Nat → Prop} {s : Ds} {A : Option Addr} {c : Nat} {es : List Ent}
end
end Go.Proofs.YtkhfffflegiapaaGreatDoor
