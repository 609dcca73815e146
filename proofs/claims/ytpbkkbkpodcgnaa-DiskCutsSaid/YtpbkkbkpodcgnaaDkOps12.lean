/- Package disk: Files. -/
import Derived.Test.YtpbkkbkpodcgnaaDkOps11
import Derived.Test.YtpbkkbkpodcgnaaDkNames
namespace Go.Proofs.Ytpbkkbkpodcgnaa
open Go.RowKit Go.Shelf
set_option linter.unusedSimpArgs false
set_option linter.unusedVariables false
set_option maxRecDepth 100000

theorem info_file : (Try.prog.info? 93).map (fun i => (i.zero, i.size, i.bytes)) = some (some (.agg #[.string ⟨#[]⟩, .slice none 0 0]), 2, 40) := by kernel_rfl
theorem file_byte : 5 ≠ 93 := by decide
theorem at_new (w : World) (t : TypeId) (cs : Array Value) : At (w.alloc (.cells cs t)) (w.alloc (.cells cs t)).heap.size (some ⟨w.heap.size, 0, none⟩) cs.toList := by
  refine .inr ⟨_, rfl, by simp, fun j u hu => ?_⟩
  rw [Addr.add_lit]
  have := (Box.new w t cs).cell j (v := u) (by simpa using hu)
  simpa using this
def filC (L : List (List UInt8 × List UInt8)) (vs : List Value) : List Value := (L.zip vs).flatMap fun p => [strV p.1.1, p.2]
theorem filC_step (L : List (List UInt8 × List UInt8)) (vs : List Value) (x : Value) {j : Nat} (hv : vs.length = j) {p : List UInt8 × List UInt8} (hp : L[j]? = some p) : filC (L.take (j + 1)) (vs ++ [x]) = filC (L.take j) vs ++ [strV p.1, x] := by
  unfold filC
  rw [List.take_add_one, hp, Option.toList_some, List.zip_append (by rw [List.length_take, hv]; have := (List.getElem?_eq_some_iff.1 hp).1; omega), List.flatMap_append]
  rfl
section
variable {w w' : World} {b : Nat} {F : Nat → Prop} {s : Ds}
set_option maxHeartbeats 16000000 in
theorem files_any (h : Dk w b F s) (hl : s.l.length ≤ 70000) : Calls Try.prog 16 #[dpt b] w fun e w' => ∃ v, e = .returned v ∧ FilesAt w' w.heap.size v (s.l.map fun f => (f.name, f.now)) ∧ Keeps w w' := by
  show Calls _ _ #[.pointer (some ⟨b, 0, none⟩)] w _
  obtain ⟨i0, hi, hz0, hz1, hz2⟩ := info_parts info_file
  have NA := Lib.hid (show Calls Try.prog 14 #[.pointer (some ⟨b, 0, none⟩)] w _ from names_any h hl)
  obtain ⟨N, hN⟩ : ∃ N, N = s.l.length := ⟨_, rfl⟩
  rw [← hN] at NA hl
  have hN2 : (N : Int) ≤ 70000 := by omega
  have HN := Lib.hid hN
  have HL := Lib.hid hl
  have H := Lib.hid h
  clear h hN hl
  go_enter Try.func16, Try.ntmps16
  go_wp2_with (go_at_call 14; refine NA.out.mono ?_; rintro e w1 ⟨nv, rfl, hnv, k1⟩; obtain ⟨An, cn, rfl, hcn, hcnm, -⟩ := hnv.form)
  have NV := Lib.hid hnv
  have K1 := Lib.hid k1
  have D1 := Lib.hid (H.out.keep k1)
  clear hnv k1 hcnm
  obtain ⟨mf, ml, fb, col, hb, hx⟩ := D1.out.at_
  have HB := Lib.hid hb
  have HX := Lib.hid hx
  clear hb hx
  go_loopw [3, 5, 9] (fun v _ i wr => ∃ (j : Nat) (vs : List Value), j ≤ N ∧ i = .int .i64 (j : Int) ∧ vs.length = j ∧ Own wr w1.heap.size 93 2 v j (filC ((s.l.map fun f => (f.name, f.now)).take j) vs) ∧ (∀ (t : Nat) (l : List UInt8) (x : Value), ((s.l.map fun f => (f.name, f.now))[t]?).map Prod.snd = some l → vs[t]? = some x → Own wr w1.heap.size 5 1 x l.length (cel l)) ∧ Keeps w1 wr) (fun _ _ i _ => N - (intOf i).toNat)
  case atStart => exact ⟨0, [], Nat.zero_le _, rfl, rfl, by simpa [filC] using Own.nil w1 w1.heap.size 93 2, fun t l x _ hx => by simp at hx, keeps_refl _⟩
  case round =>
    obtain ⟨j, vs, hj, rfl, hvl, hrow, hby, hk⟩ := hrel
    have HV := Lib.hid hvl
    have HR := Lib.hid hrow
    have HY := Lib.hid hby
    have HK := Lib.hid hk
    have HJ := Lib.hid hj
    by_cases hlt : j < N
    · have hjl : j < s.l.length := by rw [← HN.out]; exact hlt
      obtain ⟨f, hf⟩ : ∃ f, s.l[j]? = some f := ⟨_, List.getElem?_eq_getElem hjl⟩
      have hfm := List.mem_of_getElem? hf
      have hjn : (j : Int) < (N : Int) := by omega
      have Bq : Box wr b 83 (dkC mf ml s.q s.armed s.off) := HB.out.keep hk
      have c0 : wr.cell? ⟨b, 0, none⟩ = some (.map (some mf)) := Bq.cell 0 rfl
      have hbl := Bq.lt
      have FM := Lib.hid (HX.out.files.keep hk)
      have LK := Lib.hid (show lookM (s.l.map fun f => (f.name, fb f.name)) f.name = some (fb f.name) by rw [HX.out.find, getF_of_mem HX.out.nodup hfm]; rfl)
      obtain ⟨v1, v2, hA⟩ := HX.out.each f hfm
      have hA' := hA.keep hk
      obtain ⟨A, cap, rfl, hcap, hcm, -⟩ := hA'.own1.form
      have f0 : wr.cell? ⟨fb f.name, 0, none⟩ = some (.slice A f.now.length cap) := hA'.box.cell 0 rfl
      have hkl := hA'.lt
      have CL := Lib.hid (clone_any A f.now.length cap f.now wr hA'.own1.at_ rfl (fun ea => by
        have := hA'.own1
        rw [ea] at this
        exact this.nil_len.2) (by have := (D1.out.ok.files f hfm).size; omega))
      obtain ⟨ad, rfl, hadc⟩ : ∃ ad, An = some ad ∧ wr.cell? (ad.add j) = some (.string (str f.name)) := by
        have h1 := (NV.out.keep hk).at_
        obtain ⟨ad, e, _, hc⟩ := At.get h1 (k := j) (by rw [List.length_map]; exact hjl)
        exact ⟨ad, e, by rw [hc, List.getElem?_map, hf]; rfl⟩
      have HF := Lib.hid hf
      have hjb : (j : Int) ≤ 70000 := by omega
      clear hvl hrow hby hk hj hfm Bq hA hA' hcm hcap hjl hf
      go_wp2_with (first
        | (at_lookup; refine wpList_lookV_some _ rfl _ _ rfl filesT zeroF mf _ rfl FM.out f.name rfl (fb f.name) LK.out (.pointer (some ⟨fb f.name, 0, none⟩)) rfl ?_)
        | (go_at_call 44; refine CL.out.mono ?_; rintro e w3 ⟨x, rfl, hxo, kx⟩; obtain ⟨Ax, cx, rfl, -⟩ := hxo.form)
        | (at_builtin; refine wpList_app _ rfl _ _ 39 rfl w1.heap.size 93 i0 (.agg #[.string ⟨#[]⟩, .slice none 0 0]) 2 40 Try.underlying39 hi hz0 hz1 hz2 rfl (by decide) _ j _ rfl ((HR.out.keep kx).keep (keeps_alloc w3 _)) _ (some ⟨w3.heap.size, 0, none⟩) 1 1 [.string (str f.name), .slice Ax f.now.length cx] rfl rfl (at_new w3 93 #[.string (str f.name), .slice Ax f.now.length cx]) (by intro u hu; simp only [List.mem_cons, List.not_mem_nil, or_false] at hu; rcases hu with rfl | rfl <;> rfl) (by have := HJ.out; have := HL.out; unfold maxLen; omega) (by have := HJ.out; have := HL.out; omega) (by have := HK.out.size; have := kx.size; simp; omega) ?_; intro v4 w4 hown4 hgrow4 hblk4))
      have ka := keeps_alloc w3 (.cells #[.string (str f.name), .slice Ax f.now.length cx] 93)
      have HR3 := (HR.out.keep kx).keep ka
      have hp : (s.l.map fun f => (f.name, f.now))[j]? = some (f.name, f.now) := by rw [List.getElem?_map, HF.out]; rfl
      have kw : Keeps w1 w4 := Below.grown (keeps_trans (keeps_trans HK.out kx) ka) hgrow4 (keeps_trans (keeps_trans HK.out kx) ka).size (fun g hg => (HR3.lt g hg).1)
      have byt : ∀ {l : List UInt8} {x : Value}, Own w3 w1.heap.size 5 1 x l.length (cel l) → Own w4 w1.heap.size 5 1 x l.length (cel l) := fun o => (o.keep ka).grown hgrow4 ((o.keep ka).apart HR3 file_byte)
      refine ⟨⟨j + 1, vs ++ [.slice Ax f.now.length cx], by omega, by go_num, by rw [List.length_append, HV.out]; rfl, ?_, fun t l x h1 h2 => ?_, kw⟩, by simp [intOf]; omega⟩
      · rw [filC_step _ _ _ HV.out hp]
        exact hown4
      · have htl : t < (vs ++ [Value.slice Ax f.now.length cx]).length := (List.getElem?_eq_some_iff.1 h2).1
        rw [List.length_append, HV.out] at htl
        simp only [List.length_cons, List.length_nil] at htl
        by_cases e : t < j
        · rw [List.getElem?_append_left (by rw [HV.out]; exact e)] at h2
          exact byt ((HY.out t l x h1 h2).keep kx)
        · obtain rfl : t = j := by omega
          rw [List.getElem?_append_right (by rw [HV.out]; exact Nat.le_refl _), HV.out, Nat.sub_self] at h2
          obtain rfl := Option.some.inj h2
          rw [hp] at h1
          obtain rfl := Option.some.inj h1
          exact byt (hxo.base_le HK.out.size)
    · obtain rfl : j = N := by omega
      clear hvl hrow hby hk hj hlt
      go_wp2_with fail
      go_ret
      refine ⟨_, rfl, ⟨vs, by rw [HV.out, List.length_map, HN.out], ?_, fun t l x h1 h2 => ?_⟩, keeps_trans K1.out HK.out⟩
      · have h1 := HR.out
        rw [List.take_of_length_le (by rw [List.length_map, HN.out]; exact Nat.le_refl _)] at h1
        rw [List.length_map, ← HN.out]
        exact h1.base_le K1.out.size
      · exact (HY.out t l x h1 h2).base_le K1.out.size
end
end Go.Proofs.Ytpbkkbkpodcgnaa
