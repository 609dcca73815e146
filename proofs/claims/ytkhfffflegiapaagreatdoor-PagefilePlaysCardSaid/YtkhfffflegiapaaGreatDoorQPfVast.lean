/- Is it much that is done with files of pages? -/
import Derived.Test.YtkhfffflegiapaaGreatDoorQOpenInt
import Derived.Test.YtkhfffflegiapaaGreatDoorQPfBad
import Derived.Test.YtkhfffflegiapaaGreatDoorQRefA
namespace Go.Proofs.YtkhfffflegiapaaGreatDoor
open Go.RowKit
set_option linter.unusedSimpArgs false
set_option linter.unusedVariables false
set_option maxRecDepth 100000

theorem info_op6 : (Tryz.prog.info? 83).map (fun i => (i.zero, i.size, i.bytes)) = some (some (.agg #[.int .i64 0, .string ⟨#[]⟩, .string ⟨#[]⟩, .int .i64 0, .int .i64 0, .slice none 0 0, .int .u8 0, .slice none 0 0]), 8, 112) := by kernel_rfl
set_option maxHeartbeats 8000000 in
theorem vast8_any (A : Option Addr) (n c : Nat) (l : List Op8) (w : World) (h : Ops8At w A l) (hn : n = l.length) (hm : n ≤ 9223372036854775807) :
    Calls Tryz.prog 33 #[.slice A n c] w (Vast8V w l) := by
  by_cases hb : 100 < n
  · have hbi : (100 : Int) < (n : Int) := by omega
    clear h hn hb
    go_enter Tryz.func33, Tryz.ntmps33
    go_wp2_with fail
    go_ret
    exact ⟨true, rfl, keeps_refl _, fun h => by cases h⟩
  · have hbi : (n : Int) ≤ 100 := by omega
    obtain ⟨i0, hi, hz0, hz1, hz2⟩ := info_parts info_op6
    have H := Lib.hid h
    have HN := Lib.hid hn
    clear h hn hb
    go_enter Tryz.func33, Tryz.ntmps33
    go_wp2_with fail
    go_loopw [3, 4, 5] (fun v t i wr => ∃ (j s : Nat), j ≤ n ∧ i = .int .i64 j ∧ t = .int .i64 (s : Int) ∧ s ≤ 65536 ∧ Hid (∀ o ∈ l.take j, o.len ≤ 65536 ∧ o.name.length ≤ 65536) ∧ Hid (Keeps w wr) ∧ Hid (Own wr w.heap.size 83 8 v j ((l.take j).flatMap fun o => opC o.d))) (fun _ _ i _ => n - (intOf i).toNat)
    case atStart => exact ⟨0, 0, Nat.zero_le _, rfl, rfl, by omega, Lib.hid (by simp), Lib.hid (keeps_refl _), Lib.hid (by simpa using Own.nil _ _ _ _)⟩
    case round =>
      obtain ⟨j, s, hj, rfl, rfl, hs, HP, KR, HO⟩ := hrel
      obtain ⟨A9, c9, rfl, -⟩ := HO.out.form
      have hsi : (s : Int) ≤ 65536 := by omega
      by_cases hlt : j < n
      · have hjn : (j : Int) < (n : Int) := by omega
        obtain ⟨o, ho⟩ : ∃ o, l[j]? = some o := ⟨_, List.getElem?_eq_getElem (by have := HN.out; omega)⟩
        have HOO := Lib.hid ho
        obtain ⟨ad, rfl, q1⟩ := (H.out.keep KR.out).cell ho (j := 1) (by decide) (by decide)
        have QQ := Lib.hid (fun (V : World) (k : Keeps w V) (i : Nat) (hi : i < 12) (h0 : 0 < i) => show V.cell? ⟨(ad.add (j * 12)).block, (ad.add (j * 12)).off + i, none⟩ = (op8C o)[i]? by
          obtain ⟨ad', e, q⟩ := (H.out.keep k).cell ho hi h0
          obtain rfl := Option.some.inj e
          exact q)
        have q3 := QQ.out _ KR.out 3 (by decide) (by decide)
        have r0 := QQ.out _ KR.out 4 (by decide) (by decide)
        have r1 := QQ.out _ KR.out 5 (by decide) (by decide)
        have r2 := QQ.out _ KR.out 6 (by decide) (by decide)
        have r3 := QQ.out _ KR.out 7 (by decide) (by decide)
        have r4 := QQ.out _ KR.out 8 (by decide) (by decide)
        have r5 := QQ.out _ KR.out 9 (by decide) (by decide)
        have r6 := QQ.out _ KR.out 10 (by decide) (by decide)
        have r7 := QQ.out _ KR.out 11 (by decide) (by decide)
        simp only [op8C, opC, List.cons_append, List.nil_append, List.getElem?_cons_zero, List.getElem?_cons_succ] at q1 q3 r0 r1 r2 r3 r4 r5 r6 r7
        have KA := Lib.hid (keeps_trans KR.out (keeps_alloc wr (.cells (opC o.d).toArray 83)))
        have O4 := Lib.hid (HO.out.keep (keeps_alloc wr (.cells (opC o.d).toArray 83)))
        have AT := Lib.hid (At.new wr (opC o.d) 83 (wr.heap.size + 1) (Nat.lt_succ_self _))
        have hs2 := Lib.hid KA.out.size
        have hwf : o.len ≤ o.c := (H.out.ok o (List.mem_of_getElem? ho)).c
        obtain ⟨x3, hx3⟩ : ∃ x, min o.len 131072 = x := ⟨_, rfl⟩
        obtain ⟨x1, hx1⟩ : ∃ x, min o.name.length 131072 = x := ⟨_, rfl⟩
        have m3 := min_nat o.len
        have m1 := min_nat o.name.length
        rw [hx3] at m3
        rw [hx1] at m1
        have X3 := Lib.hid hx3
        have X1 := Lib.hid hx1
        have b3 : (x3 : Int) ≤ 131072 := by omega
        have b1 : (x1 : Int) ≤ 131072 := by omega
        have OC := Lib.hid (opC_one o.d)
        have OL := Lib.hid (show (opC o.d).length = 1 * 8 from rfl)
        clear ho hx3 hx1 hwf
        unfold opC strV at *
        go_wp2_with (at_builtin; refine wpList_app _ rfl _ _ 134 rfl w.heap.size 83 i0 _ 8 112 Tryz.underlying134 hi hz0 hz1 hz2 rfl (by decide) _ j _ rfl O4.out _ (some ⟨wr.heap.size, 0, none⟩) 1 1 _ rfl OL.out AT.out OC.out (by unfold maxLen; omega) (by omega) hs2.out ?_; intro v5 w5 hown5 hg5 hb5; have K5 := Lib.hid (show Keeps w w5 from Below.grown KA.out hg5 hs2.out (fun g hg => (O4.out.lt g hg).1)); have O5 := Lib.hid hown5; have p1 := QQ.out _ K5.out 1 (by decide) (by decide); have p3 := QQ.out _ K5.out 3 (by decide) (by decide); simp only [op8C, opC, strV, List.cons_append, List.nil_append, List.getElem?_cons_zero, List.getElem?_cons_succ] at p1 p3; have z1 := str_size o.name; clear hown5 hg5 hb5)
        generalize str o.name = s1 at *
        clear q1 q3 r0 r1 r2 r3 r4 r5 r6 r7 KA O4 AT hs2 OL OC
        go_quiet (fail)
        have k6 := Lib.hid (keeps_trans K5.out (keeps_drewN w5 nq))
        have O6 := Lib.hid (O5.out.keep (keeps_drewN w5 nq))
        generalize w5.drewN nq = w6 at *
        have k2 := k6
        by_cases big : 65536 < s + x3 + x1
        · have hbig : (65536 : Int) < (s : Int) + x3 + x1 := by omega
          clear big
          go_wp2_with fail
          go_ret
          exact ⟨true, rfl, k2.out, fun h => by cases h⟩
        · have hbig : (s : Int) + x3 + x1 ≤ 65536 := by omega
          obtain ⟨t, ht⟩ : ∃ t, s + x3 + x1 = t := ⟨_, rfl⟩
          have hti : (s : Int) + x3 + x1 = (t : Int) := by omega
          rw [hti] at hbig
          have ht2 : t ≤ 65536 := by omega
          have NX := Lib.hid (show ∀ o ∈ l.take (j + 1), o.len ≤ 65536 ∧ o.name.length ≤ 65536 by
            intro o' ho'
            rw [List.take_add_one, HOO.out, List.mem_append] at ho'
            rcases ho' with h | h
            · exact HP.out o' h
            · obtain rfl : o' = o := by simpa using h
              have := X3.out; have := X1.out
              omega)
          have NO := Lib.hid (show Own w6 w.heap.size 83 8 v5 (j + 1) ((l.take (j + 1)).flatMap fun o => opC o.d) by
            have e : (l.take (j + 1)).flatMap (fun o => opC o.d) = (l.take j).flatMap (fun o => opC o.d) ++ opC o.d := by
              rw [List.take_add_one, HOO.out, List.flatMap_append]
              simp
            rw [e]
            exact O6.out)
          clear big
          have hbig2 : decide ((65536 : Int) < (t : Int)) = false := decide_eq_false (by omega)
          rw [hti]
          clear ht hti
          go_wp2_with fail
          go_roundw
          case rel => exact ⟨j + 1, t, by omega, by go_num, rfl, ht2, NX, k2, NO⟩
          case measure => simp [intOf]; omega
      · obtain rfl : n = j := by omega
        have VD := Lib.hid (vast_any A9 n c9 (l.map (·.d)) wr ⟨by
            have h1 := HO.out.at_
            rw [List.take_of_length_le (by have := HN.out; omega)] at h1
            rw [List.flatMap_map]
            exact h1, fun d hd => by
            obtain ⟨o, ho, rfl⟩ := List.mem_map.1 hd
            exact ((H.out.ok o ho).keep_ KR.out).d⟩ (by rw [List.length_map]; exact HN.out) (by omega))
        have FE := Lib.hid (show ∀ o ∈ l, o.len ≤ 65536 ∧ o.name.length ≤ 65536 by
          have := HP.out
          rwa [List.take_of_length_le (by have := HN.out; omega)] at this)
        clear hlt hj
        go_wp2_with fail
        refine VD.out.mono ?_
        rintro e w9 ⟨v, rfl, k9, hv⟩
        go_wp2_with fail
        go_ret
        exact ⟨v, rfl, keeps_trans KR.out k9, fun e => ⟨by have := HN.out; omega, FE.out, hv e⟩⟩
end Go.Proofs.YtkhfffflegiapaaGreatDoor
/- What is done with the disk itself. (Written by mkraw.py.) -/
namespace Go.Proofs.YtkhfffflegiapaaGreatDoor
open Go.RowKit
set_option linter.unusedSimpArgs false
set_option linter.unusedVariables false
set_option maxRecDepth 100000

/-- what is done with the disk itself -/
def rawS (s : Ds) (o : Opx) : Ds × Nat :=
  if o.kind = 1 then removeS s o.name else if o.kind = 3 then writeS s o.name o.off o.b else if o.kind = 4 then cutS s o.name o.off else if o.kind = 8 then quotaS s o.n
  else if o.kind = 9 then armS s o.n else if o.kind = 10 then onS s o.keep else if o.kind = 11 then flipS s o.name o.off o.mask else (s, 0)
section
variable {K : DiskOk} {w0 w : World} {b : Nat} {F : Nat → Prop} {s : Ds}
set_option maxHeartbeats 4000000 in
theorem raw_remove (h : Have K w0 w b F s) (hZ : K.Z w0) (o : OpS) (ho : OpOk w0 o) (hk : o.x.kind = 1) :
    Calls Tryz.prog 73 #[.pointer (some ⟨b, 0, none⟩), .agg (opA o)] w (WentU K w0 w b F (rawS s o.x).1 (rawS s o.x).2) := by
  have kW := keeps_alloc w (.cells (opA o) 83)
  have hw := h.keep kW
  have e : rawS s o.x = removeS s o.x.name := by unfold rawS; rw [hk]; rfl
  rw [e]
  have C := Lib.hid (hw.went (s' := (removeS s o.x.name).1) (E := (removeS s o.x.name).2) rfl (K.remove o.x.name (hw.z hZ) hw.D ho.nm))
  have KW := Lib.hid kW
  generalize (removeS s o.x.name).1 = s' at *
  generalize (removeS s o.x.name).2 = E at *
  unfold opA dpt strV at *
  rw [hk] at *
  clear h hZ ho hw kW e
  go_enter Tryz.func73, Tryz.ntmps73
  go_wp2_with fail
  refine C.out.mono ?_
  rintro e w2 ⟨rfl, F2, h2, t2⟩
  go_wp2_with fail
  go_ret
  exact ⟨rfl, F2, h2, (Turns.of_keeps KW.out).trans t2⟩
set_option maxHeartbeats 4000000 in
theorem raw_cut (h : Have K w0 w b F s) (hZ : K.Z w0) (o : OpS) (ho : OpOk w0 o) (hk : o.x.kind = 4) :
    Calls Tryz.prog 73 #[.pointer (some ⟨b, 0, none⟩), .agg (opA o)] w (WentU K w0 w b F (rawS s o.x).1 (rawS s o.x).2) := by
  have kW := keeps_alloc w (.cells (opA o) 83)
  have hw := h.keep kW
  have e : rawS s o.x = cutS s o.x.name o.x.off := by unfold rawS; rw [hk]; rfl
  rw [e]
  have C := Lib.hid (hw.went (s' := (cutS s o.x.name o.x.off).1) (E := (cutS s o.x.name o.x.off).2) rfl (K.cut o.x.name o.x.off (hw.z hZ) hw.D ho.nm ho.off.1 ho.off.2))
  have KW := Lib.hid kW
  generalize (cutS s o.x.name o.x.off).1 = s' at *
  generalize (cutS s o.x.name o.x.off).2 = E at *
  unfold opA dpt strV at *
  rw [hk] at *
  clear h hZ ho hw kW e
  go_enter Tryz.func73, Tryz.ntmps73
  go_wp2_with fail
  refine C.out.mono ?_
  rintro e w2 ⟨rfl, F2, h2, t2⟩
  go_wp2_with fail
  go_ret
  exact ⟨rfl, F2, h2, (Turns.of_keeps KW.out).trans t2⟩
set_option maxHeartbeats 4000000 in
theorem raw_quota (h : Have K w0 w b F s) (hZ : K.Z w0) (o : OpS) (ho : OpOk w0 o) (hk : o.x.kind = 8) :
    Calls Tryz.prog 73 #[.pointer (some ⟨b, 0, none⟩), .agg (opA o)] w (WentU K w0 w b F (rawS s o.x).1 (rawS s o.x).2) := by
  have kW := keeps_alloc w (.cells (opA o) 83)
  have hw := h.keep kW
  have e : rawS s o.x = quotaS s o.x.n := by unfold rawS; rw [hk]; rfl
  rw [e]
  have C := Lib.hid (hw.went (s' := (quotaS s o.x.n).1) (E := (quotaS s o.x.n).2) rfl (K.quota o.x.n (hw.z hZ) hw.D ho.n.1 ho.n.2))
  have KW := Lib.hid kW
  generalize (quotaS s o.x.n).1 = s' at *
  generalize (quotaS s o.x.n).2 = E at *
  unfold opA dpt strV at *
  rw [hk] at *
  clear h hZ ho hw kW e
  go_enter Tryz.func73, Tryz.ntmps73
  go_wp2_with fail
  refine C.out.mono ?_
  rintro e w2 ⟨rfl, F2, h2, t2⟩
  go_wp2_with fail
  go_ret
  exact ⟨rfl, F2, h2, (Turns.of_keeps KW.out).trans t2⟩
set_option maxHeartbeats 4000000 in
theorem raw_arm (h : Have K w0 w b F s) (hZ : K.Z w0) (o : OpS) (ho : OpOk w0 o) (hk : o.x.kind = 9) :
    Calls Tryz.prog 73 #[.pointer (some ⟨b, 0, none⟩), .agg (opA o)] w (WentU K w0 w b F (rawS s o.x).1 (rawS s o.x).2) := by
  have kW := keeps_alloc w (.cells (opA o) 83)
  have hw := h.keep kW
  have e : rawS s o.x = armS s o.x.n := by unfold rawS; rw [hk]; rfl
  rw [e]
  have C := Lib.hid (hw.went (s' := (armS s o.x.n).1) (E := (armS s o.x.n).2) rfl (K.arm o.x.n (hw.z hZ) hw.D ho.n.1 ho.n.2))
  have KW := Lib.hid kW
  generalize (armS s o.x.n).1 = s' at *
  generalize (armS s o.x.n).2 = E at *
  unfold opA dpt strV at *
  rw [hk] at *
  clear h hZ ho hw kW e
  go_enter Tryz.func73, Tryz.ntmps73
  go_wp2_with fail
  refine C.out.mono ?_
  rintro e w2 ⟨rfl, F2, h2, t2⟩
  go_wp2_with fail
  go_ret
  exact ⟨rfl, F2, h2, (Turns.of_keeps KW.out).trans t2⟩
set_option maxHeartbeats 4000000 in
theorem raw_flip (h : Have K w0 w b F s) (hZ : K.Z w0) (o : OpS) (ho : OpOk w0 o) (hk : o.x.kind = 11) :
    Calls Tryz.prog 73 #[.pointer (some ⟨b, 0, none⟩), .agg (opA o)] w (WentU K w0 w b F (rawS s o.x).1 (rawS s o.x).2) := by
  have kW := keeps_alloc w (.cells (opA o) 83)
  have hw := h.keep kW
  have e : rawS s o.x = flipS s o.x.name o.x.off o.x.mask := by unfold rawS; rw [hk]; rfl
  rw [e]
  have C := Lib.hid (hw.went (s' := (flipS s o.x.name o.x.off o.x.mask).1) (E := (flipS s o.x.name o.x.off o.x.mask).2) rfl (K.flip o.x.name o.x.off o.x.mask (hw.z hZ) hw.D ho.nm ho.off.1 ho.off.2))
  have KW := Lib.hid kW
  generalize (flipS s o.x.name o.x.off o.x.mask).1 = s' at *
  generalize (flipS s o.x.name o.x.off o.x.mask).2 = E at *
  unfold opA dpt strV at *
  rw [hk] at *
  clear h hZ ho hw kW e
  go_enter Tryz.func73, Tryz.ntmps73
  go_wp2_with fail
  refine C.out.mono ?_
  rintro e w2 ⟨rfl, F2, h2, t2⟩
  go_wp2_with fail
  go_ret
  exact ⟨rfl, F2, h2, (Turns.of_keeps KW.out).trans t2⟩
set_option maxHeartbeats 8000000 in
theorem raw_write (h : Have K w0 w b F s) (hZ : K.Z w0) (o : OpS) (ho : OpOk w0 o) (hm : o.len ≤ 70000) (hk : o.x.kind = 3) :
    Calls Tryz.prog 73 #[.pointer (some ⟨b, 0, none⟩), .agg (opA o)] w (WentU K w0 w b F (rawS s o.x).1 (rawS s o.x).2) := by
  have kW := keeps_alloc w (.cells (opA o) 83)
  have hw := h.keep kW
  have e : rawS s o.x = writeS s o.x.name o.x.off o.x.b := by unfold rawS; rw [hk]; rfl
  rw [e]
  have CP := Lib.hid (fun (V : World) (kk : Keeps (w.alloc (.cells (opA o) 83)) V) => copyBytes_any o.A o.len o.c o.x.b V (ho.b.low (keeps_trans h.kp (keeps_trans kW kk))) ho.len (by unfold maxLen; omega))
  have WR := Lib.hid (fun (V V2 : World) (kk : Keeps (w.alloc (.cells (opA o) 83)) V) (k2 : Keeps V V2) (A3 : Option Addr) (c3 : Nat) (oo : Own V2 V.heap.size 5 1 (.slice A3 o.x.b.length c3) o.x.b.length (cel o.x.b)) =>
    (hw.keep (keeps_trans kk k2)).went (s' := (writeS s o.x.name o.x.off o.x.b).1) (E := (writeS s o.x.name o.x.off o.x.b).2) rfl (K.write o.x.name o.x.off A3 o.x.b.length c3 o.x.b ((hw.keep (keeps_trans kk k2)).z hZ) (hw.keep (keeps_trans kk k2)).D ho.nm ho.off.1 ho.off.2 oo.at_ (fun ad ha hf => by
      obtain ⟨A', c', hv, hc', hm', -, hb'⟩ := oo.form
      injection hv with h3 h4 h5
      subst h3
      have h6 := (hb' ad ha).2.1
      have h7 := K.lt (hw.keep kk).D _ hf
      omega) rfl (by obtain ⟨A', c', hv, hc', -⟩ := oo.form; injection hv with h3 h4 h5; subst h5; exact hc') (by have := ho.len; omega)))
  have BX := Lib.hid (Box.new w 83 (opA o))
  have CC := Lib.hid (fun (V : World) (kk : Keeps (w.alloc (.cells (opA o) 83)) V) => And.intro ((BX.out.keep kk).cell 1 rfl) (And.intro ((BX.out.keep kk).cell 3 rfl) ((BX.out.keep kk).cell 5 rfl)))
  have KW := Lib.hid kW
  have LB := Lib.hid ho.len
  generalize (writeS s o.x.name o.x.off o.x.b).1 = s' at *
  generalize (writeS s o.x.name o.x.off o.x.b).2 = E at *
  unfold opA dpt strV at *
  rw [hk] at *
  clear h hZ ho hw kW e
  go_enter Tryz.func73, Tryz.ntmps73
  go_wp2_with fail
  obtain ⟨y1, y3, y5⟩ := CC.out _ (keeps_drew _)
  simp only [List.getElem?_toArray, List.getElem_toArray, List.getElem_cons_zero, List.getElem_cons_succ] at y1 y3 y5
  go_region_with (first
    | (go_at_call 43; refine (CP.out _ (keeps_drew _)).mono ?_; rintro ee w3 ⟨v3, rfl, o3, k3⟩; obtain ⟨A3, c3, rfl, -⟩ := o3.form; obtain ⟨z1, z3, z5⟩ := CC.out _ (keeps_trans (keeps_drew _) k3))
    | (go_at_call 105; refine (WR.out _ _ (keeps_drew _) k3 A3 c3 o3).mono ?_; rintro ee w4 ⟨rfl, F4, h4, t4⟩))
  all_goals
    go_wp2_with fail
    go_ret
    exact ⟨rfl, F4, h4, (Turns.of_keeps (keeps_trans KW.out (keeps_trans (keeps_drew _) k3))).trans t4⟩
set_option maxHeartbeats 8000000 in
theorem raw_on (h : Have K w0 w b F s) (hZ : K.Z w0) (o : OpS) (ho : OpOk w0 o) (hm : o.len2 ≤ 70000) (hk : o.x.kind = 10) :
    Calls Tryz.prog 73 #[.pointer (some ⟨b, 0, none⟩), .agg (opA o)] w (WentU K w0 w b F (rawS s o.x).1 (rawS s o.x).2) := by
  have kW := keeps_alloc w (.cells (opA o) 83)
  have hw := h.keep kW
  have e : rawS s o.x = onS s o.x.keep := by unfold rawS; rw [hk]; rfl
  rw [e]
  obtain ⟨i0, hi, hz0, hz1, hz2⟩ := info_parts infoI8
  have ON := Lib.hid (fun (V V2 : World) (kk : Keeps (w.alloc (.cells (opA o) 83)) V) (k2 : Keeps V V2) (A3 : Option Addr) (c3 : Nat) (oo : Own V2 V.heap.size 3 1 (.slice A3 o.len2 c3) o.len2 (intC o.x.keep)) =>
    (hw.keep (keeps_trans kk k2)).went (s' := (onS s o.x.keep).1) (E := (onS s o.x.keep).2) rfl (K.on A3 o.len2 c3 o.x.keep ((hw.keep (keeps_trans kk k2)).z hZ) (hw.keep (keeps_trans kk k2)).D oo.at_ (fun ad ha hf => by
      obtain ⟨A', c', hv, hc', hm', -, hb'⟩ := oo.form
      injection hv with h3 h4 h5
      subst h3
      have h6 := (hb' ad ha).2.1
      have h7 := K.lt (hw.keep kk).D _ hf
      omega) ho.len2 (by obtain ⟨A', c', hv, hc', -⟩ := oo.form; injection hv with h3 h4 h5; subst h5; exact hc') hm))
  have hWs : (w.alloc (.cells (opA o) 83)).heap.size = w.heap.size + 1 := by simp
  have ke := Lib.hid (keeps_alloc (w.alloc (.cells (opA o) 83)) (.cells #[] 3))
  have KP := Lib.hid (ho.keep.low (keeps_trans h.kp (keeps_trans kW ke.out)))
  have O0 := Lib.hid (show Own ((w.alloc (.cells (opA o) 83)).alloc (.cells #[] 3)) (w.heap.size + 1) 3 1 (.slice (some ⟨w.heap.size + 1, 0, none⟩) 0 0) 0 [] from ⟨rfl, .inr ⟨w.heap.size + 1, 0, #[], (0, 0), rfl, Nat.le_refl _, by rw [← hWs]; exact heap_alloc_new _ _, .inl rfl, Nat.le_refl _, by simp [maxLen], rfl, rfl⟩⟩)
  have LB := Lib.hid ho.len2
  have KW := Lib.hid kW
  have HWS := Lib.hid hWs
  generalize (onS s o.x.keep).1 = s' at *
  generalize (onS s o.x.keep).2 = E at *
  unfold opA dpt strV at *
  rw [hk] at *
  clear h hZ ho hw kW e hWs
  go_enter Tryz.func73, Tryz.ntmps73
  go_wp2_with (at_builtin; refine wpList_app _ rfl _ _ 77 rfl (w.heap.size + 1) 3 i0 (.int .i64 0) 1 8 Tryz.underlying77 hi hz0 hz1 hz2 rfl (by decide) _ 0 [] rfl O0.out _ o.A2 o.len2 o.c2 (intC o.x.keep) rfl (by rw [intC_length, LB.out, Nat.mul_one]) KP.out (intC_one _) (by unfold maxLen; omega) (by omega) (by simp) ?_; intro v9 w9 hown9 hg9 hb9)
  have k9 := Below.grown ke.out hg9 ke.out.size (fun g hg => by have := (O0.out.lt g hg).1; rw [HWS.out]; exact this)
  have o9 : Own w9 (w.heap.size + 1) 3 1 v9 o.len2 (intC o.x.keep) := by have := hown9; rwa [Nat.zero_add] at this
  obtain ⟨A9, c9, rfl, -⟩ := o9.form
  refine (ON.out _ _ (keeps_refl _) k9 A9 c9 (by rw [HWS.out]; exact o9)).mono ?_
  rintro ee w4 ⟨rfl, F4, h4, t4⟩
  go_wp2_with fail
  go_ret
  exact ⟨rfl, F4, h4, (Turns.of_keeps (keeps_trans KW.out k9)).trans t4⟩
theorem raw_none (h : Have K w0 w b F s) (hZ : K.Z w0) (o : OpS) (ho : OpOk w0 o) (hk : o.x.kind ≠ 1 ∧ o.x.kind ≠ 3 ∧ o.x.kind ≠ 4 ∧ o.x.kind ≠ 8 ∧ o.x.kind ≠ 9 ∧ o.x.kind ≠ 10 ∧ o.x.kind ≠ 11) :
    Calls Tryz.prog 73 #[.pointer (some ⟨b, 0, none⟩), .agg (opA o)] w (WentU K w0 w b F (rawS s o.x).1 (rawS s o.x).2) := by
  have kW := keeps_alloc w (.cells (opA o) 83)
  have hw := h.keep kW
  have e : rawS s o.x = (s, 0) := by unfold rawS; rw [if_neg hk.1, if_neg hk.2.1, if_neg hk.2.2.1, if_neg hk.2.2.2.1, if_neg hk.2.2.2.2.1, if_neg hk.2.2.2.2.2.1, if_neg hk.2.2.2.2.2.2]
  rw [e]
  have hw2 := Lib.hid hw
  have KW := Lib.hid kW
  obtain ⟨k1, k3, k4, k8, k9, k10, k11⟩ := hk
  have b1 : (o.x.kind == 1) = false := by rw [beq_eq_false_iff_ne]; exact k1
  have b3 : (o.x.kind == 3) = false := by rw [beq_eq_false_iff_ne]; exact k3
  have b4 : (o.x.kind == 4) = false := by rw [beq_eq_false_iff_ne]; exact k4
  have b8 : (o.x.kind == 8) = false := by rw [beq_eq_false_iff_ne]; exact k8
  have b9 : (o.x.kind == 9) = false := by rw [beq_eq_false_iff_ne]; exact k9
  have b10 : (o.x.kind == 10) = false := by rw [beq_eq_false_iff_ne]; exact k10
  have b11 : (o.x.kind == 11) = false := by rw [beq_eq_false_iff_ne]; exact k11
  unfold opA strV at *
  clear h hZ ho hw kW e
  go_enter Tryz.func73, Tryz.ntmps73
  go_wp2_with fail
  go_ret
  exact ⟨rfl, F, hw2.out, Turns.of_keeps KW.out⟩
theorem raw_any (h : Have K w0 w b F s) (hZ : K.Z w0) (o : OpS) (ho : OpOk w0 o) (hm : o.len ≤ 70000) (hm2 : o.len2 ≤ 70000) :
    Calls Tryz.prog 73 #[.pointer (some ⟨b, 0, none⟩), .agg (opA o)] w (WentU K w0 w b F (rawS s o.x).1 (rawS s o.x).2) := by
  by_cases h1 : o.x.kind = 1
  · exact raw_remove h hZ o ho h1
  by_cases h3 : o.x.kind = 3
  · exact raw_write h hZ o ho hm h3
  by_cases h4 : o.x.kind = 4
  · exact raw_cut h hZ o ho h4
  by_cases h8 : o.x.kind = 8
  · exact raw_quota h hZ o ho h8
  by_cases h9 : o.x.kind = 9
  · exact raw_arm h hZ o ho h9
  by_cases h10 : o.x.kind = 10
  · exact raw_on h hZ o ho hm2 h10
  by_cases h11 : o.x.kind = 11
  · exact raw_flip h hZ o ho h11
  · exact raw_none h hZ o ho ⟨h1, h3, h4, h8, h9, h10, h11⟩
end
end Go.Proofs.YtkhfffflegiapaaGreatDoor
