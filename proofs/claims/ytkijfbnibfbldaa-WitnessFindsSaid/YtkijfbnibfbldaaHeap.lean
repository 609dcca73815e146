/- The contracts of package heap: HeapOk. -/
import Derived.Test.YtkijfbnibfbldaaTree2
namespace Go.Proofs.Ytkijfbnibfbldaa
open Go.RowKit
set_option linter.unusedSimpArgs false
set_option linter.unusedVariables false
set_option maxRecDepth 100000

theorem TreeAt.len {w : World} {b n cap : Nat} {A : Option Addr} {l : List It} (h : TreeAt w b (.slice A n cap) l) : n = l.length := by
  rcases h.own.2 with ⟨e, e'⟩ | ⟨g', cap', cur, fz, e, _⟩
  · exact e'.symm ▸ (by injection e)
  · injection e
theorem TreeAt.some_ {w : World} {b n cap : Nat} {A : Option Addr} {l : List It} (h : TreeAt w b (.slice A n cap) l) (hl : 0 < l.length) : ∃ g, A = some ⟨g, 0, none⟩ := by
  obtain rfl := h.len
  obtain ⟨g, e, _⟩ := h.own.cell (j := 0) (by rw [flat_len]; omega)
  exact ⟨g, e⟩
theorem TreeAt.pushed {w : World} {b : Nat} {v : Value} {l : List It} {x : It} (h : TreeAt w b v l) {W w3 : World} (k : Keeps w W) {v' : Value} (hown : Own w3 0 71 2 v' (l.length + 1) (l.flatMap itC ++ itC x)) (hg : W.grownBy w3 v.ownBlock)
    (hblk : v'.ownBlock = v.ownBlock ∨ v'.ownBlock = some W.heap.size) : TreeAt (w3.setCell ⟨b, 0, none⟩ v') b v' (l ++ [x]) ∧ Turns w (w3.setCell ⟨b, 0, none⟩ v') (RS b v) (RS b v') := by
  have hne : v'.ownBlock ≠ some b := by
    rcases hblk with e | e
    · rw [e]; exact h.ne
    · rw [e]
      intro e
      have := h.box.lt
      have := k.size
      injection e with e
      omega
  have hrb : W.heap.size ≤ w3.heap.size := hg.size
  have hb : Box w3 b 94 #[v, .func (.func 41) #[] #[]] := (hg.block b (by have := h.box.lt; have := k.size; omega) (fun e => h.ne e.symm)).trans (h.box.keep k)
  refine ⟨⟨by simpa using hb.set 0 v', ?_, hne⟩, ⟨⟨hg.os.trans k.os, hg.tape.trans k.tape, hg.output.trans k.output, ?_, fun i hi hn => ?_⟩, fun i hi => ?_⟩⟩
  · have e : (l ++ [x]).flatMap itC = l.flatMap itC ++ itC x := by simp
    rw [e, List.length_append]
    exact hown.same fun g hgg => Below.heap_setCell _ ⟨b, 0, none⟩ _ g (fun e => hne (by rw [hgg, e]))
  · simp only [World.size_setCell]
    have := k.size
    omega
  · have h1 : i ≠ b := fun e => hn (.inl e)
    have h2 : ¬ some i = v.ownBlock := fun e => hn (.inr e.symm)
    rw [Below.heap_setCell _ ⟨b, 0, none⟩ _ i h1, hg.block i (by have := k.size; omega) h2]
    exact k.block i hi
  · rcases hi with rfl | hi
    · exact .inl (.inl rfl)
    · rcases hblk with e | e
      · exact .inl (.inr (by rw [← e]; exact hi))
      · rw [e] at hi
        injection hi with hi
        right
        have := k.size
        omega
theorem Turns.only_row {w w' w2 : World} {b g n cap n' cap' : Nat} {S : Nat → Prop} (h : Turns w w' S (RS b (.slice (some ⟨g, 0, none⟩) n cap))) (o : Only w' w2 (fun c => c = g)) : Turns w w2 S (RS b (.slice (some ⟨g, 0, none⟩) n' cap')) := by
  have e : ∀ i, RS b (.slice (some ⟨g, 0, none⟩) n' cap') i → RS b (.slice (some ⟨g, 0, none⟩) n cap) i := fun i hi => hi
  refine ⟨h.only.trans o (fun i hi => h.next i (.inr (by simp [Value.ownBlock, hi]))), fun i hi => h.next i (e i hi)⟩

set_option maxHeartbeats 4000000 in
theorem put_any {w : World} {b : Nat} {v : Value} {l : List It} (x : It) (h : TreeAt w b v l) (hl : l.length ≤ 65535) (ho : Ord l) :
    Calls Try.prog 48 #[.pointer (some ⟨b, 0, none⟩), .agg #[.int .u64 (x.k : Int), .int .u32 (x.i : Int)]] w fun e w' => ∃ v' m, e = .returned (.tuple #[]) ∧ TreeAt w' b v' m ∧ m.Perm (x :: l) ∧ Ord m ∧ Turns w w' (RS b v) (RS b v') := by
  obtain ⟨i0, hi, hz0, hz1, hz2⟩ := info_parts info_item
  obtain ⟨A, cap, rfl, _⟩ := h.own.form
  have k1 := keeps_alloc w (.cells #[.int .u64 (x.k : Int), .int .u32 (x.i : Int)] 71)
  have h1 := h.keep k1
  have BX := Box.new w 71 #[.int .u64 (x.k : Int), .int .u32 (x.i : Int)]
  have hrb := h.box.lt
  have HL := Lib.hid hl
  have HH := Lib.hid h1
  have H0 := Lib.hid h
  have HO := Lib.hid ho
  have K1 := Lib.hid k1
  clear hl h h1 k1 ho
  go_enter Try.func48, Try.ntmps48
  go_wp2_with fail
  have c1 := HH.out.box.cell 0 rfl
  have f1 := HH.out.box.frozen 0
  have l1 := HH.out.box.lt
  have x0 := BX.cell 0 rfl
  have x1 := BX.cell 1 rfl
  have xl := BX.lt
  generalize w.alloc (.cells #[.int .u64 (x.k : Int), .int .u32 (x.i : Int)] 71) = W0 at *
  go_region_law ((refine step_app rfl (.tmp 8) (.tmp 10) 90 rfl 0 71 i0 (.agg #[.int .u64 0, .int .u32 0]) 2 16 Try.underlying90 hi hz0 hz1 hz2 rfl (by decide) (.slice A l.length cap) l.length (l.flatMap itC) (by simp [Act.eval, Act.put]) (HH.out.own.keep (keeps_trans (keeps_drew _) (keeps_alloc _ _))) _ _ 1 1 (itC x) (by simp [Act.eval, Act.put]) rfl (At.new _ _ _ _ (Nat.lt_succ_self _)) (itC_one x) (by have := HL.out; unfold maxLen; omega) (by have := HL.out; omega) (Nat.zero_le _) ?_); intro v' w3 hown' hgrow hblk; obtain ⟨A', cap', rfl, -⟩ := hown'.form; have hb3 : Box w3 b 94 #[.slice A l.length cap, .func (.func 41) #[] #[]] := (hgrow.block b (by simp; omega) (fun e => HH.out.ne e.symm)).trans (HH.out.box.keep (keeps_trans (keeps_drew _) (keeps_alloc _ _))); have z0 := hb3.cell 0 rfl; have z1 := hb3.frozen 0)
  all_goals
    have FIN := TreeAt.pushed (x := x) H0.out (keeps_trans K1.out (keeps_trans (keeps_drew _) (keeps_alloc _ _))) hown' hgrow hblk
    clear hown' hgrow hblk hb3 z0 z1 c1 f1 x0 x1
    generalize w3.setCell ⟨b, 0, none⟩ (.slice A' (l.length + 1) cap') = w4 at *
    obtain ⟨T4, U4⟩ := FIN
    obtain ⟨g, rfl⟩ := T4.some_ (by rw [List.length_append, List.length_singleton]; omega)
    have R := Lib.hid (rise_any T4 (by rw [List.length_append, List.length_singleton]; have := HL.out; omega) (HO.out.push x))
    have q0 := T4.box.cell 0 rfl
    have UU := Lib.hid U4
    have hlx := HL.out
    have hw : wrap64 ((l.length : Int) + 1 - 1) = (l.length : Int) := by unfold wrap64; omega
    clear T4 U4
    go_wp2_with fail
    refine R.out.mono ?_
    rintro e w5 ⟨m, rfl, t5, p5, o5, n5⟩
    go_wp2_with fail
    go_returns
    exact ⟨_, m, rfl, t5, p5.trans (List.perm_append_singleton x l), o5, UU.out.only_row n5⟩

/-! ### Taking -/
theorem TreeAt.cut {w : World} {b g n cap : Nat} {l : List It} (h : TreeAt w b (.slice (some ⟨g, 0, none⟩) n cap) l) {k : Nat} (hk : k ≤ l.length) :
    TreeAt (w.setCell ⟨b, 0, none⟩ (.slice (some ⟨g, 0, none⟩) k cap)) b (.slice (some ⟨g, 0, none⟩) k cap) (l.take k) := by
  obtain rfl := h.len
  have hne : g ≠ b := fun e => h.ne (by simp [Value.ownBlock, e])
  refine ⟨by simpa using h.box.set 0 (.slice (some ⟨g, 0, none⟩) k cap), ?_, fun e => h.ne e⟩
  have o := h.own.cut_ hk
  rw [flat_take] at o
  rw [show (l.take k).length = k by rw [List.length_take]; omega]
  refine o.same fun c hc => ?_
  obtain rfl : g = c := by simpa [Value.ownBlock] using hc
  exact Below.heap_setCell _ ⟨b, 0, none⟩ _ g hne
theorem take_set_last (l : List It) (z : It) : (l.set (l.length - 1) z).take (l.length - 1) = l.take (l.length - 1) := by
  rw [List.take_set, List.set_eq_of_length_le]
  rw [List.length_take]
  omega
/-- the last place is emptied, and the row is one shorter -/
theorem TreeAt.dropped {w : World} {b g n cap : Nat} {l : List It} (h : TreeAt w b (.slice (some ⟨g, 0, none⟩) n cap) l) (hl : 0 < l.length) {k : Nat} (hk : k = l.length - 1) :
    TreeAt (((w.setCell ⟨g, k * 2, none⟩ (.int .u64 0)).setCell ⟨g, k * 2 + 1, none⟩ (.int .u32 0)).setCell ⟨b, 0, none⟩ (.slice (some ⟨g, 0, none⟩) k cap)) b (.slice (some ⟨g, 0, none⟩) k cap) (l.take (l.length - 1)) ∧
    Only w (((w.setCell ⟨g, k * 2, none⟩ (.int .u64 0)).setCell ⟨g, k * 2 + 1, none⟩ (.int .u32 0)).setCell ⟨b, 0, none⟩ (.slice (some ⟨g, 0, none⟩) k cap)) (fun c => c = g ∨ c = b) := by
  have p := h.put (j := k) (by omega) ⟨0, 0⟩
  have q := p.cut (k := k) (by rw [List.length_set]; omega)
  have e : (l.set k ⟨0, 0⟩).take k = l.take (l.length - 1) := by rw [hk]; exact take_set_last l _
  rw [e] at q
  refine ⟨q, ⟨rfl, rfl, rfl, by simp, fun i hi hn => ?_⟩⟩
  rw [Below.heap_setCell _ ⟨b, 0, none⟩ _ i (fun e => hn (.inr e)), Below.heap_setCell _ ⟨g, k * 2 + 1, none⟩ _ i (fun e => hn (.inl e)), Below.heap_setCell _ ⟨g, k * 2, none⟩ _ i (fun e => hn (.inl e))]

theorem take_none {w : World} {b : Nat} {v : Value} (h : TreeAt w b v []) :
    Calls Try.prog 45 #[.pointer (some ⟨b, 0, none⟩)] w fun e w' => e = .returned (.tuple #[.agg #[.int .u64 0, .int .u32 0], .bool false]) ∧ Keeps w w' := by
  obtain ⟨A, cap, rfl, _⟩ := h.own.form
  have c0 := h.box.cell 0 rfl
  have l0 := h.box.lt
  have kz := keeps_trans (keeps_alloc w (.cells #[.int .u64 0, .int .u32 0] 71)) (keeps_alloc (w.alloc (.cells #[.int .u64 0, .int .u32 0] 71)) (.cells #[.int .u64 0, .int .u32 0] 71))
  clear h
  go_enter Try.func45, Try.ntmps45
  go_wp2
  exact bodyPost_ret (v := .tuple #[.agg #[.int .u64 0, .int .u32 0], .bool false]) (by simp [results, Try.results45, go_sem]) rfl ⟨rfl, kz⟩

set_option maxHeartbeats 4000000 in
theorem take_some {w : World} {b : Nat} {v : Value} {l : List It} (h : TreeAt w b v l) (hl : l.length ≤ 65536) (hpos : 0 < l.length) (ho : Ord l) :
    Calls Try.prog 45 #[.pointer (some ⟨b, 0, none⟩)] w fun e w' => ∃ v' m, e = .returned (.tuple #[.agg #[.int .u64 ((it l 0).k : Int), .int .u32 ((it l 0).i : Int)], .bool true]) ∧ TreeAt w' b v' m ∧ (it l 0 :: m).Perm l ∧ Ord m ∧ Turns w w' (RS b v) (RS b v') := by
  obtain ⟨A, cap, rfl, hcap, _⟩ := h.own.form
  obtain ⟨g, rfl⟩ := h.some_ hpos
  have H := Lib.hid h
  have HP := Lib.hid hpos
  have HL := Lib.hid hl
  have HO := Lib.hid ho
  have c0 := h.box.cell 0 rfl
  have lb := h.box.lt
  have lg := (h.own.lt g rfl).2
  have hz : ((l.length : Int) == 0) = false := by rw [beq_eq_false_iff_ne]; omega
  have hp1 : (0 : Int) < (l.length : Int) := by omega
  have hp2 : 0 < l.length := hpos
  obtain ⟨⟨a0, a1⟩, -, -⟩ := own_item h.own (it_get hpos)
  obtain ⟨x, hx⟩ : ∃ x, it l 0 = x := ⟨_, rfl⟩
  rw [hx] at a0 a1 ⊢
  rw [Nat.zero_mul] at a0 a1
  rw [Nat.zero_add] at a1
  have HX := Lib.hid hx
  obtain ⟨k, hk⟩ : ∃ k, k = l.length - 1 := ⟨_, rfl⟩
  have hk1 : wrap64 ((l.length : Int) - 1) = (k : Int) := by unfold wrap64; omega
  have HK := Lib.hid hk
  have kz := keeps_trans (keeps_trans (keeps_alloc w (.cells #[.int .u64 0, .int .u32 0] 71)) (keeps_alloc _ (.cells #[.int .u64 0, .int .u32 0] 71))) (keeps_alloc _ (.cells #[.int .u64 (x.k : Int), .int .u32 (x.i : Int)] 71))
  have c3 := (h.keep kz).box.cell 0 rfl
  have SW := Lib.hid (swap_any (i := 0) (j := k) (h.keep kz) hpos (by omega))
  have KZ := Lib.hid kz
  have B0 := Lib.hid ((Box.new w 71 #[.int .u64 0, .int .u32 0]).keep (keeps_trans (keeps_alloc _ (.cells #[.int .u64 0, .int .u32 0] 71)) (keeps_alloc _ (.cells #[.int .u64 (x.k : Int), .int .u32 (x.i : Int)] 71))))
  have B1 := Lib.hid ((Box.new (w.alloc (.cells #[.int .u64 0, .int .u32 0] 71)) 71 #[.int .u64 0, .int .u32 0]).keep (keeps_alloc _ (.cells #[.int .u64 (x.k : Int), .int .u32 (x.i : Int)] 71)))
  have B2 := Lib.hid (Box.new ((w.alloc (.cells #[.int .u64 0, .int .u32 0] 71)).alloc (.cells #[.int .u64 0, .int .u32 0] 71)) 71 #[.int .u64 (x.k : Int), .int .u32 (x.i : Int)])
  have s1 : (w.alloc (.cells #[.int .u64 0, .int .u32 0] 71)).heap.size = w.heap.size + 1 := by simp
  have s2 : ((w.alloc (.cells #[.int .u64 0, .int .u32 0] 71)).alloc (.cells #[.int .u64 0, .int .u32 0] 71)).heap.size = w.heap.size + 1 + 1 := by simp
  rw [s1] at B1
  rw [s2] at B2
  clear h hl hpos ho hx hk kz s1 s2
  go_enter Try.func45, Try.ntmps45
  go_wp2_with fail
  generalize ((w.alloc (.cells #[.int .u64 0, .int .u32 0] 71)).alloc (.cells #[.int .u64 0, .int .u32 0] 71)).alloc (.cells #[.int .u64 (x.k : Int), .int .u32 (x.i : Int)] 71) = W3 at *
  clear c0 c3 a0 a1
  refine SW.out.mono ?_
  rintro e w4 ⟨rfl, t4, o4⟩
  have hkl : k < l.length := by have := HK.out; omega
  have ng0 : w.heap.size ≠ g := by omega
  have ng1 : w.heap.size + 1 ≠ g := by omega
  have ng2 : w.heap.size + 1 + 1 ≠ g := by omega
  have nb0 : w.heap.size ≠ b := by omega
  have nb1 : w.heap.size + 1 ≠ b := by omega
  have nb2 : w.heap.size + 1 + 1 ≠ b := by omega
  have ngb : g ≠ b := fun e => H.out.ne (by simp [Value.ownBlock, e])
  have C0 : Box w4 w.heap.size 71 #[.int .u64 0, .int .u32 0] := (o4.block _ B0.out.lt ng0).trans B0.out
  have C1 : Box w4 (w.heap.size + 1) 71 #[.int .u64 0, .int .u32 0] := (o4.block _ B1.out.lt ng1).trans B1.out
  have C2 : Box w4 (w.heap.size + 1 + 1) 71 #[.int .u64 (x.k : Int), .int .u32 (x.i : Int)] := (o4.block _ B2.out.lt ng2).trans B2.out
  have e4 : TreeAt w4 b (.slice (some ⟨g, 0, none⟩) l.length cap) (sw l 0 k) := t4
  obtain ⟨T5, O5⟩ := e4.dropped (k := k) (by rw [sw_length]; omega) (by rw [sw_length]; exact HK.out)
  have c0 := e4.box.cell 0 rfl
  have f0 := e4.box.frozen 0
  have lb4 := e4.box.lt
  have n0 := C1.cell 0 rfl
  have n1 := C1.cell 1 rfl
  have l4 := C1.lt
  have ow : Own w4 0 71 2 (.slice (some ⟨g, 0, none⟩) l.length cap) l.length ((sw l 0 k).flatMap itC) := by
    have := e4.own
    rwa [sw_length] at this
  obtain ⟨⟨d0, d1⟩, fd0, fd1⟩ := own_item ow (it_get (by rw [sw_length]; exact hkl))
  have lg4 : g < w4.heap.size := (ow.lt g rfl).2
  have hk2 : (0 : Int) ≤ (k : Int) := by omega
  have hk3 : (k : Int) < (l.length : Int) := by omega
  have hk4 : (k : Int) ≤ (cap : Int) := by omega
  have E4 := Lib.hid e4
  have O4 := Lib.hid o4
  have TO := Lib.hid (And.intro T5 O5)
  have CC := Lib.hid (And.intro C0 (And.intro C1 C2))
  clear t4 o4 e4 T5 O5 C0 C1 C2 ow
  go_wp2_with fail
  go_region
  all_goals
    go_wp2_with fail
    clear c0 f0 n0 n1 d0 d1 fd0 fd1
    generalize ((w4.setCell ⟨g, k * 2, none⟩ (.int .u64 0)).setCell ⟨g, k * 2 + 1, none⟩ (.int .u32 0)).setCell ⟨b, 0, none⟩ (.slice (some ⟨g, 0, none⟩) k cap) = w5 at *
    have kd := keeps_drew w5
    obtain ⟨T5, O5⟩ := TO.out
    have ec : (sw l 0 k).take ((sw l 0 k).length - 1) = cutL l := by rw [sw_length, HK.out]; rfl
    rw [ec] at T5
    have SK := Lib.hid (sink_any (T5.keep kd) (by rw [cutL_length]; have := HL.out; omega) (HO.out.cut))
    have D0 : Box w5.drew w.heap.size 71 #[.int .u64 0, .int .u32 0] := Box.keep ((O5.block _ CC.out.1.lt (by omega)).trans CC.out.1) kd
    have D2 : Box w5.drew (w.heap.size + 1 + 1) 71 #[.int .u64 (x.k : Int), .int .u32 (x.i : Int)] := Box.keep ((O5.block _ CC.out.2.2.lt (by omega)).trans CC.out.2.2) kd
    generalize w5.drew = w6 at *
    refine SK.out.mono ?_
    rintro e w7 ⟨m, rfl, t7, p7, o7, n7⟩
    have E0 : Box w7 w.heap.size 71 #[.int .u64 0, .int .u32 0] := (n7.block _ D0.lt ng0).trans D0
    have E2 : Box w7 (w.heap.size + 1 + 1) 71 #[.int .u64 (x.k : Int), .int .u32 (x.i : Int)] := (n7.block _ D2.lt ng2).trans D2
    have x0 := E2.cell 0 rfl
    have x1 := E2.cell 1 rfl
    have y0 := E0.cell 0 rfl
    have y1 := E0.cell 1 rfl
    have g0 := E0.frozen 0
    have g1 := E0.frozen 1
    have le0 := E0.lt
    have le2 := E2.lt
    have E0' := Lib.hid ((E0.set 0 (.int .u64 (x.k : Int))).set 1 (.int .u32 (x.i : Int)))
    have FIN := Lib.hid (show TreeAt ((w7.setCell ⟨w.heap.size, 0, none⟩ (.int .u64 (x.k : Int))).setCell ⟨w.heap.size, 1, none⟩ (.int .u32 (x.i : Int))) b (.slice (some ⟨g, 0, none⟩) k cap) m ∧ Turns w ((w7.setCell ⟨w.heap.size, 0, none⟩ (.int .u64 (x.k : Int))).setCell ⟨w.heap.size, 1, none⟩ (.int .u32 (x.i : Int))) (RS b (.slice (some ⟨g, 0, none⟩) l.length cap)) (RS b (.slice (some ⟨g, 0, none⟩) k cap)) from by
      have hs : ∀ i, i ≠ w.heap.size → ((w7.setCell ⟨w.heap.size, 0, none⟩ (.int .u64 (x.k : Int))).setCell ⟨w.heap.size, 1, none⟩ (.int .u32 (x.i : Int))).heap[i]? = w7.heap[i]? := fun i hi => by
        rw [Below.heap_setCell _ ⟨w.heap.size, 1, none⟩ _ i hi, Below.heap_setCell _ ⟨w.heap.size, 0, none⟩ _ i hi]
      refine ⟨t7.same fun c hc => hs c ?_, ?_⟩
      · rcases hc with rfl | hc
        · omega
        · have : g = c := by simpa [Value.ownBlock] using hc
          omega
      · have hU : ∀ c, (c = g ∨ c = b) → RS b (.slice (some ⟨g, 0, none⟩) l.length cap) c := fun c hc => by
          rcases hc with rfl | rfl
          · exact .inr rfl
          · exact .inl rfl
        have o1 : Only w W3 (RS b (.slice (some ⟨g, 0, none⟩) l.length cap)) := (Turns.of_keeps KZ.out).only
        have o2 := ((o1.trans O4.out (fun i hi => .inl (hU i (.inl hi)))).trans O5 (fun i hi => .inl (hU i hi))).keep kd
        have o3 := o2.trans n7 (fun i hi => .inl (hU i (.inl hi)))
        exact ⟨⟨o3.os, o3.tape, o3.output, by simpa using o3.size, fun i hi hn => (hs i (by omega)).trans (o3.block i hi hn)⟩, fun i hi => .inl hi⟩)
    clear D0 D2 E0 E2 T5 O5 kd
    go_wp2_with fail
    clear x0 x1 y0 y1 g0 g1
    have EE : Box ((w7.setCell ⟨w.heap.size, 0, none⟩ (.int .u64 (x.k : Int))).setCell ⟨w.heap.size, 1, none⟩ (.int .u32 (x.i : Int))) w.heap.size 71 #[.int .u64 (x.k : Int), .int .u32 (x.i : Int)] := by simpa using E0'.out
    have q0 := EE.cell 0 rfl
    have q1 := EE.cell 1 rfl
    obtain ⟨TF, UF⟩ := FIN.out
    clear EE
    generalize (w7.setCell ⟨w.heap.size, 0, none⟩ (.int .u64 (x.k : Int))).setCell ⟨w.heap.size, 1, none⟩ (.int .u32 (x.i : Int)) = w8 at *
    have PP : (x :: m).Perm l := by rw [← HX.out]; exact (p7.cons _).trans (cutL_perm HP.out)
    exact bodyPost_ret (v := .tuple #[.agg #[.int .u64 (x.k : Int), .int .u32 (x.i : Int)], .bool true]) (by simp [results, Try.results45, go_sem, q0, q1]) rfl ⟨_, m, rfl, TF, PP, o7, UF⟩
end Go.Proofs.Ytkijfbnibfbldaa
