/- Package witness: a search begins; the edges of a vertex are followed. (Written by mkwitf.py.) -/
import Derived.Test.YtkijfbnibfbldaaWitE
import Derived.Test.YtkijfbnibfbldaaWeightCode
import Derived.Test.YtkijfbnibfbldaaEdges
import Derived.Shelf.Abstract
namespace Go.Proofs.Ytkijfbnibfbldaa
open Go.RowKit
set_option linter.unusedSimpArgs false
set_option linter.unusedVariables false
set_option maxRecDepth 100000

theorem comeW_first (v : Nat) : comeW [] v 0 = [(v, 0)] := rfl
/-- a search has begun -/
def BegD (K : HeapOk) (w : World) (v b : Nat) (w' : World) : Prop :=
  ∃ mb p Fh sv hp, SrAt K w' b mb p Fh sv hp [(v, 0)] [] ∧ Wait hp [(v, 0)] [] ∧ Keeps w w' ∧ ∀ i, SF b mb Fh sv i → w.heap.size ≤ i
set_option maxHeartbeats 8000000 in
theorem begin_any (K : HeapOk) (w : World) (v : Nat) (hv : v < 4294967296) :
    Calls Try.prog 29 #[.int .u32 (v : Int)] w fun e w' => ∃ b, e = .returned (.pointer (some ⟨b, 0, none⟩)) ∧ BegD K w v b w' := by
  have k1 := keeps_alloc w (.map #[] 0)
  have M1 := Lib.hid (MapW.new u32V u64V w)
  have NEW := Lib.hid (K.new (w.alloc (.map #[] 0)))
  have HV := Lib.hid hv
  have K1 := Lib.hid k1
  have hmm := @run_makeMap Try.prog
  clear hv k1
  go_enter Try.func29, Try.ntmps29
  go_wp2_with fail
  refine NEW.out.mono ?_
  rintro e w2 ⟨p, F, rfl, h2, hF, k2⟩
  have B3 := Box.new w2 77 #[.slice none 0 0, .map (some w.heap.size), .pointer (some p)]
  have k3 := keeps_alloc w2 (.cells #[.slice none 0 0, .map (some w.heap.size), .pointer (some p)] 77)
  have hs1 : (w.alloc (.map #[] 0)).heap.size = w.heap.size + 1 := World.size_alloc _ _
  have hs2 := k2.size
  have S3 : SrAt K (w2.alloc (.cells #[.slice none 0 0, .map (some w.heap.size), .pointer (some p)] 77)) w2.heap.size w.heap.size p F (.slice none 0 0) [] [] [] :=
    ⟨B3, Own.nil _ _ _ _, (M1.out.keep k2).keep k3, K.same h2 (fun i hi => k3.block i (K.lt h2 i hi)), fun e => by have := K.lt h2 _ e; omega, fun e => by have := hF _ e; omega, fun g hg => (by cases hg), by simp, fun v d h => (by cases h), by simp, by simp⟩
  have CM := Lib.hid (come_any S3 Wait.start v 0 HV.out (by decide) (by simp))
  have KK := Lib.hid (keeps_trans K1.out (keeps_trans k2 k3))
  have LOW := Lib.hid (show ∀ i, SF w2.heap.size w.heap.size F (.slice none 0 0) i → w.heap.size ≤ i from by
    rintro i (rfl | rfl | e | e)
    · omega
    · exact Nat.le_refl _
    · have := hF i e; omega
    · cases e)
  have lb3 := S3.box.lt
  clear h2 hF B3 S3 k2 k3 hs1 hs2
  go_wp2_with fail
  refine CM.out.mono ?_
  rintro e w4 ⟨rfl, p4, F4, hp4, S4, W4, T4⟩
  rw [comeW_first] at S4 W4
  have FIN := Lib.hid (show BegD K w v w2.heap.size w4 from ⟨w.heap.size, p4, F4, .slice none 0 0, hp4, S4, W4, T4.keeps KK.out (fun i hi => LOW.out i hi), fun i hi => by
    rcases T4.next i hi with e | e
    · exact LOW.out i e
    · exact Nat.le_trans KK.out.size e⟩)
  clear S4 W4 T4
  go_wp2_with fail
  go_ret
  exact ⟨_, rfl, FIN.out⟩

/-- the caller's functions, as a search uses them: J a D w: of these it was asked, in the blocks D it stands -/
structure Caller (o : Outs) (av : Nat → Bool) where
  go : Nat
  ro : Value
  ga : Nat
  ra : Value
  J : List Nat → (Nat → Prop) → World → Prop
  eo : ∀ args w, (callFunc go args).run Try.prog w = .ok (.enter go args) w
  ea : ∀ args w, (callFunc ga args).run Try.prog w = .ok (.enter ga args) w
  lt : ∀ {a D w}, J a D w → ∀ i, D i → i < w.heap.size
  same : ∀ {a D w w' T}, J a D w → Only w w' T → (∀ i, T i → ¬ D i) → J a D w'
  out : ∀ {a D w} (v : Nat), J a D w → v < 4294967296 → a.length ≤ 16 → Calls Try.prog go #[ro, .int .u32 (v : Int)] w fun e w' => ∃ D' A n c, e = .returned (.tuple #[.slice A n c, .int .i64 ((o v).1 : Int)]) ∧ J (a ++ [v]) D' w' ∧ Turns w w' D D' ∧
    n = (o v).2.length ∧ At w' w'.heap.size A (edsC (o v).2) ∧ ∀ ad, A = some ad → w.heap.size ≤ ad.block ∧ ad.block < w'.heap.size
  avoid : ∀ {a D w} (v : Nat), J a D w → v < 4294967296 → Calls Try.prog ga #[ra, .int .u32 (v : Int)] w fun e w' => e = .returned (.bool (av v)) ∧ Keeps w w'
  ok : ∀ v, v < 4294967296 → (o v).2.length ≤ 1000000 ∧ ∀ e ∈ (o v).2, EdOk e
theorem Caller.keep {o : Outs} {av : Nat → Bool} (C : Caller o av) {a : List Nat} {D : Nat → Prop} {w w' : World} (h : C.J a D w) (k : Keeps w w') : C.J a D w' := C.same h (Only.of_keeps k) (fun _ e => e.elim)

/-- what follow leaves -/
def FolD (K : HeapOk) {o : Outs} {av : Nat → Bool} (C : Caller o av) (a : List Nat) (D : Nat → Prop) (w : World) (b mb : Nat) (Fh : Nat → Prop) (sv : Value) (S : List Nat) (W' : Wt) (w' : World) : Prop :=
  ComeD K w b mb Fh sv S W' w' ∧ C.J a D w'
theorem SF.not_ad' {b mb : Nat} {Fh F1 : Nat → Prop} {sv sv2 : Value} {w w' : World} (t : Turns w w' (SF b mb Fh sv) (SF b mb F1 sv2)) {D : Nat → Prop} (hD : ∀ i, SF b mb Fh sv i → ¬ D i) (hl : ∀ i, D i → i < w.heap.size) : ∀ i, SF b mb F1 sv2 i → ¬ D i := fun i hi e => by
  rcases t.next i hi with h | h
  · exact hD i h e
  · have := hl i e; omega
theorem SF.not_ad {b mb : Nat} {Fh F1 : Nat → Prop} {sv : Value} {w w' : World} (t : Turns w w' (SF b mb Fh sv) (SF b mb F1 sv)) {D : Nat → Prop} (hD : ∀ i, SF b mb Fh sv i → ¬ D i) (hl : ∀ i, D i → i < w.heap.size) : ∀ i, SF b mb F1 sv i → ¬ D i := fun i hi e => by
  rcases t.next i hi with h | h
  · exact hD i h e
  · have := hl i e; omega
theorem At.only {w w' : World} {A : Option Addr} {xs : List Value} (h : At w w.heap.size A xs) {T : Nat → Prop} (o : Only w w' T) (hn : ∀ ad, A = some ad → ¬ T ad.block) : At w' w'.heap.size A xs := by
  rcases h with h | ⟨ad, e, hb, hc⟩
  · exact .inl h
  · refine .inr ⟨ad, e, Nat.lt_of_lt_of_le hb o.size, fun j u hu => ?_⟩
    have hblk := o.block ad.block hb (hn ad e)
    have := hc j u hu
    have e2 : (ad.add j).block = ad.block := addr_block ad j
    unfold World.cell? at this ⊢
    rw [e2] at this ⊢
    rw [hblk]
    exact this

set_option maxHeartbeats 16000000 in
theorem follow_any {K : HeapOk} {o : Outs} {av : Nat → Bool} (C : Caller o av) {a : List Nat} {D : Nat → Prop} {w : World} {b mb : Nat} {p : Addr} {Fh : Nat → Prop} {sv : Value} {hp : List It} {W : Wt} {S : List Nat} (h : SrAt K w b mb p Fh sv hp W S) (hw : Wait hp W S) (hJ : C.J a D w) (hD : ∀ i, SF b mb Fh sv i → ¬ D i)
    (A : Option Addr) (n c : Nat) (l : List Ed) (d : Nat) (hA : At w w.heap.size A (edsC l)) (hn : n = l.length) (hm : l.length ≤ 1000000) (hok : ∀ e ∈ l, EdOk e) (hAd : ∀ ad, A = some ad → ¬ SF b mb Fh sv ad.block) (hd : d < 18446744073709551616) :
    Calls Try.prog 32 #[.pointer (some ⟨b, 0, none⟩), .slice A n c, .int .u64 (d : Int), .func (.func C.ga) #[C.ra] #[]] w fun e w' => e = .returned (.tuple #[]) ∧ FolD K C a D w b mb Fh sv S (folW av S d l W) w' := by
  obtain ⟨As, cs, rfl, _⟩ := h.own.form
  obtain ⟨ga, hga⟩ : ∃ ga, C.ga = ga := ⟨_, rfl⟩
  obtain ⟨ra, hra⟩ : ∃ ra, C.ra = ra := ⟨_, rfl⟩
  have ea : ∀ args w, (callFunc ga args).run Try.prog w = .ok (.enter ga args) w := by rw [← hga]; exact C.ea
  have AV := Lib.hid (fun (V : World) (v : Nat) (q : C.J a D V) (hv : v < 4294967296) => C.avoid v q hv)
  rw [hga, hra] at AV
  rw [hga, hra]
  have HH := Lib.hid h
  have HW := Lib.hid hw
  have HJ := Lib.hid hJ
  have HD := Lib.hid hD
  have HA := Lib.hid hA
  have HAD := Lib.hid hAd
  have HOK := Lib.hid hok
  have HM := Lib.hid hm
  have HDD := Lib.hid hd
  subst hn
  clear h hw hJ hD hA hAd hok hm hd hga hra
  go_enter Try.func32, Try.ntmps32
  go_wp2_with fail
  go_loopw [14] (fun t wr => ∃ (k : Nat) (p1 : Addr) (F1 : Nat → Prop) (hp1 : List It), k ≤ l.length ∧ t = .int .i64 (k : Int) ∧ SrAt K wr b mb p1 F1 (.slice As S.length cs) hp1 (folW av S d (l.take k) W) S ∧ Wait hp1 (folW av S d (l.take k) W) S ∧ Turns w wr (SF b mb Fh (.slice As S.length cs)) (SF b mb F1 (.slice As S.length cs)) ∧ C.J a D wr) (fun t _ => l.length - (intOf t).toNat)
  case atStart => exact ⟨0, p, Fh, hp, Nat.zero_le _, rfl, HH.out, HW.out, Turns.refl _ _, HJ.out⟩
  case round =>
    obtain ⟨k, p1, F1, hp1, hk, rfl, hS, hW, hT, hJ⟩ := hrel
    have S1 := Lib.hid hS
    have W1 := Lib.hid hW
    have T1 := Lib.hid hT
    have J1 := Lib.hid hJ
    have D1 := Lib.hid (SF.not_ad hT HD.out (C.lt HJ.out))
    clear hS hW hT hJ
    by_cases hlt : k < l.length
    · obtain ⟨e, he⟩ : ∃ e, l[k]? = some e := ⟨_, List.getElem?_eq_getElem hlt⟩
      have hAr := HA.out.only T1.out.only HAD.out
      obtain ⟨ad, hA, hadb, hE⟩ := eds_at hAr he
      have heok := HOK.out e (List.mem_of_getElem? he)
      have NXT := Lib.hid (show folW av S d (l.take (k + 1)) W = (if goB av S d e then comeW (folW av S d (l.take k) W) e.h (d + e.x) else folW av S d (l.take k) W) from by
        rw [List.take_add_one, he, Option.toList_some, folW_append]
        rfl)
      subst hA
      obtain ⟨et, eh, ex, em⟩ := e
      obtain ⟨q0, q1, q2, q3⟩ := hE
      simp only at q0 q1 q2 q3 heok NXT
      have hk1 : (k : Int) < (l.length : Int) := by omega
      have hk2 : (k : Int) < 1000001 := by have := HM.out; omega
      have HK := Lib.hid hlt
      have HE := Lib.hid heok
      have kx := keeps_alloc wr (.cells #[.int .u32 (et : Int), .int .u32 (eh : Int), .int .u64 (ex : Int), .int .u32 (em : Int)] 67)
      have BX := Lib.hid (Box.new wr 67 #[.int .u32 (et : Int), .int .u32 (eh : Int), .int .u64 (ex : Int), .int .u32 (em : Int)])
      have S2 := Lib.hid (S1.out.keep kx)
      have T2 := Lib.hid (T1.out.keep2 kx)
      have J2 := Lib.hid (C.keep J1.out kx)
      clear he hlt hk heok hAr kx
      cases hav : av eh with
      | true =>
        have SD := Lib.hid (fun (V : World) (kk : Keeps (wr.alloc (.cells #[.int .u32 (et : Int), .int .u32 (eh : Int), .int .u64 (ex : Int), .int .u32 (em : Int)] 67)) V) => show V.cell? ⟨b, 0, none⟩ = some (.slice As S.length cs) ∧ V.cell? ⟨wr.heap.size, 1, none⟩ = some (.int .u32 (eh : Int)) from ⟨(S2.out.keep kk).box.cell 0 rfl, (BX.out.keep kk).cell 1 rfl⟩)
        have AVC := Lib.hid (fun (V : World) (kk : Keeps (wr.alloc (.cells #[.int .u32 (et : Int), .int .u32 (eh : Int), .int .u64 (ex : Int), .int .u32 (em : Int)] 67)) V) => AV.out V eh (C.keep J2.out kk) HE.out.h)
        rw [hav] at AVC
        have GO := Lib.hid (show goB av S d ⟨et, eh, ex, em⟩ = false by unfold goB; simp [hav])
        clear hav
        have lb := S1.out.box.lt
        have lb2 := S2.out.box.lt
        have lx2 := BX.out.lt
        go_wp2_with fail
        generalize hV2 : wr.alloc (.cells #[.int .u32 (et : Int), .int .u32 (eh : Int), .int .u64 (ex : Int), .int .u32 (em : Int)] 67) = V2 at *
        have HV2 := Lib.hid hV2
        clear hV2
        refine wp_region_noPanic ?_
        refine wp_region_held_drew (S := fun V => V.cell? ⟨b, 0, none⟩ = some (.slice As S.length cs) ∧ V.cell? ⟨wr.heap.size, 1, none⟩ = some (.int .u32 (eh : Int))) (by kernel_rfl) (SD.out _ (keeps_drew _)) (fun hHeld => ?_)
        refine wpAnyH_take (i := 0) (v := ?_) (by simp only [List.getElem?_toArray, List.getElem?_cons_succ, List.getElem?_cons_zero]; rfl) (by kernel_rfl) (by kernel_rfl) (by kernel_rfl) (fun _ _ _ h => h) (Or.inl ⟨by rfl, ?_⟩) (by assumption) ?_
        rotate_left
        · (intro w hSw; (try dsimp only at hSw); go_simp; try with_reducible rfl)
        try simp only [Act.put, List.setIfInBounds_toArray, List.set_cons_zero, List.set_cons_succ]
        refine wpAnyH_take (i := 1) (v := ?_) (by simp only [List.getElem?_toArray, List.getElem?_cons_succ, List.getElem?_cons_zero]; rfl) (by kernel_rfl) (by kernel_rfl) (by kernel_rfl) (fun _ _ _ h => h) (Or.inl ⟨by rfl, ?_⟩) (by assumption) ?_
        rotate_left
        · (intro w hSw; (try dsimp only at hSw); go_simp; try with_reducible rfl)
        try simp only [Act.put, List.setIfInBounds_toArray, List.set_cons_zero, List.set_cons_succ]
        refine wpAnyH_take (i := 2) (v := ?_) (by simp only [List.getElem?_toArray, List.getElem?_cons_succ, List.getElem?_cons_zero]; rfl) (by kernel_rfl) (by kernel_rfl) (by kernel_rfl) (fun _ _ _ h => h) (Or.inl ⟨by rfl, ?_⟩) (by assumption) ?_
        rotate_left
        · (intro w hSw; (try dsimp only at hSw); go_simp; try with_reducible rfl)
        try simp only [Act.put, List.setIfInBounds_toArray, List.set_cons_zero, List.set_cons_succ]
        refine wpAnyH_ready (rs := [3]) (by kernel_rfl) (by simp) ?_
        refine AllReadyH.cons rfl (fun KK hK => ?_) AllReadyH.nil
        go_simp
        go_at_fn ga
        refine (AVC.out _ (keeps_drew _)).mono ?_
        rintro ee w7 ⟨rfl, k7⟩
        have K7 := Lib.hid (keeps_trans (keeps_drew _) k7)
        clear k7
        go_wp2_with fail
        refine hK.out _ _ (SD.out _ K7.out) (fun hHeld => ?_)
        clear hK KK
        try simp only [Act.put, List.setIfInBounds_toArray, List.set_cons_zero, List.set_cons_succ]
        refine wpAnyH_take (i := 4) (v := ?_) (by simp only [List.getElem?_toArray, List.getElem?_cons_succ, List.getElem?_cons_zero]; rfl) (by kernel_rfl) (by kernel_rfl) (by kernel_rfl) (fun _ _ _ h => h) (Or.inl ⟨by rfl, ?_⟩) (by assumption) ?_
        rotate_left
        · (intro w hSw; (try dsimp only at hSw); go_simp; try with_reducible rfl)
        try simp only [Act.put, List.setIfInBounds_toArray, List.set_cons_zero, List.set_cons_succ]
        refine wpAnyH_take (i := 5) (v := undef) (by simp only [List.getElem?_toArray, List.getElem?_cons_succ, List.getElem?_cons_zero]; rfl) (by kernel_rfl) (by kernel_rfl) (by kernel_rfl) (fun _ _ _ h => h) (Or.inr ⟨by rfl, rfl⟩) (by assumption) ?_
        try simp only [Act.put, List.setIfInBounds_toArray, List.set_cons_zero, List.set_cons_succ]
        refine wpAnyH_take (i := 6) (v := undef) (by simp only [List.getElem?_toArray, List.getElem?_cons_succ, List.getElem?_cons_zero]; rfl) (by kernel_rfl) (by kernel_rfl) (by kernel_rfl) (fun _ _ _ h => h) (Or.inr ⟨by rfl, rfl⟩) (by assumption) ?_
        try simp only [Act.put, List.setIfInBounds_toArray, List.set_cons_zero, List.set_cons_succ]
        refine wpAnyH_take (i := 7) (v := undef) (by simp only [List.getElem?_toArray, List.getElem?_cons_succ, List.getElem?_cons_zero]; rfl) (by kernel_rfl) (by kernel_rfl) (by kernel_rfl) (fun _ _ _ h => h) (Or.inr ⟨by rfl, rfl⟩) (by assumption) ?_
        try simp only [Act.put, List.setIfInBounds_toArray, List.set_cons_zero, List.set_cons_succ]
        refine wpAnyH_take (i := 8) (v := undef) (by simp only [List.getElem?_toArray, List.getElem?_cons_succ, List.getElem?_cons_zero]; rfl) (by kernel_rfl) (by kernel_rfl) (by kernel_rfl) (fun _ _ _ h => h) (Or.inr ⟨by rfl, rfl⟩) (by assumption) ?_
        try simp only [Act.put, List.setIfInBounds_toArray, List.set_cons_zero, List.set_cons_succ]
        refine wpAnyH_take (i := 9) (v := undef) (by simp only [List.getElem?_toArray, List.getElem?_cons_succ, List.getElem?_cons_zero]; rfl) (by kernel_rfl) (by kernel_rfl) (by kernel_rfl) (fun _ _ _ h => h) (Or.inr ⟨by rfl, rfl⟩) (by assumption) ?_
        try simp only [Act.put, List.setIfInBounds_toArray, List.set_cons_zero, List.set_cons_succ]
        refine wpAnyH_take (i := 10) (v := undef) (by simp only [List.getElem?_toArray, List.getElem?_cons_succ, List.getElem?_cons_zero]; rfl) (by kernel_rfl) (by kernel_rfl) (by kernel_rfl) (fun _ _ _ h => h) (Or.inr ⟨by rfl, rfl⟩) (by assumption) ?_
        try simp only [Act.put, List.setIfInBounds_toArray, List.set_cons_zero, List.set_cons_succ]
        refine wpAnyH_take (i := 11) (v := undef) (by simp only [List.getElem?_toArray, List.getElem?_cons_succ, List.getElem?_cons_zero]; rfl) (by kernel_rfl) (by kernel_rfl) (by kernel_rfl) (fun _ _ _ h => h) (Or.inr ⟨by rfl, rfl⟩) (by assumption) ?_
        try simp only [Act.put, List.setIfInBounds_toArray, List.set_cons_zero, List.set_cons_succ]
        refine wpAnyH_take (i := 12) (v := ?_) (by simp only [List.getElem?_toArray, List.getElem?_cons_succ, List.getElem?_cons_zero]; rfl) (by kernel_rfl) (by kernel_rfl) (by kernel_rfl) (fun _ _ _ h => h) (Or.inl ⟨by rfl, ?_⟩) (by assumption) ?_
        rotate_left
        · (intro w hSw; (try dsimp only at hSw); go_simp; try with_reducible rfl)
        try simp only [Act.put, List.setIfInBounds_toArray, List.set_cons_zero, List.set_cons_succ]
        refine wpAnyH_done (by kernel_rfl) ?_ _
        refine NoPanic.normal ?_
        go_wp2_with fail
        go_roundw
        case rel =>
          refine ⟨k + 1, p1, F1, hp1, by have := HK.out; omega, by go_num, ?_, ?_, T2.out.keep2 K7.out, C.keep J2.out K7.out⟩
          · rw [NXT.out, GO.out]; exact S2.out.keep K7.out
          · rw [NXT.out, GO.out]; exact W1.out
        case measure => have := HK.out; simp [intOf]; omega
      | false =>
        have SD := Lib.hid (fun (V : World) (kk : Keeps (wr.alloc (.cells #[.int .u32 (et : Int), .int .u32 (eh : Int), .int .u64 (ex : Int), .int .u32 (em : Int)] 67)) V) => show V.cell? ⟨b, 0, none⟩ = some (.slice As S.length cs) ∧ V.cell? ⟨wr.heap.size, 1, none⟩ = some (.int .u32 (eh : Int)) from ⟨(S2.out.keep kk).box.cell 0 rfl, (BX.out.keep kk).cell 1 rfl⟩)
        have AVC := Lib.hid (fun (V : World) (kk : Keeps (wr.alloc (.cells #[.int .u32 (et : Int), .int .u32 (eh : Int), .int .u64 (ex : Int), .int .u32 (em : Int)] 67)) V) => AV.out V eh (C.keep J2.out kk) HE.out.h)
        rw [hav] at AVC
        have lb := S1.out.box.lt
        have lb2 := S2.out.box.lt
        have lx2 := BX.out.lt
        have CTC := Lib.hid (fun (V : World) (kk : Keeps (wr.alloc (.cells #[.int .u32 (et : Int), .int .u32 (eh : Int), .int .u64 (ex : Int), .int .u32 (em : Int)] 67)) V) => containsU_any As S.length cs S eh V (Own.at_ (S2.out.keep kk).own) rfl S2.out.few)
        by_cases hin : eh ∈ S
        · rw [decide_eq_true hin] at CTC
          have GO := Lib.hid (show goB av S d ⟨et, eh, ex, em⟩ = false by unfold goB; simp [hin])
          clear hav hin
          go_wp2_with fail
          generalize hV2 : wr.alloc (.cells #[.int .u32 (et : Int), .int .u32 (eh : Int), .int .u64 (ex : Int), .int .u32 (em : Int)] 67) = V2 at *
          have HV2 := Lib.hid hV2
          clear hV2
          refine wp_region_noPanic ?_
          refine wp_region_held_drew (S := fun V => V.cell? ⟨b, 0, none⟩ = some (.slice As S.length cs) ∧ V.cell? ⟨wr.heap.size, 1, none⟩ = some (.int .u32 (eh : Int))) (by kernel_rfl) (SD.out _ (keeps_drew _)) (fun hHeld => ?_)
          refine wpAnyH_take (i := 0) (v := ?_) (by simp only [List.getElem?_toArray, List.getElem?_cons_succ, List.getElem?_cons_zero]; rfl) (by kernel_rfl) (by kernel_rfl) (by kernel_rfl) (fun _ _ _ h => h) (Or.inl ⟨by rfl, ?_⟩) (by assumption) ?_
          rotate_left
          · (intro w hSw; (try dsimp only at hSw); go_simp; try with_reducible rfl)
          try simp only [Act.put, List.setIfInBounds_toArray, List.set_cons_zero, List.set_cons_succ]
          refine wpAnyH_take (i := 1) (v := ?_) (by simp only [List.getElem?_toArray, List.getElem?_cons_succ, List.getElem?_cons_zero]; rfl) (by kernel_rfl) (by kernel_rfl) (by kernel_rfl) (fun _ _ _ h => h) (Or.inl ⟨by rfl, ?_⟩) (by assumption) ?_
          rotate_left
          · (intro w hSw; (try dsimp only at hSw); go_simp; try with_reducible rfl)
          try simp only [Act.put, List.setIfInBounds_toArray, List.set_cons_zero, List.set_cons_succ]
          refine wpAnyH_take (i := 2) (v := ?_) (by simp only [List.getElem?_toArray, List.getElem?_cons_succ, List.getElem?_cons_zero]; rfl) (by kernel_rfl) (by kernel_rfl) (by kernel_rfl) (fun _ _ _ h => h) (Or.inl ⟨by rfl, ?_⟩) (by assumption) ?_
          rotate_left
          · (intro w hSw; (try dsimp only at hSw); go_simp; try with_reducible rfl)
          try simp only [Act.put, List.setIfInBounds_toArray, List.set_cons_zero, List.set_cons_succ]
          refine wpAnyH_ready (rs := [3]) (by kernel_rfl) (by simp) ?_
          refine AllReadyH.cons rfl (fun KK hK => ?_) AllReadyH.nil
          go_simp
          go_at_fn ga
          refine (AVC.out _ (keeps_drew _)).mono ?_
          rintro ee w7 ⟨rfl, k7⟩
          have K7 := Lib.hid (keeps_trans (keeps_drew _) k7)
          clear k7
          go_wp2_with fail
          refine hK.out _ _ (SD.out _ K7.out) (fun hHeld => ?_)
          clear hK KK
          try simp only [Act.put, List.setIfInBounds_toArray, List.set_cons_zero, List.set_cons_succ]
          refine wpAnyH_take (i := 4) (v := ?_) (by simp only [List.getElem?_toArray, List.getElem?_cons_succ, List.getElem?_cons_zero]; rfl) (by kernel_rfl) (by kernel_rfl) (by kernel_rfl) (fun _ _ _ h => h) (Or.inl ⟨by rfl, ?_⟩) (by assumption) ?_
          rotate_left
          · (intro w hSw; (try dsimp only at hSw); go_simp; try with_reducible rfl)
          try simp only [Act.put, List.setIfInBounds_toArray, List.set_cons_zero, List.set_cons_succ]
          refine wpAnyH_take (i := 5) (v := ?_) (by simp only [List.getElem?_toArray, List.getElem?_cons_succ, List.getElem?_cons_zero]; rfl) (by kernel_rfl) (by kernel_rfl) (by kernel_rfl) (fun _ _ _ h => h) (Or.inl ⟨by rfl, ?_⟩) (by assumption) ?_
          rotate_left
          · (intro w hSw; (try dsimp only at hSw); go_simp; try with_reducible rfl)
          try simp only [Act.put, List.setIfInBounds_toArray, List.set_cons_zero, List.set_cons_succ]
          refine wpAnyH_take (i := 6) (v := ?_) (by simp only [List.getElem?_toArray, List.getElem?_cons_succ, List.getElem?_cons_zero]; rfl) (by kernel_rfl) (by kernel_rfl) (by kernel_rfl) (fun _ _ _ h => h) (Or.inl ⟨by rfl, ?_⟩) (by assumption) ?_
          rotate_left
          · (intro w hSw; (try dsimp only at hSw); go_simp; try with_reducible rfl)
          try simp only [Act.put, List.setIfInBounds_toArray, List.set_cons_zero, List.set_cons_succ]
          refine wpAnyH_take (i := 7) (v := ?_) (by simp only [List.getElem?_toArray, List.getElem?_cons_succ, List.getElem?_cons_zero]; rfl) (by kernel_rfl) (by kernel_rfl) (by kernel_rfl) (fun _ _ _ h => h) (Or.inl ⟨by rfl, ?_⟩) (by assumption) ?_
          rotate_left
          · (intro w hSw; (try dsimp only at hSw); go_simp; try with_reducible rfl)
          try simp only [Act.put, List.setIfInBounds_toArray, List.set_cons_zero, List.set_cons_succ]
          refine wpAnyH_take (i := 8) (v := ?_) (by simp only [List.getElem?_toArray, List.getElem?_cons_succ, List.getElem?_cons_zero]; rfl) (by kernel_rfl) (by kernel_rfl) (by kernel_rfl) (fun _ _ _ h => h) (Or.inl ⟨by rfl, ?_⟩) (by assumption) ?_
          rotate_left
          · (intro w hSw; (try dsimp only at hSw); go_simp; try with_reducible rfl)
          try simp only [Act.put, List.setIfInBounds_toArray, List.set_cons_zero, List.set_cons_succ]
          refine wpAnyH_take (i := 9) (v := ?_) (by simp only [List.getElem?_toArray, List.getElem?_cons_succ, List.getElem?_cons_zero]; rfl) (by kernel_rfl) (by kernel_rfl) (by kernel_rfl) (fun _ _ _ h => h) (Or.inl ⟨by rfl, ?_⟩) (by assumption) ?_
          rotate_left
          · (intro w hSw; (try dsimp only at hSw); go_simp; try with_reducible rfl)
          try simp only [Act.put, List.setIfInBounds_toArray, List.set_cons_zero, List.set_cons_succ]
          refine wpAnyH_take (i := 10) (v := ?_) (by simp only [List.getElem?_toArray, List.getElem?_cons_succ, List.getElem?_cons_zero]; rfl) (by kernel_rfl) (by kernel_rfl) (by kernel_rfl) (fun _ _ _ h => h) (Or.inl ⟨by rfl, ?_⟩) (by assumption) ?_
          rotate_left
          · (intro w hSw; (try dsimp only at hSw); go_simp; try with_reducible rfl)
          try simp only [Act.put, List.setIfInBounds_toArray, List.set_cons_zero, List.set_cons_succ]
          refine wpAnyH_ready (rs := [11]) (by kernel_rfl) (by simp) ?_
          refine AllReadyH.cons rfl (fun KK hK => ?_) AllReadyH.nil
          go_simp
          go_at_call 39
          refine (CTC.out _ K7.out).mono ?_
          rintro ee w8 ⟨rfl, k8⟩
          have K8 := Lib.hid (keeps_trans K7.out k8)
          clear k8
          go_wp2_with fail
          refine hK.out _ _ (SD.out _ K8.out) (fun hHeld => ?_)
          clear hK KK
          try simp only [Act.put, List.setIfInBounds_toArray, List.set_cons_zero, List.set_cons_succ]
          refine wpAnyH_take (i := 12) (v := ?_) (by simp only [List.getElem?_toArray, List.getElem?_cons_succ, List.getElem?_cons_zero]; rfl) (by kernel_rfl) (by kernel_rfl) (by kernel_rfl) (fun _ _ _ h => h) (Or.inl ⟨by rfl, ?_⟩) (by assumption) ?_
          rotate_left
          · (intro w hSw; (try dsimp only at hSw); go_simp; try with_reducible rfl)
          try simp only [Act.put, List.setIfInBounds_toArray, List.set_cons_zero, List.set_cons_succ]
          refine wpAnyH_done (by kernel_rfl) ?_ _
          refine NoPanic.normal ?_
          go_wp2_with fail
          go_roundw
          case rel =>
            refine ⟨k + 1, p1, F1, hp1, by have := HK.out; omega, by go_num, ?_, ?_, T2.out.keep2 K8.out, C.keep J2.out K8.out⟩
            · rw [NXT.out, GO.out]; exact S2.out.keep K8.out
            · rw [NXT.out, GO.out]; exact W1.out
          case measure => have := HK.out; simp [intOf]; omega
        · rw [decide_eq_false hin] at CTC
          have GO := Lib.hid (show goB av S d ⟨et, eh, ex, em⟩ = addB d ex by unfold goB; simp [hin, hav])
          have HIN := Lib.hid hin
          have ADD := Lib.hid (fun V => wadd_any d ex HDD.out HE.out.x V)
          obtain ⟨ab, hab⟩ : ∃ ab, addB d ex = ab := ⟨_, rfl⟩
          rw [hab] at GO ADD
          have HAB := Lib.hid hab
          have BC := Lib.hid (fun (V : World) (kk : Keeps (wr.alloc (.cells #[.int .u32 (et : Int), .int .u32 (eh : Int), .int .u64 (ex : Int), .int .u32 (em : Int)] 67)) V) => show V.cell? ⟨wr.heap.size, 2, none⟩ = some (.int .u64 (ex : Int)) ∧ V.cell? ⟨wr.heap.size, 1, none⟩ = some (.int .u32 (eh : Int)) from ⟨(BX.out.keep kk).cell 2 rfl, (BX.out.keep kk).cell 1 rfl⟩)
          clear hav hin hab
          go_wp2_with fail
          generalize hV2 : wr.alloc (.cells #[.int .u32 (et : Int), .int .u32 (eh : Int), .int .u64 (ex : Int), .int .u32 (em : Int)] 67) = V2 at *
          have HV2 := Lib.hid hV2
          clear hV2
          refine wp_region_noPanic ?_
          refine wp_region_held_drew (S := fun V => V.cell? ⟨b, 0, none⟩ = some (.slice As S.length cs) ∧ V.cell? ⟨wr.heap.size, 1, none⟩ = some (.int .u32 (eh : Int))) (by kernel_rfl) (SD.out _ (keeps_drew _)) (fun hHeld => ?_)
          refine wpAnyH_take (i := 0) (v := ?_) (by simp only [List.getElem?_toArray, List.getElem?_cons_succ, List.getElem?_cons_zero]; rfl) (by kernel_rfl) (by kernel_rfl) (by kernel_rfl) (fun _ _ _ h => h) (Or.inl ⟨by rfl, ?_⟩) (by assumption) ?_
          rotate_left
          · (intro w hSw; (try dsimp only at hSw); go_simp; try with_reducible rfl)
          try simp only [Act.put, List.setIfInBounds_toArray, List.set_cons_zero, List.set_cons_succ]
          refine wpAnyH_take (i := 1) (v := ?_) (by simp only [List.getElem?_toArray, List.getElem?_cons_succ, List.getElem?_cons_zero]; rfl) (by kernel_rfl) (by kernel_rfl) (by kernel_rfl) (fun _ _ _ h => h) (Or.inl ⟨by rfl, ?_⟩) (by assumption) ?_
          rotate_left
          · (intro w hSw; (try dsimp only at hSw); go_simp; try with_reducible rfl)
          try simp only [Act.put, List.setIfInBounds_toArray, List.set_cons_zero, List.set_cons_succ]
          refine wpAnyH_take (i := 2) (v := ?_) (by simp only [List.getElem?_toArray, List.getElem?_cons_succ, List.getElem?_cons_zero]; rfl) (by kernel_rfl) (by kernel_rfl) (by kernel_rfl) (fun _ _ _ h => h) (Or.inl ⟨by rfl, ?_⟩) (by assumption) ?_
          rotate_left
          · (intro w hSw; (try dsimp only at hSw); go_simp; try with_reducible rfl)
          try simp only [Act.put, List.setIfInBounds_toArray, List.set_cons_zero, List.set_cons_succ]
          refine wpAnyH_ready (rs := [3]) (by kernel_rfl) (by simp) ?_
          refine AllReadyH.cons rfl (fun KK hK => ?_) AllReadyH.nil
          go_simp
          go_at_fn ga
          refine (AVC.out _ (keeps_drew _)).mono ?_
          rintro ee w7 ⟨rfl, k7⟩
          have K7 := Lib.hid (keeps_trans (keeps_drew _) k7)
          clear k7
          go_wp2_with fail
          refine hK.out _ _ (SD.out _ K7.out) (fun hHeld => ?_)
          clear hK KK
          try simp only [Act.put, List.setIfInBounds_toArray, List.set_cons_zero, List.set_cons_succ]
          refine wpAnyH_take (i := 4) (v := ?_) (by simp only [List.getElem?_toArray, List.getElem?_cons_succ, List.getElem?_cons_zero]; rfl) (by kernel_rfl) (by kernel_rfl) (by kernel_rfl) (fun _ _ _ h => h) (Or.inl ⟨by rfl, ?_⟩) (by assumption) ?_
          rotate_left
          · (intro w hSw; (try dsimp only at hSw); go_simp; try with_reducible rfl)
          try simp only [Act.put, List.setIfInBounds_toArray, List.set_cons_zero, List.set_cons_succ]
          refine wpAnyH_take (i := 5) (v := ?_) (by simp only [List.getElem?_toArray, List.getElem?_cons_succ, List.getElem?_cons_zero]; rfl) (by kernel_rfl) (by kernel_rfl) (by kernel_rfl) (fun _ _ _ h => h) (Or.inl ⟨by rfl, ?_⟩) (by assumption) ?_
          rotate_left
          · (intro w hSw; (try dsimp only at hSw); go_simp; try with_reducible rfl)
          try simp only [Act.put, List.setIfInBounds_toArray, List.set_cons_zero, List.set_cons_succ]
          refine wpAnyH_take (i := 6) (v := ?_) (by simp only [List.getElem?_toArray, List.getElem?_cons_succ, List.getElem?_cons_zero]; rfl) (by kernel_rfl) (by kernel_rfl) (by kernel_rfl) (fun _ _ _ h => h) (Or.inl ⟨by rfl, ?_⟩) (by assumption) ?_
          rotate_left
          · (intro w hSw; (try dsimp only at hSw); go_simp; try with_reducible rfl)
          try simp only [Act.put, List.setIfInBounds_toArray, List.set_cons_zero, List.set_cons_succ]
          refine wpAnyH_take (i := 7) (v := ?_) (by simp only [List.getElem?_toArray, List.getElem?_cons_succ, List.getElem?_cons_zero]; rfl) (by kernel_rfl) (by kernel_rfl) (by kernel_rfl) (fun _ _ _ h => h) (Or.inl ⟨by rfl, ?_⟩) (by assumption) ?_
          rotate_left
          · (intro w hSw; (try dsimp only at hSw); go_simp; try with_reducible rfl)
          try simp only [Act.put, List.setIfInBounds_toArray, List.set_cons_zero, List.set_cons_succ]
          refine wpAnyH_take (i := 8) (v := ?_) (by simp only [List.getElem?_toArray, List.getElem?_cons_succ, List.getElem?_cons_zero]; rfl) (by kernel_rfl) (by kernel_rfl) (by kernel_rfl) (fun _ _ _ h => h) (Or.inl ⟨by rfl, ?_⟩) (by assumption) ?_
          rotate_left
          · (intro w hSw; (try dsimp only at hSw); go_simp; try with_reducible rfl)
          try simp only [Act.put, List.setIfInBounds_toArray, List.set_cons_zero, List.set_cons_succ]
          refine wpAnyH_take (i := 9) (v := ?_) (by simp only [List.getElem?_toArray, List.getElem?_cons_succ, List.getElem?_cons_zero]; rfl) (by kernel_rfl) (by kernel_rfl) (by kernel_rfl) (fun _ _ _ h => h) (Or.inl ⟨by rfl, ?_⟩) (by assumption) ?_
          rotate_left
          · (intro w hSw; (try dsimp only at hSw); go_simp; try with_reducible rfl)
          try simp only [Act.put, List.setIfInBounds_toArray, List.set_cons_zero, List.set_cons_succ]
          refine wpAnyH_take (i := 10) (v := ?_) (by simp only [List.getElem?_toArray, List.getElem?_cons_succ, List.getElem?_cons_zero]; rfl) (by kernel_rfl) (by kernel_rfl) (by kernel_rfl) (fun _ _ _ h => h) (Or.inl ⟨by rfl, ?_⟩) (by assumption) ?_
          rotate_left
          · (intro w hSw; (try dsimp only at hSw); go_simp; try with_reducible rfl)
          try simp only [Act.put, List.setIfInBounds_toArray, List.set_cons_zero, List.set_cons_succ]
          refine wpAnyH_ready (rs := [11]) (by kernel_rfl) (by simp) ?_
          refine AllReadyH.cons rfl (fun KK hK => ?_) AllReadyH.nil
          go_simp
          go_at_call 39
          refine (CTC.out _ K7.out).mono ?_
          rintro ee w8 ⟨rfl, k8⟩
          have K8 := Lib.hid (keeps_trans K7.out k8)
          clear k8
          go_wp2_with fail
          refine hK.out _ _ (SD.out _ K8.out) (fun hHeld => ?_)
          clear hK KK
          try simp only [Act.put, List.setIfInBounds_toArray, List.set_cons_zero, List.set_cons_succ]
          refine wpAnyH_take (i := 12) (v := ?_) (by simp only [List.getElem?_toArray, List.getElem?_cons_succ, List.getElem?_cons_zero]; rfl) (by kernel_rfl) (by kernel_rfl) (by kernel_rfl) (fun _ _ _ h => h) (Or.inl ⟨by rfl, ?_⟩) (by assumption) ?_
          rotate_left
          · (intro w hSw; (try dsimp only at hSw); go_simp; try with_reducible rfl)
          try simp only [Act.put, List.setIfInBounds_toArray, List.set_cons_zero, List.set_cons_succ]
          refine wpAnyH_done (by kernel_rfl) ?_ _
          refine NoPanic.normal ?_
          obtain ⟨b2, b1⟩ := BC.out _ K8.out
          go_wp2_with fail
          cases ab with
          | false =>
            refine (ADD.out _).mono ?_
            rintro e w9 ⟨rfl, rfl⟩
            go_wp2_with fail
            go_roundw
            case rel =>
              refine ⟨k + 1, p1, F1, hp1, by have := HK.out; omega, by go_num, ?_, ?_, T2.out.keep2 K8.out, C.keep J2.out K8.out⟩
              · rw [NXT.out, GO.out]; exact S2.out.keep K8.out
              · rw [NXT.out, GO.out]; exact W1.out
            case measure => have := HK.out; simp [intOf]; omega
          | true =>
            rw [addV_true HAB.out] at ADD
            have hsum : d + ex < far := by have := HAB.out; simpa [addB] using this
            unfold far at hsum
            have CM := Lib.hid (come_any (S2.out.keep K8.out) W1.out eh (d + ex) HE.out.h (by omega) HIN.out)
            clear hsum
            generalize hs : d + ex = sm at *
            have HSM := Lib.hid hs
            clear hs
            refine (ADD.out _).mono ?_
            rintro e w9 ⟨rfl, rfl⟩
            go_wp2_with fail
            refine CM.out.mono ?_
            rintro e w10 ⟨rfl, p10, F10, hp10, S10, W10, T10⟩
            have S10H := Lib.hid S10
            have W10H := Lib.hid W10
            have T10H := Lib.hid T10
            have J10H := Lib.hid (C.same (C.keep J2.out K8.out) T10.only D1.out)
            clear S10 W10 T10
            go_wp2_with fail
            go_roundw
            case rel =>
              refine ⟨k + 1, p10, F10, hp10, by have := HK.out; omega, by go_num, ?_, ?_, (T2.out.keep2 K8.out).trans T10H.out, J10H.out⟩
              · rw [NXT.out, GO.out]; exact S10H.out
              · rw [NXT.out, GO.out]; exact W10H.out
            case measure => have := HK.out; simp [intOf]; omega
    · obtain rfl : k = l.length := by omega
      have e1 : l.take l.length = l := List.take_length
      rw [e1] at S1 W1
      have FIN := Lib.hid (show FolD K C a D w b mb Fh (.slice As S.length cs) S (folW av S d l W) wr from ⟨⟨p1, F1, hp1, S1.out, W1.out, T1.out⟩, J1.out⟩)
      clear hk hlt e1
      go_wp2_with fail
      go_returns
      exact ⟨rfl, FIN.out⟩
end Go.Proofs.Ytkijfbnibfbldaa
