/- The walk of WeightLeast. -/
import Derived.Test.YtihcojpejocklaaLawWeight3
import Derived.Test.YtihcojpejocklaaEdges
namespace Go.Proofs.Ytihcojpejocklaa
open Go.RowKit
set_option linter.unusedSimpArgs false
set_option linter.unusedVariables false
set_option maxRecDepth 100000

/-- a is the least of the first k, b of the last k -/
structure Mins (l : List Ed) (n k : Nat) (a b : Ed) : Prop where
  ma : a ∈ l
  mb : b ∈ l
  la : ∀ i e, l[i]? = some e → i < k → betB e.x e.m a.x a.m = false
  lb : ∀ i e, l[i]? = some e → n ≤ i + k → betB e.x e.m b.x b.m = false

/-- a is the least of the first k + 1, b of the last k -/
structure Half (l : List Ed) (n k : Nat) (a b : Ed) : Prop where
  ma : a ∈ l
  mb : b ∈ l
  la : ∀ i e, l[i]? = some e → i < k + 1 → betB e.x e.m a.x a.m = false
  lb : ∀ i e, l[i]? = some e → n ≤ i + k → betB e.x e.m b.x b.m = false
theorem Mins.old_a {l : List Ed} {n k : Nat} {a b e : Ed} (h : Mins l n k a b) (hab : betB e.x e.m a.x a.m = false) (he : l[k]? = some e) : Half l n k a b :=
  ⟨h.ma, h.mb, fun i e' hi hlt => by
    by_cases hk : i = k
    · subst hk
      rw [he] at hi
      obtain rfl := Option.some.inj hi
      exact hab
    · exact h.la i e' hi (by omega), h.lb⟩
theorem notB_less {x m y k z j : Nat} (h : betB x m y k = false) (h' : betB z j y k = true) : betB x m z j = false := by
  cases h2 : betB x m z j
  · rfl
  · rw [betB_trans h2 h'] at h
    cases h
theorem Mins.new_a {l : List Ed} {n k : Nat} {a b e : Ed} (h : Mins l n k a b) (hab : betB e.x e.m a.x a.m = true) (he : l[k]? = some e) : Half l n k e b :=
  ⟨List.mem_of_getElem? he, h.mb, fun i e' hi hlt => by
    by_cases hk : i = k
    · subst hk
      rw [he] at hi
      obtain rfl := Option.some.inj hi
      exact betB_irr _ _
    · exact notB_less (h.la i e' hi (by omega)) hab, h.lb⟩
theorem Half.next_b {l : List Ed} {n k : Nat} {a b e : Ed} (h : Half l n k a b) (hab : betB e.x e.m b.x b.m = false) (he : l[n - 1 - k]? = some e) : Mins l n (k + 1) a b :=
  ⟨h.ma, h.mb, h.la, fun i e' hi hlt => by
    by_cases hk : i = n - 1 - k
    · subst hk
      rw [he] at hi
      obtain rfl := Option.some.inj hi
      exact hab
    · exact h.lb i e' hi (by omega)⟩
theorem Half.new_b {l : List Ed} {n k : Nat} {a b e : Ed} (h : Half l n k a b) (hab : betB e.x e.m b.x b.m = true) (he : l[n - 1 - k]? = some e) : Mins l n (k + 1) a e :=
  ⟨h.ma, List.mem_of_getElem? he, h.la, fun i e' hi hlt => by
    by_cases hk : i = n - 1 - k
    · subst hk
      rw [he] at hi
      obtain rfl := Option.some.inj hi
      exact betB_irr _ _
    · exact notB_less (h.lb i e' hi (by omega)) hab⟩

set_option maxHeartbeats 4000000 in
theorem least_walk (K : WeightOk) (A : Option Addr) (n c : Nat) (l : List Ed) (w : World) (hB : At w w.heap.size A (edsC l)) (hx : ∀ e ∈ l, EdOk e) (hn : n = l.length) (hlen : n ≤ maxLen) :
    Calls Try.prog 10 #[.slice A n c] w (Yes w) := by
  unfold maxLen at hlen
  have WW := Lib.hid (fun W => works_weight K W)
  by_cases h0 : n = 0
  · clear hn hB
    subst h0
    go_enter Try.func10, Try.ntmps10
    go_wp2_with fail
    refine (WW.out _).mono ?_
    rintro e w1 ⟨rfl, k1⟩
    go_wp2_with fail
    go_ret
    exact ⟨rfl, k1⟩
  · have hz : ((n : Int) == 0) = false := by simp; omega
    by_cases h : (4096 : Int) < n
    · clear hn hB
      go_enter Try.func10, Try.ntmps10
      go_wp2_with fail
      refine (WW.out _).mono ?_
      rintro e w1 ⟨rfl, k1⟩
      go_wp2_with fail
      go_ret
      exact ⟨rfl, k1⟩
    · have hmx : n ≤ 4096 := by omega
      have HN := Lib.hid hn
      have HX := Lib.hid hx
      have KA := Lib.hid K
      have HB := Lib.hid hB
      obtain ⟨e0, he0⟩ : ∃ e, l[0]? = some e := ⟨_, List.getElem?_eq_getElem (by omega)⟩
      obtain ⟨e1, he1⟩ : ∃ e, l[n - 1]? = some e := ⟨_, List.getElem?_eq_getElem (by omega)⟩
      obtain ⟨ad, rfl, hbl, a0, a1, a2, a3⟩ := eds_at hB he0
      obtain ⟨ad', e', _, b0, b1, b2, b3⟩ := eds_at hB he1
      rw [add_zero4] at a0 a1 a2 a3
      obtain rfl := Option.some.inj e'
      have hbb : (ad.add ((n - 1) * 4)).block < w.heap.size := by rw [addr_block]; exact hbl
      have hn1 : ((n : Int) - 1) = ((n - 1 : Nat) : Int) := by omega
      clear hn hx K hB e'
      go_enter Try.func10, Try.ntmps10
      go_wp2_with fail
      have A0 := (EdBox.new w 30 e0).keep (keeps_alloc _ (.cells #[.int .u32 (e1.t : Int), .int .u32 (e1.h : Int), .int .u64 (e1.x : Int), .int .u32 (e1.m : Int)] 30))
      have A1 := EdBox.new (w.alloc (.cells #[.int .u32 (e0.t : Int), .int .u32 (e0.h : Int), .int .u64 (e0.x : Int), .int .u32 (e0.m : Int)] 30)) 30 e1
      have k0 : Keeps w ((w.alloc (.cells #[.int .u32 (e0.t : Int), .int .u32 (e0.h : Int), .int .u64 (e0.x : Int), .int .u32 (e0.m : Int)] 30)).alloc (.cells #[.int .u32 (e1.t : Int), .int .u32 (e1.h : Int), .int .u64 (e1.x : Int), .int .u32 (e1.m : Int)] 30)) := keeps_trans (keeps_alloc _ _) (keeps_alloc _ _)
      have es : (w.alloc (.cells #[.int .u32 (e0.t : Int), .int .u32 (e0.h : Int), .int .u64 (e0.x : Int), .int .u32 (e0.m : Int)] 30)).heap.size = w.heap.size + 1 := by simp
      rw [es] at A1
      have M0 := Lib.hid (List.mem_of_getElem? he0)
      have M1 := Lib.hid (List.mem_of_getElem? he1)
      clear es a0 a1 a2 a3 b0 b1 b2 b3 he0 he1 hbb
      generalize ((w.alloc (.cells #[.int .u32 (e0.t : Int), .int .u32 (e0.h : Int), .int .u64 (e0.x : Int), .int .u32 (e0.m : Int)] 30)).alloc (.cells #[.int .u32 (e1.t : Int), .int .u32 (e1.h : Int), .int .u64 (e1.x : Int), .int .u32 (e1.m : Int)] 30)) = W0 at *
      go_loopw [5] (fun i wr => ∃ (k : Nat) (a b : Ed), k ≤ n ∧ i = .int .i64 k ∧ EdBox wr w.heap.size 30 a ∧ EdBox wr (w.heap.size + 1) 30 b ∧ Mins l n k a b ∧ Keeps w wr) (fun i _ => n - (intOf i).toNat)
      case atStart => exact ⟨0, e0, e1, Nat.zero_le _, rfl, A0, A1, ⟨M0.out, M1.out, fun i e hi h => by omega, fun i e hi h => by have := (List.getElem?_eq_some_iff.1 hi).1; have := HN.out; omega⟩, k0⟩
      case round =>
        obtain ⟨k, a, b, hk, rfl, hA, hBx, hM, hkp⟩ := hrel
        by_cases hlt : k < n
        · obtain ⟨e, he⟩ : ∃ e, l[k]? = some e := ⟨_, List.getElem?_eq_getElem (by have := HN.out; omega)⟩
          obtain ⟨f, hf⟩ : ∃ f, l[n - 1 - k]? = some f := ⟨_, List.getElem?_eq_getElem (by have := HN.out; omega)⟩
          obtain ⟨p, e', hpb, hE⟩ := eds_at HB.out he
          obtain rfl := Option.some.inj e'
          obtain ⟨q, e', hqb, hF⟩ := eds_at HB.out hf
          obtain rfl := Option.some.inj e'
          have hEr := hE.keep hkp
          have hFr := hF.keep hkp
          have oka := HX.out _ hM.ma
          have okb := HX.out _ hM.mb
          have oke := HX.out _ (List.mem_of_getElem? he)
          have okf := HX.out _ (List.mem_of_getElem? hf)
          have C1 := Lib.hid (KA.out.better e.t e.h e.x e.m a.t a.h a.x a.m oke.t oke.h oke.x oke.m oka.t oka.h oka.x oka.m)
          have C2 := Lib.hid (KA.out.better f.t f.h f.x f.m b.t b.h b.x b.m okf.t okf.h okf.x okf.m okb.t okb.h okb.x okb.m)
          have S1 := Lib.hid (fun (V : World) (kv : Keeps wr V) => And.intro (hEr.keep kv) ((hA.keep kv).cells))
          have hk0 : (0 : Int) ≤ (k : Int) := by omega
          have hkn : (k : Int) < (n : Int) := by omega
          obtain ⟨q, hq⟩ : ∃ q, q = n - 1 - k := ⟨_, rfl⟩
          obtain ⟨n1, hn1'⟩ : ∃ n1, n1 = n - 1 := ⟨_, rfl⟩
          have s1 : IntKind.i64.wrap ((n : Int) - 1) = (n1 : Int) := by rw [IntWalk.i64_in _ (by omega)]; omega
          have s2 : IntKind.i64.wrap ((n1 : Int) - (k : Int)) = (q : Int) := by rw [IntWalk.i64_in _ (by omega)]; omega
          have hq0 : (0 : Int) ≤ (q : Int) := by omega
          have hqn : (q : Int) < (n : Int) := by omega
          have hms : n - k - 1 < n - k := by omega
          rw [← hq] at hf hF hFr
          have HQ := Lib.hid hq
          clear hn1' hq hn1
          go_wp2_with fail
          go_region_held3 (fun V => (V.cell? (ad.add (k * 4)) = some (.int .u32 (e.t : Int)) ∧ V.cell? ⟨(ad.add (k * 4)).block, (ad.add (k * 4)).off + 1, none⟩ = some (.int .u32 (e.h : Int)) ∧ V.cell? ⟨(ad.add (k * 4)).block, (ad.add (k * 4)).off + 2, none⟩ = some (.int .u64 (e.x : Int)) ∧ V.cell? ⟨(ad.add (k * 4)).block, (ad.add (k * 4)).off + 3, none⟩ = some (.int .u32 (e.m : Int))) ∧ V.cell? ⟨w.heap.size, 0, none⟩ = some (.int .u32 (a.t : Int)) ∧ V.cell? ⟨w.heap.size, 1, none⟩ = some (.int .u32 (a.h : Int)) ∧ V.cell? ⟨w.heap.size, 2, none⟩ = some (.int .u64 (a.x : Int)) ∧ V.cell? ⟨w.heap.size, 3, none⟩ = some (.int .u32 (a.m : Int))) (exact S1.out _ (by first | assumption | exact keeps_drew _)) (first
            | (go_at_call 16; refine (C1.out _).mono ?_; rintro ee w1 ⟨rfl, k1⟩; replace k1 := keeps_trans (keeps_drew _) k1))
          have hA1 := hA.keep k1
          have hB1 := hBx.keep k1
          have kw1 := keeps_trans hkp k1
          have HN' := Lib.hid HN.out
          cases hab : betB e.x e.m a.x a.m
          · go_wp2_with fail
            obtain ⟨a', W1, hA2, hB2, kW1, HM1, hWW, haa⟩ : ∃ (a' : Ed) (W1 : World), EdBox W1 w.heap.size 30 a' ∧ EdBox W1 (w.heap.size + 1) 30 b ∧ Keeps w W1 ∧ Hid (Half l n k a' b) ∧ W1 = w1 ∧ True := ⟨a, w1, hA1, hB1, kw1, Lib.hid (hM.old_a hab he), rfl, trivial⟩
            subst hWW
            clear hA1 hB1 k1
            have S2 := Lib.hid (fun (V : World) (kv : Keeps W1 V) => And.intro ((hF.keep kW1).keep kv) ((hB2.keep kv).cells))
            go_region_held3 (fun V => (V.cell? (ad.add (q * 4)) = some (.int .u32 (f.t : Int)) ∧ V.cell? ⟨(ad.add (q * 4)).block, (ad.add (q * 4)).off + 1, none⟩ = some (.int .u32 (f.h : Int)) ∧ V.cell? ⟨(ad.add (q * 4)).block, (ad.add (q * 4)).off + 2, none⟩ = some (.int .u64 (f.x : Int)) ∧ V.cell? ⟨(ad.add (q * 4)).block, (ad.add (q * 4)).off + 3, none⟩ = some (.int .u32 (f.m : Int))) ∧ V.cell? ⟨w.heap.size + 1, 0, none⟩ = some (.int .u32 (b.t : Int)) ∧ V.cell? ⟨w.heap.size + 1, 1, none⟩ = some (.int .u32 (b.h : Int)) ∧ V.cell? ⟨w.heap.size + 1, 2, none⟩ = some (.int .u64 (b.x : Int)) ∧ V.cell? ⟨w.heap.size + 1, 3, none⟩ = some (.int .u32 (b.m : Int))) (exact S2.out _ (by first | assumption | exact keeps_drew _)) (first
              | (go_at_call 16; refine (C2.out _).mono ?_; rintro ee w2 ⟨rfl, k2⟩; replace k2 := keeps_trans (keeps_drew _) k2))
            have hA3 := hA2.keep k2
            have hB3 := hB2.keep k2
            have kW2 := keeps_trans kW1 k2
            cases hbb : betB f.x f.m b.x b.m
            · go_wp2_with fail
              go_roundw
              case rel => exact ⟨k + 1, a', b, by omega, by go_num, hA3, hB3, HM1.out.next_b hbb (HQ.out ▸ hf), kW2⟩
              case measure => simp [intOf]; omega
            · obtain ⟨z0, z1, z2, z3⟩ := hB3.cells
              obtain ⟨y0, y1, y2, y3⟩ := hB3.free
              obtain ⟨x0, x1, x2, x3⟩ := hF.keep kW2
              go_wp2_with fail
              go_roundw
              case rel => exact ⟨k + 1, a', f, by omega, by go_num, hA3.far (by simp) f, hB3.put f, HM1.out.new_b hbb (HQ.out ▸ hf), putEd_below kW2 (by simp) f⟩
              case measure => simp [intOf]; omega
          · obtain ⟨z0, z1, z2, z3⟩ := hA1.cells
            obtain ⟨y0, y1, y2, y3⟩ := hA1.free
            obtain ⟨x0, x1, x2, x3⟩ := hEr.keep k1
            go_wp2_with fail
            have hA2 := hA1.put e
            have hB2 := hB1.far (b' := w.heap.size) (by simp) e
            have kW1 := putEd_below kw1 (Nat.le_refl _) e
            have HM1 := Lib.hid (hM.new_a hab he)
            unfold putEd at hA2 hB2 kW1
            clear z0 z1 z2 z3 y0 y1 y2 y3 x0 x1 x2 x3
            generalize ((((w1.setCell ⟨w.heap.size, 0, none⟩ (.int .u32 (e.t : Int))).setCell ⟨w.heap.size, 1, none⟩ (.int .u32 (e.h : Int))).setCell ⟨w.heap.size, 2, none⟩ (.int .u64 (e.x : Int))).setCell ⟨w.heap.size, 3, none⟩ (.int .u32 (e.m : Int))) = W1 at *
            obtain ⟨a', ha'⟩ : ∃ a', a' = e := ⟨_, rfl⟩
            rw [← ha'] at hA2 HM1
            clear hA1 hB1 k1
            have S2 := Lib.hid (fun (V : World) (kv : Keeps W1 V) => And.intro ((hF.keep kW1).keep kv) ((hB2.keep kv).cells))
            go_region_held3 (fun V => (V.cell? (ad.add (q * 4)) = some (.int .u32 (f.t : Int)) ∧ V.cell? ⟨(ad.add (q * 4)).block, (ad.add (q * 4)).off + 1, none⟩ = some (.int .u32 (f.h : Int)) ∧ V.cell? ⟨(ad.add (q * 4)).block, (ad.add (q * 4)).off + 2, none⟩ = some (.int .u64 (f.x : Int)) ∧ V.cell? ⟨(ad.add (q * 4)).block, (ad.add (q * 4)).off + 3, none⟩ = some (.int .u32 (f.m : Int))) ∧ V.cell? ⟨w.heap.size + 1, 0, none⟩ = some (.int .u32 (b.t : Int)) ∧ V.cell? ⟨w.heap.size + 1, 1, none⟩ = some (.int .u32 (b.h : Int)) ∧ V.cell? ⟨w.heap.size + 1, 2, none⟩ = some (.int .u64 (b.x : Int)) ∧ V.cell? ⟨w.heap.size + 1, 3, none⟩ = some (.int .u32 (b.m : Int))) (exact S2.out _ (by first | assumption | exact keeps_drew _)) (first
              | (go_at_call 16; refine (C2.out _).mono ?_; rintro ee w2 ⟨rfl, k2⟩; replace k2 := keeps_trans (keeps_drew _) k2))
            have hA3 := hA2.keep k2
            have hB3 := hB2.keep k2
            have kW2 := keeps_trans kW1 k2
            cases hbb : betB f.x f.m b.x b.m
            · go_wp2_with fail
              go_roundw
              case rel => exact ⟨k + 1, a', b, by omega, by go_num, hA3, hB3, HM1.out.next_b hbb (HQ.out ▸ hf), kW2⟩
              case measure => simp [intOf]; omega
            · obtain ⟨z0, z1, z2, z3⟩ := hB3.cells
              obtain ⟨y0, y1, y2, y3⟩ := hB3.free
              obtain ⟨x0, x1, x2, x3⟩ := hF.keep kW2
              go_wp2_with fail
              go_roundw
              case rel => exact ⟨k + 1, a', f, by omega, by go_num, hA3.far (by simp) f, hB3.put f, HM1.out.new_b hbb (HQ.out ▸ hf), putEd_below kW2 (by simp) f⟩
              case measure => simp [intOf]; omega
        · obtain rfl : k = n := by omega
          have oka := HX.out _ hM.ma
          have okb := HX.out _ hM.mb
          obtain ⟨ia, hia⟩ := List.getElem?_of_mem hM.ma
          obtain ⟨ib, hib⟩ := List.getElem?_of_mem hM.mb
          obtain ⟨ex, em⟩ := betB_tot oka.m okb.m (hM.lb ia a hia (by omega)) (hM.la ib b hib (by have := (List.getElem?_eq_some_iff.1 hib).1; have := HN.out; omega))
          have MM := Lib.hid hM
          have EX := Lib.hid ex
          have EM := Lib.hid em
          have kAll := Lib.hid hkp
          clear hM ex em hia hib hn1 k0 A0 A1
          obtain ⟨wo, rfl⟩ : ∃ wo : World, wo = wr := ⟨_, rfl⟩
          go_wp2_with fail
          go_loopw [6] (fun i ws => ∃ j : Nat, j ≤ k ∧ i = .int .i64 j ∧ Keeps wo ws) (fun i _ => k - (intOf i).toNat)
          case atStart => exact ⟨0, Nat.zero_le _, rfl, keeps_refl _⟩
          case round =>
            obtain ⟨j, hj, rfl, hks⟩ := hrel
            by_cases hlt2 : j < k
            · obtain ⟨e, he⟩ : ∃ e, l[j]? = some e := ⟨_, List.getElem?_eq_getElem (by have := HN.out; omega)⟩
              obtain ⟨p, e', hpb, hE⟩ := eds_at HB.out he
              obtain rfl := Option.some.inj e'
              have hEr := hE.keep (keeps_trans kAll.out hks)
              have hAr := hA.keep hks
              have oke := HX.out _ (List.mem_of_getElem? he)
              have C1 := Lib.hid (KA.out.better e.t e.h e.x e.m a.t a.h a.x a.m oke.t oke.h oke.x oke.m oka.t oka.h oka.x oka.m)
              have hb := MM.out.la j e he hlt2
              have hx : (a.x : Int) ≤ (e.x : Int) := by
                by_cases h : e.x < a.x
                · rw [(betB_true _ _ _ _).2 (.inl h)] at hb
                  cases hb
                · omega
              rw [hb] at C1
              have S1 := Lib.hid (fun (V : World) (kv : Keeps wr V) => And.intro (hEr.keep kv) ((hAr.keep kv).cells))
              have hk0 : (0 : Int) ≤ (j : Int) := by omega
              have hkn : (j : Int) < (k : Int) := by omega
              clear hb
              go_wp2_with fail
              go_region_held3 (fun V => (V.cell? (ad.add (j * 4)) = some (.int .u32 (e.t : Int)) ∧ V.cell? ⟨(ad.add (j * 4)).block, (ad.add (j * 4)).off + 1, none⟩ = some (.int .u32 (e.h : Int)) ∧ V.cell? ⟨(ad.add (j * 4)).block, (ad.add (j * 4)).off + 2, none⟩ = some (.int .u64 (e.x : Int)) ∧ V.cell? ⟨(ad.add (j * 4)).block, (ad.add (j * 4)).off + 3, none⟩ = some (.int .u32 (e.m : Int))) ∧ V.cell? ⟨w.heap.size, 0, none⟩ = some (.int .u32 (a.t : Int)) ∧ V.cell? ⟨w.heap.size, 1, none⟩ = some (.int .u32 (a.h : Int)) ∧ V.cell? ⟨w.heap.size, 2, none⟩ = some (.int .u64 (a.x : Int)) ∧ V.cell? ⟨w.heap.size, 3, none⟩ = some (.int .u32 (a.m : Int))) (exact S1.out _ (by first | assumption | exact keeps_drew _)) (first
                | (go_at_call 16; refine (C1.out _).mono ?_; rintro ee w1 ⟨rfl, k1⟩; replace k1 := keeps_trans (keeps_drew _) k1))
              go_wp2_with fail
              go_roundw
              case rel => exact ⟨j + 1, by omega, by go_num, keeps_trans hks k1⟩
              case measure => simp [intOf]; omega
            · obtain ⟨z0, z1, z2, z3⟩ := (hA.keep hks).cells
              obtain ⟨y0, y1, y2, y3⟩ := (hBx.keep hks).cells
              rw [← EX.out] at y2
              rw [← EM.out] at y3
              go_wp2_with fail
              refine (WW.out _).mono ?_
              rintro ee w2 ⟨rfl, k2⟩
              go_wp2_with fail
              go_ret
              exact ⟨rfl, keeps_trans kAll.out (keeps_trans hks k2)⟩
end Go.Proofs.Ytihcojpejocklaa
