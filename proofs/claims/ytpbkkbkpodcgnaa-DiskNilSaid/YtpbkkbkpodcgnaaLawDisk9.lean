/- DiskTorn: the parts of it. -/
import Derived.Test.YtpbkkbkpodcgnaaLawDisk6
import Derived.Test.YtpbkkbkpodcgnaaDiskTorn
namespace Go.Proofs.Ytpbkkbkpodcgnaa
open Go.RowKit
set_option linter.unusedSimpArgs false
set_option linter.unusedVariables false
set_option maxRecDepth 100000

theorem contains_take (l : List Int) (x : Int) (j : Nat) (h : (l.take j).contains x = false) (y : Int) (hy : l[j]? = some y) : (l.take (j + 1)).contains x = decide (y = x) := by
  rw [List.take_add_one, hy]
  simp only [Option.toList_some]
  rw [List.contains_append, h]
  simp
  constructor
  · intro e; exact e.symm
  · intro e; exact e.symm
set_option maxHeartbeats 8000000 in
theorem has6_any (A : Option Addr) (n c : Nat) (l : List Int) (x : Int) (w : World) (hB : At w w.heap.size A (intC l)) (hn : n = l.length) (hmax : n ≤ 9223372036854775000) :
    Calls Try.prog 32 #[.slice A n c, .int .i64 x] w fun e w' => e = .returned (.bool (l.contains x)) ∧ w = w' := by
  have HN := Lib.hid hn
  have HB := Lib.hid hB
  obtain ⟨RR, hRR⟩ : ∃ RR, l.contains x = RR := ⟨_, rfl⟩
  rw [hRR]
  have HRR := Lib.hid hRR
  clear hn hB hRR
  go_enter Try.func32, Try.ntmps32
  go_wp2_with fail
  go_loopw [5] (fun i wr => ∃ j : Nat, j ≤ n ∧ i = .int .i64 j ∧ (l.take j).contains x = false ∧ w = wr) (fun i _ => n - (intOf i).toNat)
  case atStart => exact ⟨0, Nat.zero_le _, rfl, rfl, rfl⟩
  case round =>
    obtain ⟨j, hj, rfl, hpre, rfl⟩ := hrel
    have HP := Lib.hid hpre
    clear hpre
    by_cases hlt : j < n
    · obtain ⟨y, hy⟩ : ∃ y, l[j]? = some y := ⟨_, List.getElem?_eq_getElem (by have := HN.out; omega)⟩
      obtain ⟨ad, rfl, -, hc⟩ := At.get HB.out (k := j) (by rw [intC_length]; have := HN.out; omega)
      have hc' : w.cell? (ad.add j) = some (.int .i64 y) := by
        rw [hc]
        simp only [intC, List.getElem?_map, hy, Option.map_some]
      have hjn : (j : Int) < (n : Int) := by omega
      have CT := Lib.hid (contains_take l x j HP.out y hy)
      have HY := Lib.hid hy
      clear hc hy
      by_cases hv : y = x
      · have hb : (y == x) = true := beq_iff_eq.2 hv
        have YES := Lib.hid (show RR = true by
          rw [← HRR.out, List.contains_iff_mem, ← hv]
          exact List.mem_of_getElem? HY.out)
        clear hv
        go_wp2_with fail
        go_ret
        exact ⟨by rw [YES.out]; rfl, rfl⟩
      · have hb : (y == x) = false := by rw [beq_eq_false_iff_ne]; exact hv
        have NX := Lib.hid (show (l.take (j + 1)).contains x = false by rw [CT.out]; exact decide_eq_false hv)
        clear hv
        go_wp2_with fail
        go_roundw
        case rel => exact ⟨j + 1, by omega, by go_num, NX.out, trivial⟩
        case measure => simp [intOf]; omega
    · obtain rfl : j = n := by omega
      have NO := Lib.hid (show RR = false by
        rw [← HRR.out]
        have h1 := HP.out
        have h2 : l.take j = l := by rw [HN.out, List.take_length]
        rwa [h2] at h1)
      clear hlt hj
      go_wp2_with fail
      go_ret
      exact ⟨by rw [NO.out]; rfl, rfl⟩

/-- a file a that lasts as it was first, and was written to so often -/
structure Tn (first : List UInt8) (i : Nat) (f : Fl) : Prop where
  name : f.name = [97]
  lasts : f.lasts = first
  ge : first.length ≤ f.now.length
  le : f.now.length ≤ 4096 + 1024 * i
theorem Tn.start (l : List UInt8) (h : l.length ≤ 4096) : Tn l 0 (fA l) := ⟨rfl, rfl, Nat.le_refl _, by show l.length ≤ _; omega⟩
theorem Tn.step {l : List UInt8} {i : Nat} {f : Fl} (h : Tn l i f) (x : Nat) (b : List UInt8) (hb : b.length ≤ 1024) : Tn l (i + 1) (writeF f (x % (f.now.length + 1)) b) := by
  have hx : x % (f.now.length + 1) ≤ f.now.length := by have := Nat.mod_lt x (show 0 < f.now.length + 1 by omega); omega
  have hl : (writeF f (x % (f.now.length + 1)) b).now.length = max f.now.length (x % (f.now.length + 1) + b.length) := layB_length _ _ _ hx
  refine ⟨h.name, h.lasts, ?_, ?_⟩
  · rw [hl]; have := h.ge; omega
  · rw [hl]; have := h.le; omega
theorem Tn.write {l : List UInt8} {i : Nat} {f : Fl} (h : Tn l i f) (hi : i < 40) (x : Nat) (b : List UInt8) (hb : b.length ≤ 1024) : writeS (D1 f) [97] ((x % (f.now.length + 1) : Nat) : Int) b = (D1 (writeF f (x % (f.now.length + 1)) b), 0) := by
  have hx : x % (f.now.length + 1) ≤ f.now.length := by have := Nat.mod_lt x (show 0 < f.now.length + 1 by omega); omega
  exact write1 h.name hx (by have := h.le; omega)
/-- append onto a row of one's own, behind a guard that lets it through -/
theorem wpList_app_g {P : Program} {w : World} {ops : Array Oper} {rest : List Oper} {o : Oper} {a : Act} {Q : Exit → Act → World → Prop} (hgd : Region.wanted o (yielded ops a.tmps) = true) (s x : Operand) (t : TypeId)
    (ho : o.op = .call { callee := .builtin .append, args := #[s, x], argTypes := #[t, t] })
    (base : Nat) (e : TypeId) (i : TypeInfo) (z : Value) (size bytes : Nat) (ht : P.underlying t = some (.slice e)) (hi : P.info? e = some i) (hz : i.zero = some z)
    (hsize : i.size = size) (hby : i.bytes = bytes) (hzs : z.cells.size = size) (hsz : 0 < size)
    (v : Value) (n : Nat) (xs : List Value) (hs : a.eval s = v) (hown : Own w base e size v n xs)
    (B : Nat) (A : Option Addr) (m c : Nat) (news : List Value) (hx : a.eval x = .slice A m c) (hm : news.length = m * size) (hr : At w B A news) (h1 : ∀ u ∈ news, u.oneCell' = true)
    (h63 : n + m ≤ maxLen) (hbytes : (n + m) * bytes ≤ 140737488355328) (hbase : base ≤ w.heap.size)
    (h : ∀ v' w', Own w' base e size v' (n + m) (xs ++ news) → w.grownBy w' v.ownBlock → (v'.ownBlock = v.ownBlock ∨ v'.ownBlock = some w.heap.size) → wpList P ops Q rest (a.put o.dst v') w') : wpList P ops Q (o :: rest) a w :=
  wpList_step fun _ hK => by
    rw [if_pos hgd]
    exact wp_app w s x t ho base e i z size bytes ht hi hz hsize hby hzs hsz v n xs hs hown B A m c news hx hm hr h1 h63 hbytes hbase fun v' w' h2 h3 h4 => hK _ _ (h v' w' h2 h3 h4)
/-- what the call itself has laid stays behind what is done with the disk -/
theorem Own.turn2 {w w' : World} {F F' : Nat → Prop} {base : Nat} {e : TypeId} {size : Nat} {v : Value} {n : Nat} {xs : List Value} (h : Own w base e size v n xs) (hA : ∀ k, v.ownBlock = some k → ¬ F k) (ht : Turns w w' F F') :
    Own w' base e size v n xs ∧ ∀ k, v.ownBlock = some k → ¬ F' k :=
  ⟨h.turns ht hA, fun k hk hf => by
    rcases ht.next k hf with h1 | h1
    · exact hA k hk h1
    · have := (h.lt k hk).2; omega⟩
section
variable {K : DiskOk} {w0 w : World} {b : Nat} {F : Nat → Prop} {s : Ds}
def WentT (K : DiskOk) (w0 w : World) (b : Nat) (F : Nat → Prop) (s' : Ds) (E : Nat) (e : Ending) (w' : World) : Prop := e = .returned (.int .i64 (E : Int)) ∧ ∃ F', Have K w0 w' b F' s' ∧ Turns w w' F F'
theorem Have.armT_ (h : Have K w0 w b F s) (hZ : K.Z w0) (n : Int) (hn : IsI n) {s' : Ds} {E : Nat} (hs : armS s n = (s', E)) :
    Calls Try.prog 20 #[.pointer (some ⟨b, 0, none⟩), .int .i64 n] w (WentT K w0 w b F s' E) := by
  have := K.arm n (h.z hZ) h.D hn.1 hn.2
  rw [hs] at this
  exact this.mono fun e w' q => by obtain ⟨he, F', hD, ht⟩ := q; exact ⟨he, F', h.step hD ht, ht⟩
theorem Have.createT_ (h : Have K w0 w b F s) (hZ : K.Z w0) (nm : List UInt8) (sv : ByteArray) (hv : sv = str nm) {s' : Ds} {E : Nat} (hs : createS s nm = (s', E)) (hnm : nm.length ≤ maxLen := by decide) :
    Calls Try.prog 21 #[.pointer (some ⟨b, 0, none⟩), .string sv] w (WentT K w0 w b F s' E) := by
  subst hv
  have := K.create nm (h.z hZ) h.D hnm
  rw [hs] at this
  exact this.mono fun e w' q => by obtain ⟨he, F', hD, ht⟩ := q; exact ⟨he, F', h.step hD ht, ht⟩
theorem Have.onT_ (h : Have K w0 w b F s) (hZ : K.Z w0) (A : Option Addr) (n c : Nat) (l : List Int) (hB : At w w.heap.size A (intC l)) (hF : ∀ ad, A = some ad → ¬ F ad.block) (hn : n = l.length) (hc : n ≤ c) (hm : n ≤ 70000) {s' : Ds} {E : Nat} (hs : onS s l = (s', E)) :
    Calls Try.prog 26 #[.pointer (some ⟨b, 0, none⟩), .slice A n c] w (WentT K w0 w b F s' E) := by
  have := K.on A n c l (h.z hZ) h.D hB hF hn hc hm
  rw [hs] at this
  exact this.mono fun e w' q => by obtain ⟨he, F', hD, ht⟩ := q; exact ⟨he, F', h.step hD ht, ht⟩
end
/-- does one of the first loose sectors, one that is kept, have this number? -/
def anyK (lf : List Nat) (keep : List Int) (s : Nat) : Nat → Bool
  | 0 => false
  | k + 1 => anyK lf keep s k || (decide (lf[k]? = some s) && keep.contains (k : Int))
theorem anyK_iff (lf : List Nat) (keep : List Int) (s m : Nat) : anyK lf keep s m = true ↔ ∃ k, k < m ∧ lf[k]? = some s ∧ keep.contains (k : Int) = true := by
  induction m with
  | zero => simp [anyK]
  | succ m ih =>
    unfold anyK
    rw [Bool.or_eq_true, ih, Bool.and_eq_true, decide_eq_true_iff]
    constructor
    · rintro (⟨k, h1, h2, h3⟩ | ⟨h2, h3⟩)
      · exact ⟨k, by omega, h2, h3⟩
      · exact ⟨m, by omega, h2, h3⟩
    · rintro ⟨k, h1, h2, h3⟩
      by_cases e : k = m
      · subst e; exact .inr ⟨h2, h3⟩
      · exact .inl ⟨k, by omega, h2, h3⟩
theorem anyK_kept (f : Fl) (h : ∀ k, f.loose k = true → k < sect f.now.length) (keep : List Int) (s : Nat) : anyK (looseF f) keep s (looseF f).length = keptF f 0 keep s := by
  rw [Bool.eq_iff_iff, anyK_iff, kept_iff f h keep s]
  constructor
  · rintro ⟨k, _, h2, h3⟩; exact ⟨k, h2, h3⟩
  · rintro ⟨k, h2, h3⟩; exact ⟨k, (List.getElem?_eq_some_iff.1 h2).1, h2, h3⟩
theorem place_cell (nm : List UInt8) (lf : List Nat) (i p : Nat) (hp : lf[i]? = some p) : ((lf.map fun k => (nm, k)).flatMap placeC)[i * 2 + 1]? = some (.int .i64 (p : Int)) := by
  have := flatMap_get placeC 2 (fun _ => rfl) (lf.map fun k => (nm, k)) (i := i) (j := 1) (by decide)
  rw [this, List.getElem?_map, hp]
  rfl
def u16C (l : List Nat) : List Value := l.map fun (x : Nat) => .int .u16 (x : Int)
theorem u16C_length (l : List Nat) : (u16C l).length = l.length := by simp [u16C]
set_option maxHeartbeats 16000000 in
theorem torn6_walk (K : DiskOk) (A : Option Addr) (n c : Nat) (l : List UInt8) (A1 : Option Addr) (n1 c1 : Nat) (lo : List Nat) (A2 : Option Addr) (n2 c2 : Nat) (l2 : List UInt8) (A3 : Option Addr) (n3 c3 : Nat) (l3 : List Int) (w : World) (hZ : K.Z w)
    (hB : Bs w A l) (hn : n = l.length) (hB1 : At w w.heap.size A1 (u16C lo)) (hlo : ∀ x ∈ lo, x < 65536) (hn1 : n1 = lo.length) (hB2 : Bs w A2 l2) (hn2 : n2 = l2.length) (hB3 : At w w.heap.size A3 (intC l3)) (hn3 : n3 = l3.length) (hc3 : n3 ≤ c3)
    (hm : n ≤ 9223372036854775807) (hm1 : n1 ≤ 9223372036854775807) (hm2 : n2 ≤ 9223372036854775807) (hm3 : n3 ≤ 9223372036854775807) :
    Calls Try.prog 5 #[.slice A n c, .slice A1 n1 c1, .slice A2 n2 c2, .slice A3 n3 c3] w (Yes w) := by
  have WK := Lib.hid (fun (W : World) (q : Keeps w W) => works6 K W (K.keep hZ q))
  have HB := Lib.hid hB
  have HB1 := Lib.hid hB1
  have HB2 := Lib.hid hB2
  have HB3 := Lib.hid hB3
  have HN := Lib.hid hn
  have HN1 := Lib.hid hn1
  have HN2 := Lib.hid hn2
  have HN3 := Lib.hid hn3
  have HZ := Lib.hid hZ
  have HLO := Lib.hid hlo
  by_cases big : 4096 < n ∨ 1024 < n2 ∨ 40 < n1 ∨ 4096 < n3
  · have ways : (4096 : Int) < (n : Int) ∨ (¬ (4096 : Int) < (n : Int) ∧ (1024 : Int) < (n2 : Int)) ∨ (¬ (4096 : Int) < (n : Int) ∧ ¬ (1024 : Int) < (n2 : Int) ∧ (40 : Int) < (n1 : Int)) ∨ (¬ (4096 : Int) < (n : Int) ∧ ¬ (1024 : Int) < (n2 : Int) ∧ ¬ (40 : Int) < (n1 : Int) ∧ (4096 : Int) < (n3 : Int)) := by omega
    clear hB hB1 hB2 hB3 hn hn1 hn2 hn3 hZ big hlo
    go_enter Try.func5, Try.ntmps5
    rcases ways with w1 | ⟨w1, w2⟩ | ⟨w1, w2, w3⟩ | ⟨w1, w2, w3, w4⟩
    all_goals
      go_wp2_with fail
      refine (WK.out _ (keeps_refl _)).mono ?_
      rintro e w1 ⟨rfl, k1⟩
      go_wp2_with fail
      go_ret
      exact ⟨rfl, k1⟩
  · have b0 : (n : Int) ≤ 4096 := by omega
    have b1 : (n1 : Int) ≤ 40 := by omega
    have b2 : (n2 : Int) ≤ 1024 := by omega
    have b3 : (n3 : Int) ≤ 4096 := by omega
    have NW := Lib.hid (new_ K w hZ)
    clear hB hB1 hB2 hB3 hn hn1 hn2 hn3 hZ big hlo
    go_enter Try.func5, Try.ntmps5
    go_wp2_with fail
    refine NW.out.mono ?_
    rintro e w1 ⟨b, F, rfl, h1⟩
    have H1 := Lib.hid h1
    clear h1
    go_wp2_with fail
    refine (H1.out.create_ HZ.out [97] _ rfl create1).mono ?_
    rintro e w2 ⟨rfl, F2, h2⟩
    have T2 := Lib.hid (twin6_any A n c l w2 (HB.out.keep h2.kp) HN.out (by omega))
    have H2 := Lib.hid h2
    clear h2
    go_wp2_with fail
    refine T2.out.mono ?_
    rintro e w3 ⟨v3, rfl, o3, k3⟩
    obtain ⟨A3', c3', rfl, -⟩ := o3.form
    go_wp2_with fail
    refine (H2.out.write_ HZ.out [97] 0 i0_ok _ rfl o3 rfl k3 (by have := HN.out; omega) (start_a l (by have := HN.out; omega))).mono ?_
    rintro e w4 ⟨rfl, F4, h4⟩
    have H4 := Lib.hid h4
    clear h4 o3 k3
    go_wp2_with fail
    refine (H4.out.sync_ HZ.out [97] _ rfl (start_b l)).mono ?_
    rintro e w5 ⟨rfl, F5, h5⟩
    have H5 := Lib.hid h5
    clear h5
    go_wp2_with fail
    go_loopw [14] (fun i wr => ∃ (j : Nat) (f : Fl) (G : Nat → Prop), j ≤ n1 ∧ i = .int .i64 j ∧ Tn l j f ∧ Have K w wr b G (D1 f)) (fun i _ => n1 - (intOf i).toNat)
    case atStart => exact ⟨0, fA l, F5, Nat.zero_le _, rfl, Tn.start l (by have := HN.out; omega), H5.out⟩
    case round =>
      obtain ⟨j, f, G, hj, rfl, ht, hh⟩ := hrel
      have TT := Lib.hid ht
      have HH := Lib.hid hh
      clear ht hh
      by_cases hlt : j < n1
      · have hjn : (j : Int) < (n1 : Int) := by omega
        obtain ⟨x, hx⟩ : ∃ x, lo[j]? = some x := ⟨_, List.getElem?_eq_getElem (by have := HN1.out; omega)⟩
        obtain ⟨ad, rfl, hadb, hc⟩ := At.get HB1.out (k := j) (by rw [u16C_length]; have := HN1.out; omega)
        have hxb : x < 65536 := HLO.out x (List.mem_of_getElem? hx)
        have hc' : w.cell? (ad.add j) = some (.int .u16 (x : Int)) := by
          rw [hc]
          simp only [u16C, List.getElem?_map, hx, Option.map_some]
        have SW := Lib.hid (fun (V : World) (q : Keeps w V) => show V.cell? (ad.add j) = some (.int .u16 (x : Int)) from q.cellOf hc')
        have SZ := Lib.hid (size1 (f := f) TT.out.name)
        have WR := Lib.hid (TT.out.write (by have := HN1.out; omega) x l2 (by have := HN2.out; omega))
        have TS := Lib.hid (TT.out.step x l2 (by have := HN2.out; omega))
        have hfl : (f.now.length : Int) ≤ 50000 := by have := TT.out.le; omega
        have hxi : (x : Int) ≤ 65535 := by omega
        clear hc hx hxb
        go_wp2_with fail
        refine (HH.out.size_ HZ.out [97] _ rfl SZ.out).mono ?_
        rintro e u1 ⟨rfl, g1, q1⟩
        have G1 := Lib.hid g1
        have hc2 := g1.kp.cellOf hc'
        have SS := Lib.hid (fun (V : World) (q : Keeps u1 V) => show V.cell? (ad.add j) = some (.int .u16 (x : Int)) from q.cellOf hc2)
        obtain ⟨N, hN⟩ : ∃ N, f.now.length = N := ⟨_, rfl⟩
        rw [hN] at hfl WR TS
        simp only [hN]
        obtain ⟨q, hq⟩ : ∃ q, x % (N + 1) = q := ⟨_, rfl⟩
        have hqb : (q : Int) ≤ 50000 := by have := Nat.mod_lt x (show 0 < N + 1 by omega); omega
        have r1 : Int.tmod (x : Int) ((N : Int) + 1) = (q : Int) := by
          rw [Int.tmod_eq_emod_of_nonneg (by omega), ← hq]
          have : ((N : Int) + 1) = ((N + 1 : Nat) : Int) := by omega
          rw [this]
          exact (Int.natCast_emod x (N + 1)).symm
        have r4 : ¬ ((N : Int) + 1 = 0) := by omega
        obtain ⟨M, hM⟩ : ∃ M : Int, (N : Int) + 1 = M := ⟨_, rfl⟩
        rw [hM] at r1 r4
        have hw1 : IntKind.i64.wrap M = M := by simp [IntKind.wrap, IntKind.bits, IntKind.signed]; omega
        have hw2 : IntKind.i64.wrap (x : Int) = x := by simp [IntKind.wrap, IntKind.bits, IntKind.signed]; omega
        rw [hq] at WR TS
        have TW := Lib.hid (fun (V : World) (k : Keeps u1 V) => twin6_any A2 n2 c2 l2 V (HB2.out.keep (keeps_trans G1.out.kp k)) HN2.out (by omega))
        clear g1 q1 hc' hN hq
        go_wp2_with fail
        go_region_held3 (fun V => V.cell? (ad.add j) = some (.int .u16 (x : Int))) (first | exact SS.out _ (by first | assumption | exact keeps_drew _) | exact SW.out _ g3.kp) (first
          | (go_at_call 24; refine (TW.out _ (keeps_drew _)).mono ?_; rintro e u2 ⟨v2, rfl, o2, q2⟩; obtain ⟨Av, cv, rfl, -⟩ := o2.form; have q3 := keeps_trans (keeps_drew u1) q2)
          | (go_at_call 23; refine (G1.out.write_ HZ.out [97] q ⟨by omega, by omega⟩ _ rfl o2 rfl q3 (by have := HN2.out; omega) WR.out).mono ?_; rintro e u3 ⟨rfl, G3, g3⟩))
        clear SS SW SZ
        go_wp2_with fail
        go_roundw
        case rel => exact ⟨j + 1, writeF f q l2, G3, by omega, by go_num, TS.out, g3⟩
        case measure => simp [intOf]; omega
      · obtain rfl : j = n1 := by omega
        have hfl : (f.now.length : Int) ≤ 50000 := by have := TT.out.le; omega
        have CR := Lib.hid (read1 (f := f) TT.out.name (by omega))
        clear hlt hj
        go_wp2_with fail
        refine (HH.out.read_ HZ.out [97] 0 16777216 i0_ok iM_ok _ rfl CR.out).mono ?_
        rintro e w9 ⟨A9, c9, rfl, hc9, o9, h9, k9⟩
        have H9 := Lib.hid h9
        have O9 := Lib.hid o9
        have NA9 := Lib.hid (show ∀ k, (Value.slice A9 f.now.length c9).ownBlock = some k → ¬ G k from fun k hk hg => by have h1 := (o9.lt k hk).1; have h2 := K.lt HH.out.D k hg; omega)
        have LO := Lib.hid (K.loose (h9.z HZ.out) h9.D)
        clear o9 h9 k9
        obtain ⟨N, hN⟩ : ∃ N, f.now.length = N := ⟨_, rfl⟩
        simp only [hN] at hc9 hfl ⊢
        have HNN := Lib.hid hN
        clear hN
        unfold dpt at LO
        go_wp2_with fail
        refine LO.out.mono ?_
        rintro e w10 ⟨v10, rfl, o10, k10⟩
        have e10 : placesL (D1 f).l = (looseF f).map fun k => (f.name, k) := places1 f
        rw [e10] at o10
        obtain ⟨A10, c10, rfl, hc10, -⟩ := o10.form
        have H10 := Lib.hid (H9.out.keep k10)
        have P9 := Lib.hid (O9.out.keep k10)
        have NA10 := Lib.hid (fun (k : Nat) (hk : (Value.slice A10 _ c10).ownBlock = some k) (hg : G k) => show False by have h1 := (o10.lt k hk).1; have h2 := K.lt H9.out.D k hg; omega)
        clear O9
        have O10 := Lib.hid o10
        clear o10 e10 LO
        rw [List.length_map] at *
        obtain ⟨L, hL⟩ : ∃ L, (looseF f).length = L := ⟨_, rfl⟩
        simp only [hL] at hc10 ⊢
        have HL := Lib.hid hL
        clear hL
        go_wp2_with fail
        refine (H10.out.armT_ HZ.out 1 i1_ok (arm1 f)).mono ?_
        rintro e w11 ⟨rfl, F11, h11, t11⟩
        have H11 := Lib.hid h11
        have R9 := Lib.hid (P9.out.turn2 NA9.out t11)
        have R10 := Lib.hid (O10.out.turn2 NA10.out t11)
        clear h11 t11 P9 NA9 O10 NA10
        go_wp2_with fail
        refine (H11.out.createT_ HZ.out [98] _ rfl (dead1 _ _)).mono ?_
        rintro e w12 ⟨rfl, F12, h12, t12⟩
        have H12 := Lib.hid h12
        have S9 := Lib.hid (R9.out.1.turn2 R9.out.2 t12)
        have S10 := Lib.hid (R10.out.1.turn2 R10.out.2 t12)
        clear h12 t12 R9 R10
        obtain ⟨i0, hi, hz0, hz1, hz2⟩ := info_parts info_int
        have ke := keeps_alloc w12 (.cells #[] 3)
        have O0 := Lib.hid (show Own (w12.alloc (.cells #[] 3)) w12.heap.size 3 1 (.slice (some ⟨w12.heap.size, 0, none⟩) 0 0) 0 [] from ⟨rfl, .inr ⟨w12.heap.size, 0, #[], (0, 0), rfl, Nat.le_refl _, heap_alloc_new w12 _, .inl rfl, Nat.le_refl _, by simp [maxLen], rfl, rfl⟩⟩)
        have KP2 := Lib.hid (HB3.out.low (keeps_trans H12.out.kp ke))
        go_wp2_with (at_builtin; refine wpList_app_g (by simp [go_sem]) _ _ 23 rfl w12.heap.size 3 i0 (.int .i64 0) 1 8 Try.underlying23 hi hz0 hz1 hz2 rfl (by decide) _ 0 [] rfl O0.out _ A3 n3 c3 (intC l3) rfl (by rw [intC_length, HN3.out, Nat.mul_one]) KP2.out (intC_one _) (by unfold maxLen; omega) (by omega) (by simp) ?_; intro v5 w5 hown5 hg5 hb5)
        have hg5' : (w12.alloc (.cells #[] 3)).grownBy w5 (Value.slice (some ⟨w12.heap.size, 0, none⟩) 0 0).ownBlock := hg5
        have k5 : Keeps w12 w5 := Below.grown ke hg5' ke.size (fun g hg => (O0.out.lt g hg).1)
        have o5 : Own w5 w12.heap.size 3 1 v5 n3 (intC l3) := by have := hown5; rwa [Nat.zero_add] at this
        obtain ⟨A5, c5, rfl, hc5, -, -, hb5'⟩ := o5.form
        have H5' := Lib.hid (H12.out.keep k5)
        have AT5 := Lib.hid o5.at_
        have NI5 := Lib.hid (show ∀ ad, A5 = some ad → ¬ F12 ad.block from fun ad ha hf => by have h6 := (hb5' ad ha).2.1; have h7 := K.lt H12.out.D _ hf; omega)
        clear hown5 hg5 hg5' hb5 hb5' o5 ke hi hz0 hz1 hz2 O0 KP2
        refine (H5'.out.onT_ HZ.out A5 n3 c5 l3 AT5.out NI5.out HN3.out hc5 (by omega) (on1 f l3)).mono ?_
        rintro e w13 ⟨rfl, F13, h13, t13⟩
        have H13 := Lib.hid h13
        have T9 := Lib.hid ((S9.out.1.keep k5).turn2 S9.out.2 t13)
        have T10 := Lib.hid ((S10.out.1.keep k5).turn2 S10.out.2 t13)
        clear h13 k5 AT5 NI5 t13 S9 S10
        obtain ⟨BB, hBB⟩ : ∃ BB, backB f (keptF f 0 l3) = BB := ⟨_, rfl⟩
        have hbn := backB_bounds f (keptF f 0 l3) (by rw [TT.out.lasts]; exact TT.out.ge)
        rw [hBB, TT.out.lasts, HNN.out] at hbn
        have HBB := Lib.hid hBB
        have CR2 := Lib.hid (show readS (D1 (backF f 0 l3)) [97] 0 16777216 = (BB, 0) by
          have h1 := read1 (f := backF f 0 l3) TT.out.name (by show (backB f (keptF f 0 l3)).length ≤ _; rw [hBB]; omega)
          rw [h1]
          exact congrArg (·, 0) hBB)
        clear hBB
        go_wp2_with fail
        refine (H13.out.read_ HZ.out [97] 0 16777216 i0_ok iM_ok _ rfl CR2.out).mono ?_
        rintro e w14 ⟨A14, c14, rfl, hc14, o14, h14, k14⟩
        have H14 := Lib.hid h14
        have HB14 := Lib.hid (show Bs w14 A14 BB from o14.at_)
        have HB9 := Lib.hid (show Bs w14 A9 f.now from (T9.out.1.keep k14).at_)
        have O10 := Lib.hid (T10.out.1.keep k14)
        clear o14 h14 k14 T9 T10
        obtain ⟨M, hM⟩ : ∃ M, BB.length = M := ⟨_, rfl⟩
        simp only [hM] at hc14 hbn ⊢
        have HM := Lib.hid hM
        have m1 : n ≤ M := by have := HN.out; omega
        have m2 : M ≤ N := by omega
        have t1 : decide (M < n) = false := decide_eq_false (by omega)
        have t2 : decide ((M : Int) < (n : Int)) = false := decide_eq_false (by omega)
        have t3 : decide (N < M) = false := decide_eq_false (by omega)
        have t4 : decide ((N : Int) < (M : Int)) = false := decide_eq_false (by omega)
        clear hM hbn
        go_wp2_with fail
        have LK := Lib.hid (show ∀ k, f.loose k = true → k < sect f.now.length from ((K.ok HH.out.D).files f (by simp [D1])).loose)
        have hLb : (L : Int) ≤ 50000 := by
          have h1 : (looseF f).length ≤ (List.range (sect f.now.length)).length := List.length_filter_le _ _
          rw [HL.out, HNN.out, List.length_range] at h1
          unfold sect at h1
          omega
        clear t1 t2 t3 t4
        go_loopw [22] (fun i wv => ∃ r : Nat, r ≤ M ∧ i = .int .i64 r ∧ Keeps w14 wv) (fun i _ => M - (intOf i).toNat)
        case atStart => exact ⟨0, Nat.zero_le _, rfl, keeps_refl _⟩
        case round =>
          obtain ⟨r, hr, rfl, kr⟩ := hrel
          have KR := Lib.hid kr
          clear kr
          by_cases hlt : r < M
          · have hrm : (r : Int) < (M : Int) := by omega
            obtain ⟨sc, hsc⟩ : ∃ sc, r / 64 = sc := ⟨_, rfl⟩
            have q1 : Int.tdiv (r : Int) 64 = (sc : Int) := by rw [Int.tdiv_eq_ediv_of_nonneg (by omega), ← hsc]; exact (Int.natCast_ediv r 64).symm
            have HSC := Lib.hid hsc
            have hscb : (sc : Int) ≤ 50000 := by omega
            clear hsc
            go_wp2_with fail
            go_loopw [23, 24] (fun st k wz => ∃ kk : Nat, kk ≤ L ∧ k = .int .i64 kk ∧ st = .bool (anyK (looseF f) l3 sc kk) ∧ Keeps w14 wz) (fun _ k _ => L - (intOf k).toNat)
            case atStart => exact ⟨0, Nat.zero_le _, rfl, rfl, KR.out⟩
            case round =>
              obtain ⟨kk, hkk, rfl, rfl, kz⟩ := hrel
              have KZ := Lib.hid kz
              clear kz
              by_cases hlk : kk < L
              · have hkl : (kk : Int) < (L : Int) := by omega
                obtain ⟨p, hp⟩ : ∃ p, (looseF f)[kk]? = some p := ⟨_, List.getElem?_eq_getElem (by have := HL.out; omega)⟩
                have hpc := place_cell f.name (looseF f) kk p hp
                obtain ⟨g, rfl, q0, -⟩ := (O10.out.keep KZ.out).cell (j := kk * 2 + 1) (by rw [(O10.out).1]; have := HL.out; omega)
                rw [hpc] at q0
                have HP := Lib.hid hp
                clear hpc hp
                obtain ⟨st, hst⟩ : ∃ st, anyK (looseF f) l3 sc kk = st := ⟨_, rfl⟩
                rw [hst]
                have ST := Lib.hid (show anyK (looseF f) l3 sc (kk + 1) = (st || (decide (p = sc) && l3.contains (kk : Int))) by rw [anyK, hst, HP.out]; simp)
                clear hst
                by_cases hps : p = sc
                · subst hps
                  obtain ⟨R, hR⟩ : ∃ R, l3.contains (kk : Int) = R := ⟨_, rfl⟩
                  have HC := Lib.hid (has6_any A3 n3 c3 l3 (kk : Int) wr (HB3.out.low (keeps_trans H14.out.kp KZ.out)) HN3.out (by omega))
                  rw [hR] at HC ST
                  have S2 := Lib.hid (show anyK (looseF f) l3 p (kk + 1) = (st || R) by rw [ST.out]; simp)
                  clear hR ST
                  rcases R with _ | _
                  · go_wp2_with fail
                    refine HC.out.mono ?_
                    rintro e w' ⟨rfl, rfl⟩
                    go_wp2_with fail
                    refine ⟨?_, ?measure⟩
                    (repeat apply Exists.intro)
                    refine ⟨?rel, rfl⟩
                    case rel => exact ⟨kk + 1, by omega, by go_num, by rw [S2.out]; simp, KZ.out⟩
                    case measure => simp [intOf]; omega
                  · go_wp2_with fail
                    refine HC.out.mono ?_
                    rintro e w' ⟨rfl, rfl⟩
                    go_wp2_with fail
                    refine ⟨?_, ?measure⟩
                    (repeat apply Exists.intro)
                    refine ⟨?rel, rfl⟩
                    case rel => exact ⟨kk + 1, by omega, by go_num, by rw [S2.out]; simp, KZ.out⟩
                    case measure => simp [intOf]; omega
                · have hpb : ((p : Int) == (sc : Int)) = false := by rw [beq_eq_false_iff_ne]; omega
                  have S2 := Lib.hid (show anyK (looseF f) l3 sc (kk + 1) = st by rw [ST.out]; simp [hps])
                  clear hps ST
                  go_wp2_with fail
                  go_roundw
                  case rel => exact ⟨kk + 1, by omega, by go_num, by rw [S2.out], KZ.out⟩
                  case measure => simp [intOf]; omega
              · obtain rfl : kk = L := by omega
                obtain ⟨kept, hkept⟩ : ∃ kept, keptF f 0 l3 sc = kept := ⟨_, rfl⟩
                have AK := Lib.hid (show anyK (looseF f) l3 sc kk = kept by rw [← HL.out, anyK_kept f LK.out, hkept])
                rw [AK.out]
                have hrb : r < BB.length := by have := HM.out; omega
                have GT := Lib.hid (show BB.getD r 0 = if kept = true then f.now.getD r 0 else l.getD r 0 by
                  have h1 := backB_get f (keptF f 0 l3) (by rw [TT.out.lasts]; exact TT.out.ge) (i := r) (by rw [HBB.out]; exact hrb)
                  rw [HBB.out, TT.out.lasts, HSC.out, hkept] at h1
                  exact h1)
                obtain ⟨gd, rfl, ga⟩ := (HB14.out.keep KZ.out).at_ hrb
                clear hkept hlk hkk
                rcases kept with _ | _
                · by_cases hrn : r < n
                  · have hri : (r : Int) < (n : Int) := by omega
                    obtain ⟨fd, rfl, fa⟩ := (HB.out.keep (keeps_trans H14.out.kp KZ.out)).at_ (show r < l.length by have := HN.out; omega)
                    have e1 : BB.getD r 0 = l.getD r 0 := by have := GT.out; simpa using this
                    rw [e1] at ga
                    generalize l.getD r 0 = x at *
                    clear e1 hrb hrn
                    go_wp2_with fail
                    exact ⟨⟨r + 1, by omega, by go_num, KZ.out⟩, by simp [intOf]; omega⟩
                  · have hri : ¬ (r : Int) < (n : Int) := by omega
                    have e1 : BB.getD r 0 = 0 := by
                      have h1 := GT.out
                      rw [if_neg (by decide)] at h1
                      rw [h1, List.getD_eq_getElem?_getD, List.getElem?_eq_none (by have := HN.out; omega)]
                      rfl
                    rw [e1] at ga
                    clear e1 hrb hrn
                    go_wp2_with fail
                    exact ⟨⟨r + 1, by omega, by go_num, KZ.out⟩, by simp [intOf]; omega⟩
                · obtain ⟨fd, rfl, fa⟩ := (HB9.out.keep KZ.out).at_ (show r < f.now.length by have := HNN.out; omega)
                  have e1 : BB.getD r 0 = f.now.getD r 0 := by have := GT.out; simpa using this
                  rw [e1] at ga
                  generalize f.now.getD r 0 = x at *
                  clear e1 hrb
                  go_wp2_with fail
                  exact ⟨⟨r + 1, by omega, by go_num, KZ.out⟩, by simp [intOf]; omega⟩
          · obtain rfl : r = M := by omega
            clear hlt hr
            go_wp2_with fail
            go_loopw [26] (fun k wz => ∃ kk : Nat, kk ≤ L ∧ k = .int .i64 kk ∧ Keeps w14 wz) (fun k _ => L - (intOf k).toNat)
            case atStart => exact ⟨0, Nat.zero_le _, rfl, KR.out⟩
            case round =>
              obtain ⟨kk, hkk, rfl, kz⟩ := hrel
              have KZ := Lib.hid kz
              clear kz
              by_cases hlk : kk < L
              · have hkl : (kk : Int) < (L : Int) := by omega
                obtain ⟨p, hp⟩ : ∃ p, (looseF f)[kk]? = some p := ⟨_, List.getElem?_eq_getElem (by have := HL.out; omega)⟩
                have hpc := place_cell f.name (looseF f) kk p hp
                obtain ⟨g, rfl, q0, -⟩ := (O10.out.keep KZ.out).cell (j := kk * 2 + 1) (by rw [(O10.out).1]; have := HL.out; omega)
                rw [hpc] at q0
                obtain ⟨R, hR⟩ : ∃ R, l3.contains (kk : Int) = R := ⟨_, rfl⟩
                have HC := Lib.hid (has6_any A3 n3 c3 l3 (kk : Int) wr (HB3.out.low (keeps_trans H14.out.kp KZ.out)) HN3.out (by omega))
                rw [hR] at HC
                rcases R with _ | _
                · clear hpc hp hR
                  go_wp2_with fail
                  refine HC.out.mono ?_
                  rintro e w' ⟨rfl, rfl⟩
                  go_wp2_with fail
                  refine ⟨?_, ?measure⟩
                  (repeat apply Exists.intro)
                  refine ⟨?rel, rfl⟩
                  case rel => exact ⟨kk + 1, by omega, by go_num, KZ.out⟩
                  case measure => simp [intOf]; omega
                · have hkp := (kept_iff f LK.out l3 p).2 ⟨kk, hp, hR⟩
                  have hpl : f.loose p = true := by unfold keptF at hkp; rw [Bool.and_eq_true] at hkp; exact hkp.1
                  have hps := LK.out p hpl
                  have hge := endK_ge f.now.length (keptF f 0 l3) (sect f.now.length) p hps hkp
                  have hbl := backB_length f (keptF f 0 l3)
                  rw [HBB.out, HM.out] at hbl
                  rw [HNN.out] at hge hps hbl
                  have hpb : (p : Int) ≤ 50000 := by unfold sect at hps; omega
                  have hmin : min (64 * (p + 1)) N ≤ r := by omega
                  clear hpc hp hR hkp hpl hps hge hbl
                  go_wp2_with fail
                  refine HC.out.mono ?_
                  rintro e w' ⟨rfl, rfl⟩
                  go_wp2_with fail
                  all_goals exact ⟨⟨kk + 1, by omega, by omega, KZ.out⟩, by simp [intOf]; omega⟩
              · obtain rfl : kk = L := by omega
                go_wp2_with fail
                refine (WK.out _ (keeps_trans H14.out.kp KZ.out)).mono ?_
                rintro e w17 ⟨rfl, k17⟩
                have K17 := Lib.hid (keeps_trans (keeps_trans H14.out.kp KZ.out) k17)
                clear k17
                go_wp2_with fail
                go_ret
                exact ⟨rfl, K17.out⟩
end Go.Proofs.Ytpbkkbkpodcgnaa
