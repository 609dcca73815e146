/- Chapter 16: what Pick promises; the laws' works, Large, copied, same. -/
import Derived.Test.YtdfaogagadoooaaPickC
namespace Go.Proofs.Ytdfaogagadoooaa
open Go.RowKit
set_option linter.unusedSimpArgs false
set_option linter.unusedVariables false
set_option maxRecDepth 100000

/-- what Pick promises -/
structure PickOk : Prop where
  pick : ∀ (A : Option Addr) (n c : Nat) (l : List Cd) (w : World), CdsAt w A l → n = l.length → n ≤ 1000 → n ≤ c → c ≤ maxLen → (∀ x ∈ l, x.near.length ≤ 100000) →
    Calls Try.prog 12 #[.slice A n c] w fun e w' => ∃ v out, e = .returned v ∧ IsPick (l.map Cd.n) out ∧ Own w' w.heap.size 30 1 v out.length (celU out) ∧ Keeps w w'
/-- what a law has to come to -/
def Yes (w : World) (e : Ending) (w' : World) : Prop := e = .returned (.bool true) ∧ Keeps w w'

/-! ### Large -/
def sumN (l : List Cd) (k : Nat) : Nat := ((l.take k).map fun x => min x.near.length 3000).sum
theorem sumN_next {l : List Cd} {k : Nat} {x : Cd} (hx : l[k]? = some x) : sumN l (k + 1) = sumN l k + min x.near.length 3000 := by
  unfold sumN
  rw [List.take_add_one, hx]
  simp
theorem sumN_le {l : List Cd} {x : Cd} (hx : x ∈ l) : min x.near.length 3000 ≤ sumN l l.length := by
  unfold sumN
  rw [List.take_length]
  induction l with
  | nil => cases hx
  | cons y l ih =>
    simp only [List.map_cons, List.sum_cons]
    rcases List.mem_cons.1 hx with rfl | h
    · omega
    · have := ih h
      omega
structure Few (l : List Cd) : Prop where
  len : l.length ≤ 100
  near : ∀ x ∈ l, x.near.length ≤ 2000
def LargeV (w : World) (l : List Cd) (e : Ending) (w' : World) : Prop := ∃ b, e = .returned (.bool b) ∧ Keeps w w' ∧ (b = false → Few l)
set_option maxHeartbeats 8000000 in
theorem large16_any (A : Option Addr) (n c : Nat) (l : List Cd) (w : World) (hl : CdsAt w A l) (hn : n = l.length) :
    Calls Try.prog 9 #[.slice A n c] w (LargeV w l) := by
  have HL := Lib.hid hl
  have HN := Lib.hid hn
  clear hl hn
  go_enter Try.func9, Try.ntmps9
  go_wp2_with fail
  go_loopw [3, 4] (fun u i wr => ∃ k s : Nat, k ≤ n ∧ i = .int .i64 k ∧ u = .int .i64 s ∧ s = n + sumN l k ∧ (k = 0 ∨ s ≤ 5000) ∧ Keeps w wr) (fun _ i _ => n - (intOf i).toNat)
  case atStart => exact ⟨0, n, Nat.zero_le _, rfl, rfl, by simp [sumN], .inl rfl, keeps_refl _⟩
  case round =>
    obtain ⟨k, s, hk, rfl, rfl, hs, h5, hkp⟩ := hrel
    have HK := Lib.hid hkp
    have HS := Lib.hid hs
    clear hkp hs
    by_cases hlt : k < n
    · have hkn : (k : Int) < (n : Int) := by omega
      have hk0 : (0 : Int) ≤ (k : Int) := by omega
      by_cases hs2 : s ≤ 2000
      · obtain ⟨x, hx⟩ : ∃ x, l[k]? = some x := ⟨_, List.getElem?_eq_getElem (by have := HN.out; omega)⟩
        have SN := Lib.hid (sumN_next hx)
        obtain ⟨ad, hA, -, hXd⟩ := cds_at (HL.out.keep HK.out).cells hx
        subst hA
        obtain ⟨b0, b1, b2⟩ := hXd
        obtain ⟨q, hq⟩ : ∃ q, x.near.length = q := ⟨_, rfl⟩
        rw [hq] at b2 SN
        have s1 : (s : Int) ≤ 2000 := by omega
        have t1 : decide ((s : Int) ≤ 2000) = true := decide_eq_true (by omega)
        have hnM : (n : Int) ≤ 2000 := by have := HS.out; omega
        have HI := Lib.hid hlt
        clear hq hx h5 hs2 hlt hk
        by_cases h3 : q ≤ 3000
        · have q1 : (q : Int) ≤ 3000 := by omega
          have Q := Lib.hid h3
          clear h3
          go_wp2_with fail
          go_roundw
          case rel => exact ⟨k + 1, s + q, by have := HI.out; omega, by go_num, by go_num, by rw [SN.out, HS.out]; have := Q.out; omega, .inr (by have := Q.out; omega), HK.out⟩
          case measure => have := HI.out; simp [intOf]; omega
        · have q1 : (3000 : Int) < (q : Int) := by omega
          have Q := Lib.hid h3
          clear h3
          go_wp2_with fail
          go_roundw
          case rel => exact ⟨k + 1, s + 3000, by have := HI.out; omega, by go_num, by go_num, by rw [SN.out, HS.out]; have := Q.out; omega, .inr (by omega), HK.out⟩
          case measure => have := HI.out; simp [intOf]; omega
      · have s1 : (2000 : Int) < (s : Int) := by omega
        have t1 : decide ((s : Int) ≤ 2000) = false := decide_eq_false (by omega)
        have t2 : decide ((2000 : Int) < (s : Int)) = true := decide_eq_true (by omega)
        clear hs2 h5 hlt hk
        go_wp2_with fail
        go_ret
        exact ⟨_, rfl, HK.out, fun h => by cases h⟩
    · have hkn : ¬ ((k : Int) < (n : Int)) := by omega
      by_cases hs2 : 2000 < s
      · have t2 : decide ((2000 : Int) < (s : Int)) = true := decide_eq_true (by omega)
        clear hlt h5 hk hs2
        go_wp2_with fail
        go_ret
        exact ⟨_, rfl, HK.out, fun h => by cases h⟩
      · have t2 : decide ((2000 : Int) < (s : Int)) = false := decide_eq_false (by omega)
        have FW := Lib.hid (show n ≤ 100 → Few l from fun h => ⟨by have := HN.out; omega, fun x hx => by
          have h1 := sumN_le hx
          rw [← HN.out, ← show k = n by omega] at h1
          have := HS.out
          omega⟩)
        by_cases h100 : 100 < n
        · have t3 : decide ((100 : Int) < (n : Int)) = true := decide_eq_true (by omega)
          clear hlt h5 hk hs2 h100
          go_wp2_with fail
          go_ret
          exact ⟨_, rfl, HK.out, fun h => by cases h⟩
        · have t3 : decide ((100 : Int) < (n : Int)) = false := decide_eq_false (by omega)
          have FW2 := Lib.hid (FW.out (by omega))
          clear hlt h5 hk hs2 h100
          go_wp2_with fail
          go_ret
          exact ⟨_, rfl, HK.out, fun _ => FW2.out⟩

/-! ### Copies -/
theorem step_app16 {P : Program} {w : World} {ops : Array Oper} {o : Oper} {a : Act} {K : Act → World → Prop} {Q : Exit → Act → World → Prop} {E : Prop} (hg : Region.wanted o (yielded ops a.tmps) = true) (s x : Operand) (t : TypeId)
    (ho : o.op = .call { callee := .builtin .append, args := #[s, x], argTypes := #[t, t] })
    (base : Nat) (e : TypeId) (i : TypeInfo) (z : Value) (size bytes : Nat) (ht : P.underlying t = some (.slice e)) (hi : P.info? e = some i) (hz : i.zero = some z)
    (hsize : i.size = size) (hby : i.bytes = bytes) (hzs : z.cells.size = size) (hsz : 0 < size)
    (v : Value) (n : Nat) (xs : List Value) (hs : a.eval s = v) (hown : Own w base e size v n xs)
    (B : Nat) (A : Option Addr) (m c : Nat) (news : List Value) (hx : a.eval x = .slice A m c) (hm : news.length = m * size) (hr : At w B A news) (h1 : ∀ u ∈ news, u.oneCell' = true)
    (h63 : n + m ≤ maxLen) (hbytes : (n + m) * bytes ≤ 140737488355328) (hbase : base ≤ w.heap.size)
    (hK : ∀ v' w', Own w' base e size v' (n + m) (xs ++ news) → w.grownBy w' v.ownBlock → (v'.ownBlock = v.ownBlock ∨ v'.ownBlock = some w.heap.size) → K (a.put o.dst v') w') :
    if Region.wanted o (yielded ops a.tmps) = true then Oper.wp P o a w K Q else E := by
  rw [if_pos hg]
  exact wp_app w s x t ho base e i z size bytes ht hi hz hsize hby hzs hsz v n xs hs hown B A m c news hx hm hr h1 h63 hbytes hbase hK
/-- a candidate whose neighbours lie in a row of the call's own -/
structure CdOwn (W : World) (B : Nat) (x : Cd) : Prop where
  v : x.v < 4294967296
  key : x.key < 18446744073709551616
  ok : ∀ y ∈ x.near, y < 4294967296
  own : Own W B 30 1 (.slice x.A x.near.length x.c) x.near.length (celU x.near)
theorem CdOwn.cd {W : World} {B : Nat} {x : Cd} (h : CdOwn W B x) : CdOk W x := by
  obtain ⟨A, c, e, h1, h2, -, -⟩ := h.own.form
  injection e with e1 e2 e3
  subst e1 e3
  exact ⟨h.v, h.key, h1, h2, h.own.at_, h.ok⟩
theorem CdOwn.keep {W W' : World} {B : Nat} {x : Cd} (h : CdOwn W B x) (k : Keeps W W') : CdOwn W' B x := ⟨h.v, h.key, h.ok, h.own.keep k⟩
/-- a row of candidates grows: their neighbours stay -/
theorem CdOwn.grown {W W' : World} {B B' n : Nat} {x : Cd} {v : Value} {xs : List Value} (h : CdOwn W B x) (o : Own W B' 33 3 v n xs) (g : W.grownBy W' v.ownBlock) : CdOwn W' B x := ⟨h.v, h.key, h.ok, h.own.grown g (h.own.apart o (by decide))⟩
def CopyV (w : World) (l : List Cd) (e : Ending) (w' : World) : Prop := ∃ v l', e = .returned v ∧ l'.map Cd.n = l.map Cd.n ∧ Own w' w.heap.size 33 3 v l'.length (cdsC l') ∧ (∀ x ∈ l', CdOwn w' w.heap.size x) ∧ Keeps w w'
theorem map_take_next {l l' : List Cd} {k : Nat} {x y : Cd} (h : l'.map Cd.n = (l.take k).map Cd.n) (hx : l[k]? = some x) (hy : y.n = x.n) : (l' ++ [y]).map Cd.n = (l.take (k + 1)).map Cd.n := by
  rw [List.take_add_one, hx, List.map_append, List.map_append, h]
  simp [hy]
set_option maxHeartbeats 16000000 in
theorem copied16_any (A : Option Addr) (n c : Nat) (l : List Cd) (w : World) (hl : CdsAt w A l) (hn : n = l.length) (hm : n ≤ 1000) (hnear : ∀ x ∈ l, x.near.length ≤ 100000) :
    Calls Try.prog 11 #[.slice A n c] w (CopyV w l) := by
  obtain ⟨i0, hi, hz0, hz1, hz2⟩ := info_partsU info_cand
  obtain ⟨j0, hj, hy0, hy1, hy2⟩ := info_partsU info_u32P
  have HL := Lib.hid hl
  have HN := Lib.hid hn
  have HM := Lib.hid hm
  have NR := Lib.hid hnear
  clear hl hn hm hnear
  go_enter Try.func11, Try.ntmps11
  go_wp2_with fail
  go_loopw [3, 4] (fun u i wr => ∃ (k : Nat) (l' : List Cd), k ≤ n ∧ i = .int .i64 k ∧ l'.map Cd.n = (l.take k).map Cd.n ∧ Own wr w.heap.size 33 3 u l'.length (cdsC l') ∧ (∀ x ∈ l', CdOwn wr w.heap.size x) ∧ Keeps w wr) (fun _ i _ => n - (intOf i).toNat)
  case atStart => exact ⟨0, [], Nat.zero_le _, rfl, rfl, Own.nil _ _ _ _, by simp, keeps_refl _⟩
  case round =>
    obtain ⟨k, l', hk, rfl, hmap, hO, hall, hkp⟩ := hrel
    have HO := Lib.hid hO
    have HK := Lib.hid hkp
    have HP := Lib.hid hmap
    have HA := Lib.hid hall
    have LL := Lib.hid (show l'.length = k by
      have h1 := congrArg List.length hmap
      rw [List.length_map, List.length_map, List.length_take] at h1
      have := HN.out
      omega)
    obtain ⟨Ao, co, rfl, hco, -, -, -⟩ := hO.form
    clear hO hkp hmap hall
    by_cases hlt : k < n
    · obtain ⟨x, hx⟩ : ∃ x, l[k]? = some x := ⟨_, List.getElem?_eq_getElem (by have := HN.out; omega)⟩
      have XO := Lib.hid ((HL.out.ok x (List.mem_of_getElem? hx)).keep HK.out)
      have XN := Lib.hid (NR.out x (List.mem_of_getElem? hx))
      obtain ⟨ad, hA, -, hXd⟩ := cds_at HL.out.cells hx
      subst hA
      have XD := Lib.hid hXd
      obtain ⟨b0, b1, b2⟩ := hXd.keep HK.out
      have HX := Lib.hid hx
      have hkn : (k : Int) < (n : Int) := by omega
      have hk0 : (0 : Int) ≤ (k : Int) := by omega
      have hn3 : (n : Int) ≤ 1000 := by have := HM.out; omega
      have HI := Lib.hid hlt
      obtain ⟨xv, xk, XA, xc, xn⟩ := x
      simp only at b0 b1 b2
      obtain ⟨q, hq⟩ : ∃ q, xn.length = q := ⟨_, rfl⟩
      rw [hq] at b2
      have HQ := Lib.hid hq
      have XNq := Lib.hid (show q ≤ 100000 from by rw [← hq]; exact XN.out)
      obtain ⟨m, hml⟩ : ∃ m, l'.length = m := ⟨_, rfl⟩
      rw [hml] at HO LL hco ⊢
      have HML := Lib.hid hml
      clear hx hlt hk hq hml
      go_wp2_with (at_builtin; refine wpList_app _ rfl _ _ 26 rfl w.heap.size 30 j0 (.int .u32 0) 1 4 Try.underlying26 hj hy0 hy1 hy2 rfl (by decide) (.slice none 0 0) 0 [] rfl (Own.nil _ _ _ _) _ _ q xc (celU xn) rfl (by rw [celU_len, HQ.out, Nat.mul_one]) XO.out.at_ (celU_one _) (by have := XNq.out; unfold maxLen; omega) (by have := XNq.out; omega) HK.out.size ?_)
      intro v2 w2 o2 g2 b2'
      have k2 : Keeps wr w2 := Below.grown (keeps_refl _) g2 (Nat.le_refl _) (fun g hg => by cases hg)
      have o2 : Own w2 w.heap.size 30 1 v2 q (celU xn) := by simpa using o2
      obtain ⟨A2, c2, rfl, -, -, -, -⟩ := o2.form
      have O2 := Lib.hid (show CdOwn w2 w.heap.size ⟨xv, xk, A2, c2, xn⟩ from ⟨XO.out.v, XO.out.key, XO.out.ok, by rw [HQ.out]; exact o2⟩)
      have K2 := Lib.hid (keeps_trans HK.out k2)
      have HO2 := Lib.hid (HO.out.keep k2)
      have HA2 := Lib.hid (fun y hy => (HA.out y hy).keep k2)
      have SD := Lib.hid (fun (W : World) (kW : Keeps w W) => And.intro (XD.out.keep kW).1 (XD.out.keep kW).2.1)
      have s2 := SD.out w2 K2.out
      simp only at s2
      have NEW := Lib.hid (fun (W : World) (kW : Keeps (w2.alloc (.cells #[.int .u32 (xv : Int), .int .u64 (xk : Int), .slice A2 q c2] 33)) W) => show At W W.heap.size (some ⟨w2.heap.size, 0, none⟩) (cdC ⟨xv, xk, A2, c2, xn⟩) by
        have h := At.new w2 [.int .u32 (xv : Int), .int .u64 (xk : Int), .slice A2 q c2] 33 _ (show w2.heap.size < (w2.alloc (.cells #[.int .u32 (xv : Int), .int .u64 (xk : Int), .slice A2 q c2] 33)).heap.size by simp)
        have h2 := (h.keep kW).more kW.size
        unfold cdC
        simp only [HQ.out]
        exact h2)
      clear o2 g2 b2' k2 b0 b1 b2 HO HA XD
      go_wp2_with fail
      go_region_held3 (fun V => V.cell? (ad.add (k * 3)) = some (.int .u32 (xv : Int)) ∧ V.cell? ⟨(ad.add (k * 3)).block, (ad.add (k * 3)).off + 1, none⟩ = some (.int .u64 (xk : Int))) (first | assumption | exact SD.out _ (by first | assumption | exact keeps_trans K2.out (keeps_drew _) | exact keeps_trans K2.out (keeps_trans (keeps_alloc _ _) (keeps_drew _)))) (first
        | ((refine step_app16 (by simp [go_sem]) (.tmp 19) (.tmp 32) 22 rfl w.heap.size 33 i0 (.agg #[.int .u32 0, .int .u64 0, .slice none 0 0]) 3 40 Try.underlying22 hi hz0 hz1 hz2 rfl (by decide) _ m (cdsC l') (by simp [Act.eval, Act.put]) (HO2.out.keep (keeps_trans (keeps_alloc _ _) (keeps_drew _))) _ (some ⟨w2.heap.size, 0, none⟩) 1 1 (cdC ⟨xv, xk, A2, c2, xn⟩) (by simp [Act.eval, Act.put]) rfl (NEW.out _ (keeps_drew _)) (cdC_ones _) (by have := LL.out; unfold maxLen; omega) (by have := LL.out; omega) (by have := K2.out.size; simp; omega) ?_); intro v5 w5 hown5 hgrow5 hblk5; have kx := keeps_trans (keeps_alloc w2 (.cells #[.int .u32 (xv : Int), .int .u64 (xk : Int), .slice A2 q c2] 33)) (keeps_drew _); have ky := keeps_trans K2.out kx; have k5 : Keeps w w5 := Below.grown ky hgrow5 ky.size (fun g hg => (HO2.out.lt g hg).1); have O5 := Lib.hid hown5; have A5 := Lib.hid (fun y hy => ((HA2.out y hy).keep kx).grown (HO2.out.keep kx) hgrow5); have B5 := Lib.hid ((O2.out.keep kx).grown (HO2.out.keep kx) hgrow5); clear hown5 hgrow5 hblk5))
      have MP := Lib.hid (show (l' ++ [(⟨xv, xk, A2, c2, xn⟩ : Cd)]).map Cd.n = (l.take (k + 1)).map Cd.n from map_take_next HP.out HX.out rfl)
      have O6 := Lib.hid (show Own w5 w.heap.size 33 3 v5 (l' ++ [(⟨xv, xk, A2, c2, xn⟩ : Cd)]).length (cdsC (l' ++ [⟨xv, xk, A2, c2, xn⟩])) by
        rw [cdsC_put, List.length_append, HML.out]
        exact O5.out)
      have A6 := Lib.hid (show ∀ y ∈ l' ++ [(⟨xv, xk, A2, c2, xn⟩ : Cd)], CdOwn w5 w.heap.size y from fun y hy => by
        rcases List.mem_append.1 hy with hy | hy
        · exact A5.out y hy
        · rw [List.mem_singleton] at hy
          subst hy
          exact B5.out)
      have K5 := Lib.hid k5
      clear s2 k5 kx ky
      go_wp2_with fail
      go_roundw
      case rel => exact ⟨k + 1, l' ++ [⟨xv, xk, A2, c2, xn⟩], by have := HI.out; omega, by go_num, MP.out, O6.out, A6.out, K5.out⟩
      case measure => have := HI.out; simp [intOf]; omega
    · obtain rfl : k = n := by omega
      have E1 := Lib.hid (show l.take k = l from List.take_of_length_le (by have := HN.out; omega))
      clear hlt
      go_wp2_with fail
      go_ret
      refine ⟨_, l', rfl, by rw [HP.out, E1.out], HO.out, HA.out, HK.out⟩
end Go.Proofs.Ytdfaogagadoooaa
