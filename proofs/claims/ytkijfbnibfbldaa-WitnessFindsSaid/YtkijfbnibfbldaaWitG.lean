/- Package witness: Find, whatever the caller's functions are. -/
import Derived.Test.YtkijfbnibfbldaaWitF
namespace Go.Proofs.Ytkijfbnibfbldaa
open Go.RowKit
set_option linter.unusedSimpArgs false
set_option linter.unusedVariables false
set_option maxRecDepth 100000

theorem Turns.own {w0 w w' : World} {D D1 F F' : Nat → Prop} (h : Turns w0 w D D1) (t : Turns w w' F F') (hF : ∀ i, F i → w0.heap.size ≤ i) : Turns w0 w' D D1 :=
  ⟨h.only.trans t.only (fun i hi => .inr (hF i hi)), h.next⟩
/-- what Find leaves -/
def FindD {o : Outs} {av : Nat → Bool} (C : Caller o av) (D : Nat → Prop) (w : World) (a : List Nat) (w' : World) : Prop := ∃ D', C.J a D' w' ∧ Turns w w' D D'
/-- while a search goes on -/
structure Fnd (K : HeapOk) {o : Outs} {av : Nat → Bool} (C : Caller o av) (D : Nat → Prop) (w : World) (b mb : Nat) (p : Addr) (Fh : Nat → Prop) (sv : Value) (hp : List It) (W : Wt) (S : List Nat) (D1 : Nat → Prop) (wr : World) : Prop where
  at_ : SrAt K wr b mb p Fh sv hp W S
  J : C.J S D1 wr
  no : ∀ i, SF b mb Fh sv i → ¬ D1 i
  low : ∀ i, SF b mb Fh sv i → w.heap.size ≤ i
  T : Turns w wr D D1
section
variable {K : HeapOk} {o : Outs} {av : Nat → Bool} {C : Caller o av} {D D1 D2 : Nat → Prop} {w wr w' : World} {b mb : Nat} {p p' : Addr} {Fh F' : Nat → Prop} {sv sv' : Value} {hp hp' : List It} {W W' : Wt} {S S' : List Nat}
/-- the search's own turn -/
theorem Fnd.turn (h : Fnd K C D w b mb p Fh sv hp W S D1 wr) (hs : SrAt K w' b mb p' F' sv' hp' W' S) (t : Turns wr w' (SF b mb Fh sv) (SF b mb F' sv')) : Fnd K C D w b mb p' F' sv' hp' W' S D1 w' :=
  ⟨hs, C.same h.J t.only h.no, SF.not_ad' t h.no (C.lt h.J), fun i hi => by
    rcases t.next i hi with e | e
    · exact h.low i e
    · exact Nat.le_trans h.T.only.size e, h.T.own t h.low⟩
theorem Fnd.keep (h : Fnd K C D w b mb p Fh sv hp W S D1 wr) (k : Keeps wr w') : Fnd K C D w b mb p Fh sv hp W S D1 w' := h.turn (h.at_.keep k) (Turns.of_keeps k)
theorem Fnd.done (h : Fnd K C D w b mb p Fh sv hp W S D1 wr) : FindD C D w S wr := ⟨D1, h.J, h.T⟩
end

theorem eqlNil (t : TypeId) (ps rs : Array TypeId) (vr : Bool) (hu : Try.prog.underlying t = some (.func ps rs vr)) (w : World) : (∀ (f : Fn) (x c : Array Value), (binOp .eql t (.func f x c) .nilFunc).run Try.prog w = .ok (.bool false) w) ∧ (binOp .eql t .nilFunc .nilFunc).run Try.prog w = .ok (.bool true) w := by
  have h : ∀ (d : Nat) (f : Fn) (x c : Array Value), (Op.equalIn (d + 1) t (.func f x c) .nilFunc).run Try.prog w = .ok false w := fun d f x c => by
    simp [Op.equalIn, run_underlying hu]
  have h2 : ∀ (d : Nat), (Op.equalIn (d + 1) t .nilFunc .nilFunc).run Try.prog w = .ok true w := fun d => by
    simp [Op.equalIn, run_underlying hu]
  constructor
  · intro f x c
    simp only [binOp]
    simp [Op.equal, Op.maxDepth, h 9999]
  · simp only [binOp]
    simp [Op.equal, Op.maxDepth, h2 9999]
theorem eql_out (w : World) : (∀ (f : Fn) (x c : Array Value), (binOp .eql 39 (.func f x c) .nilFunc).run Try.prog w = .ok (.bool false) w) ∧ (binOp .eql 39 .nilFunc .nilFunc).run Try.prog w = .ok (.bool true) w := eqlNil _ _ _ _ Try.underlying39 w
theorem eql_avo (w : World) : (∀ (f : Fn) (x c : Array Value), (binOp .eql 40 (.func f x c) .nilFunc).run Try.prog w = .ok (.bool false) w) ∧ (binOp .eql 40 .nilFunc .nilFunc).run Try.prog w = .ok (.bool true) w := eqlNil _ _ _ _ Try.underlying40 w
/-- follow, where the function that avoids is known by its number -/
def FollowOk (K : HeapOk) {o : Outs} {av : Nat → Bool} (C : Caller o av) (ga : Nat) (ra : Value) : Prop :=
  ∀ (a : List Nat) (D : Nat → Prop) (w : World) (b mb : Nat) (p : Addr) (Fh : Nat → Prop) (sv : Value) (hp : List It) (W : Wt) (S : List Nat), SrAt K w b mb p Fh sv hp W S → Wait hp W S → C.J a D w → (∀ i, SF b mb Fh sv i → ¬ D i) →
    ∀ (A : Option Addr) (n c : Nat) (l : List Ed) (d : Nat), At w w.heap.size A (edsC l) → n = l.length → l.length ≤ 1000000 → (∀ e ∈ l, EdOk e) → (∀ ad, A = some ad → ¬ SF b mb Fh sv ad.block) → d < 18446744073709551616 →
    Calls Try.prog 32 #[.pointer (some ⟨b, 0, none⟩), .slice A n c, .int .u64 (d : Int), .func (.func ga) #[ra] #[]] w fun e w' => e = .returned (.tuple #[]) ∧ FolD K C a D w b mb Fh sv S (folW av S d l W) w'
theorem follow_ok (K : HeapOk) {o : Outs} {av : Nat → Bool} (C : Caller o av) : FollowOk K C C.ga C.ra :=
  fun _ _ _ _ _ _ _ _ _ _ _ h hw hJ hD A n c l d hA hn hm hok hAd hd => follow_any C h hw hJ hD A n c l d hA hn hm hok hAd hd
/-- no: where nobody waits any more -/
theorem ans_none {o : Outs} {av : Nat → Bool} {to most : Nat} {hp : List It} {W : Wt} {S : List Nat} (h : Wait hp W S) (hn : ∀ y ∈ hp, ¬ okI W y) (hS : S.length ≤ 16) : Ans o av to most S W (S, false, 0) := by
  by_cases hl : S.length = 16
  · by_cases hW : W = []
    · subst hW; exact .none S
    · obtain ⟨v, d, hx⟩ := leastW_of hW
      exact .far hx (.inr hl)
  · obtain rfl := h.none hn (by omega)
    exact .none S
theorem ans_far {o : Outs} {av : Nat → Bool} {to most : Nat} {hp m : List It} {W : Wt} {S : List Nat} {x : It} (h : Wait hp W S) (hn : NextV W hp x m) (hS : S.length ≤ 16) (hf : most < x.k ∨ S.length = 16) : Ans o av to most S W (S, false, 0) := by
  by_cases hl : S.length = 16
  · obtain ⟨v, d, hx⟩ := leastW_of (W := W) (by intro e; subst e; have := hn.ok; unfold okI lookM at this; simp at this)
    exact .far hx (.inr hl)
  · exact .far (h.least hn (by omega)) (hf.imp id (fun e => absurd e hl))
set_option maxHeartbeats 16000000 in
theorem find_any (K : HeapOk) {o : Outs} {av : Nat → Bool} (C : Caller o av) {D : Nat → Prop} {w : World} (hJ : C.J [] D w) (fr to most : Nat) (hfr : fr < 4294967296) (hto : to < 4294967296) (hmost : most < 18446744073709551616) :
    Calls Try.prog 13 #[.func (.func C.go) #[C.ro] #[], .func (.func C.ga) #[C.ra] #[], .int .u32 (fr : Int), .int .u32 (to : Int), .int .u64 (most : Int)] w fun e w' => ∃ r : Answ, e = .returned (.tuple #[.bool r.2.1, .int .i64 (r.2.2 : Int)]) ∧ Ans o av to most [] [(fr, 0)] r ∧ FindD C D w r.1 w' := by
  obtain ⟨go, hgo⟩ : ∃ go, C.go = go := ⟨_, rfl⟩
  obtain ⟨ro, hro⟩ : ∃ ro, C.ro = ro := ⟨_, rfl⟩
  have eo : ∀ args w, (callFunc go args).run Try.prog w = .ok (.enter go args) w := by rw [← hgo]; exact C.eo
  have OUT := Lib.hid (fun (a : List Nat) (D1 : Nat → Prop) (V : World) (v : Nat) (q : C.J a D1 V) (hv : v < 4294967296) (hl : a.length ≤ 16) => C.out v q hv hl)
  have FOL := Lib.hid (follow_ok K C)
  obtain ⟨ga, hga⟩ : ∃ ga, C.ga = ga := ⟨_, rfl⟩
  obtain ⟨ra, hra⟩ : ∃ ra, C.ra = ra := ⟨_, rfl⟩
  rw [hga, hra] at FOL
  rw [hgo, hro] at OUT
  rw [hgo, hro, hga, hra]
  have BEG := Lib.hid (begin_any K w fr hfr)
  have HJ := Lib.hid hJ
  have HTO := Lib.hid hto
  have HMO := Lib.hid hmost
  have q1 := (eql_out w).1 (.func go) #[ro] #[]
  have q2 := (eql_avo w).1 (.func ga) #[ra] #[]
  clear hgo hro hga hra hJ hfr hto hmost
  go_enter Try.func13, Try.ntmps13
  go_wp2_with fail
  refine BEG.out.mono ?_
  rintro e w1 ⟨b, rfl, mb, p1, F1, sv1, hp1, S1, W1, k1, low1⟩
  have F0 := Lib.hid (show Fnd K C D w b mb p1 F1 sv1 hp1 [(fr, 0)] [] D w1 from ⟨S1, C.keep HJ.out k1, fun i hi e => by have := low1 i hi; have := C.lt HJ.out i e; omega, low1, Turns.of_keeps k1⟩)
  have W0 := Lib.hid W1
  clear S1 W1 k1 low1
  go_wp2_with fail
  go_loopg [14] 17 (fun g _ wr => ∃ (S : List Nat) (W : Wt) (p : Addr) (Fh : Nat → Prop) (sv : Value) (hp : List It) (D1 : Nat → Prop), 17 - S.length ≤ g ∧ S.length ≤ 16 ∧ Fnd K C D w b mb p Fh sv hp W S D1 wr ∧ Wait hp W S ∧ ∀ r, Ans o av to most S W r → Ans o av to most [] [(fr, 0)] r)
  case atStart => exact ⟨[], [(fr, 0)], p1, F1, sv1, hp1, D, by simp, by simp, F0.out, W0.out, fun _ h => h⟩
  case round =>
    obtain ⟨S, W, p, Fh, sv, hp, D1, hg, hSl, hF, hW, hA⟩ := hrel
    have HG := Lib.hid hg
    have HS := Lib.hid hSl
    have HF := Lib.hid hF
    have HW := Lib.hid hW
    have HA := Lib.hid hA
    have PN := Lib.hid (next_any hF.at_ hW.once)
    clear hg hSl hF hW hA F0 W0
    go_wp2_with fail
    refine PN.out.mono ?_
    rintro e w4 (⟨rfl, F4, S4, T4, -, hno⟩ | ⟨x, rfl, F4, m4, S4, T4, -, hN4⟩)
    · have kx := keeps_alloc w4 (.cells #[.int .u64 0, .int .u32 0] 71)
      have FIN := Lib.hid ((HF.out.turn S4 T4).keep kx).done
      have AN := Lib.hid (HA.out _ (ans_none HW.out hno HS.out))
      clear S4 T4 hno kx
      go_wp2_with fail
      go_returns
      exact ⟨(S, false, 0), rfl, AN.out, FIN.out⟩
    · have kx := keeps_alloc w4 (.cells #[.int .u64 (x.k : Int), .int .u32 (x.i : Int)] 71)
      have F5 := Lib.hid ((HF.out.turn S4 T4).keep kx)
      have x0 : (w4.alloc (.cells #[.int .u64 (x.k : Int), .int .u32 (x.i : Int)] 71)).cell? ⟨w4.heap.size, 0, none⟩ = some (.int .u64 (x.k : Int)) := (Box.new w4 71 #[.int .u64 (x.k : Int), .int .u32 (x.i : Int)]).cell 0 rfl
      have x1 : (w4.alloc (.cells #[.int .u64 (x.k : Int), .int .u32 (x.i : Int)] 71)).cell? ⟨w4.heap.size, 1, none⟩ = some (.int .u32 (x.i : Int)) := (Box.new w4 71 #[.int .u64 (x.k : Int), .int .u32 (x.i : Int)]).cell 1 rfl
      have lx := (Box.new w4 71 #[.int .u64 (x.k : Int), .int .u32 (x.i : Int)]).lt
      have BX := Lib.hid (Box.new w4 71 #[.int .u64 (x.k : Int), .int .u32 (x.i : Int)])
      obtain ⟨A5, c5, rfl, -⟩ := F5.out.at_.own.form
      have c0 : (w4.alloc (.cells #[.int .u64 (x.k : Int), .int .u32 (x.i : Int)] 71)).cell? ⟨b, 0, none⟩ = some (.slice A5 S.length c5) := F5.out.at_.box.cell 0 rfl
      have lb := F5.out.at_.box.lt
      have HN4 := Lib.hid hN4
      have HL4 := Lib.hid S4.lt
      have T4 := Lib.hid T4
      clear S4 hN4 kx
      by_cases hfar : most < x.k
      · have FIN := Lib.hid F5.out.done
        have AN := Lib.hid (HA.out _ (ans_far HW.out HN4.out HS.out (.inl hfar)))
        have h1 : (most : Int) < (x.k : Int) := by omega
        have h2 : decide (most < x.k) = true := decide_eq_true hfar
        clear hfar
        go_wp2_with fail
        go_returns
        exact ⟨(S, false, 0), rfl, AN.out, FIN.out⟩
      · have h1 : decide ((most : Int) < (x.k : Int)) = false := decide_eq_false (by omega)
        have h2 : decide (most < x.k) = false := decide_eq_false hfar
        by_cases h16 : S.length = 16
        · have FIN := Lib.hid F5.out.done
          have AN := Lib.hid (HA.out _ (ans_far HW.out HN4.out HS.out (.inr h16)))
          have h3 : ((S.length : Int) == 16) = true := by simp only [beq_iff_eq]; omega
          clear hfar h16
          go_wp2_with fail
          go_returns
          exact ⟨(S, false, 0), rfl, AN.out, FIN.out⟩
        · have h3 : ((S.length : Int) == 16) = false := by simp only [beq_eq_false_iff_ne, ne_eq]; omega
          have LW := Lib.hid (HW.out.least HN4.out (by have := HS.out; omega))
          have HLE := Lib.hid (show x.k ≤ most by omega)
          have H16 := Lib.hid h16
          have hfit := HF.out.at_.fit x HN4.out.mem
          have HFIT := Lib.hid hfit
          clear hfar h16 hfit
          by_cases hto : x.i = to
          · have FIN := Lib.hid F5.out.done
            have AN := Lib.hid (HA.out _ (.yes LW.out HLE.out H16.out hto))
            have h4 : ((x.i : Int) == (to : Int)) = true := by simp only [beq_iff_eq]; omega
            clear hto
            go_wp2_with fail
            go_returns
            exact ⟨(S, true, 0), rfl, AN.out, FIN.out⟩
          · have h4 : ((x.i : Int) == (to : Int)) = false := by simp only [beq_eq_false_iff_ne, ne_eq]; omega
            have HNTO := Lib.hid hto
            have OO := Lib.hid (OUT.out S D1 _ x.i F5.out.J HFIT.out.i HS.out)
            obtain ⟨ov, hov⟩ : ∃ ov, o x.i = ov := ⟨_, rfl⟩
            rw [hov] at OO
            have HOV := Lib.hid hov
            have COK := Lib.hid (C.ok x.i HFIT.out.i)
            rw [hov] at COK
            obtain ⟨en, el⟩ := ov
            have NX := Lib.hid (show ¬ D1 w4.heap.size from fun e => by have h1 := C.lt HF.out.J _ e; have h2 := T4.out.only.size; omega)
            clear hto hov
            by_cases hen : en = 0
            · subst hen
              go_wp2_with (go_at_fn go; refine OO.out.mono ?_; rintro e w6 ⟨D2, A6, n6, c6, rfl, J6, T6, hn6, hA6, hB6⟩; have x0' := (T6.only.keepsB BX.out NX.out).cell 0 rfl; have x1' := (T6.only.keepsB BX.out NX.out).cell 1 rfl; have lx' := (T6.only.keepsB BX.out NX.out).lt)
              have hA6' : At w6 w6.heap.size A6 (edsC el) := hA6
              have S6 := F5.out.at_.far F5.out.no T6.only
              have no6 : ∀ i, SF b mb F4 (.slice A5 S.length c5) i → ¬ D2 i := fun i hi e => by
                rcases T6.next i e with h | h
                · exact F5.out.no i hi h
                · have := F5.out.at_.lt i hi; omega
              have SE := Lib.hid (settle_any S6 x.i (by have := HS.out; omega))
              have BX6 := Lib.hid (T6.only.keepsB BX.out NX.out)
              have HA6 := Lib.hid hA6'
              have HB6 := Lib.hid hB6
              have HJ6 := Lib.hid J6
              have HT6 := Lib.hid (F5.out.T.trans T6)
              have HNO6 := Lib.hid no6
              have HSZ := Lib.hid (show ∀ i, SF b mb F4 (.slice A5 S.length c5) i → ∀ ad, A6 = some ad → i ≠ ad.block from fun i hi ad e => by have h1 := hB6 ad e; have h2 := F5.out.at_.lt i hi; omega)
              clear J6 T6 hn6 hA6 hB6 hA6' S6 no6 x0 x1 lx c0 lb x0' x1' lx' OO
              refine SE.out.mono ?_
              rintro e w7 ⟨rfl, sv7, S7, T7⟩
              have W7 := Lib.hid (HW.out.settle HN4.out)
              have J7 := C.same HJ6.out T7.only HNO6.out
              have no7 := SF.not_ad' T7 HNO6.out (C.lt HJ6.out)
              have low7 : ∀ i, SF b mb F4 sv7 i → w.heap.size ≤ i := fun i hi => by
                rcases T7.next i hi with e | e
                · exact F5.out.low i e
                · exact Nat.le_trans HT6.out.only.size e
              have F7 := Lib.hid (show Fnd K C D w b mb p F4 sv7 m4 (delM W x.i) (S ++ [x.i]) D2 w7 from ⟨S7, J7, no7, low7, HT6.out.own T7 F5.out.low⟩)
              have BX7 := T7.only.keepsB BX6.out (fun e => by have := HL4.out _ e; omega)
              have x0 : w7.cell? ⟨w4.heap.size, 0, none⟩ = some (.int .u64 (x.k : Int)) := BX7.cell 0 rfl
              have lx := BX7.lt
              have A7 := HA6.out.only T7.only (fun ad e hi => HSZ.out _ hi ad e rfl)
              have FO := Lib.hid (FOL.out _ _ _ _ _ _ _ _ _ _ _ S7 W7.out J7 no7 A6 el.length c6 el x.k A7 rfl COK.out.1 COK.out.2 (fun ad e hi => by
                rcases T7.next _ hi with h | h
                · exact HSZ.out _ h ad e rfl
                · have := HB6.out ad e; omega) HFIT.out.k)
              clear S7 T7 J7 no7 low7 A7 BX7
              go_wp2_with fail
              refine FO.out.mono ?_
              rintro e w8 ⟨rfl, ⟨p8, F8, hp8, S8, W8, T8⟩, J8⟩
              have F9 := Lib.hid (F7.out.turn S8 T8)
              have W9 := Lib.hid W8
              have A9 := Lib.hid (fun r (hr : Ans o av to most (S ++ [x.i]) (folW av (S ++ [x.i]) x.k el (delM W x.i)) r) => HA.out r (.go LW.out HLE.out H16.out HNTO.out (by rw [HOV.out]) (by rw [HOV.out]; exact hr)))
              clear S8 W8 T8 J8 x0 lx
              go_wp2_with fail
              go_roundg (17 - (S ++ [x.i]).length)
              case rel => exact ⟨S ++ [x.i], folW av (S ++ [x.i]) x.k el (delM W x.i), p8, F8, sv7, hp8, D2, Nat.le_refl _, by have := HS.out; have := H16.out; simp; omega, F9.out, W9.out, A9.out⟩
              case measure => have := HG.out; have := HS.out; have := H16.out; simp; omega
            · have h5 : ((en : Int) == 0) = false := by simp only [beq_eq_false_iff_ne, ne_eq]; omega
              have h6 : ((en : Int) != 0) = true := by simp only [bne_iff_ne, ne_eq]; omega
              have AN := Lib.hid (HA.out _ (.err LW.out HLE.out H16.out HNTO.out (by rw [HOV.out]; exact hen)))
              rw [HOV.out] at AN
              clear hen
              go_wp2_with (go_at_fn go; refine OO.out.mono ?_; rintro e w6 ⟨D2, A6, n6, c6, rfl, J6, T6, hn6, hA6, hB6⟩; clear x0 x1 lx c0 lb)
              go_returns
              exact ⟨(S ++ [x.i], false, en), rfl, AN.out, D2, J6, F5.out.T.trans T6⟩
end Go.Proofs.Ytkijfbnibfbldaa
