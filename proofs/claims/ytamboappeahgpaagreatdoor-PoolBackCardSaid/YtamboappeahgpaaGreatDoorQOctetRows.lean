/- The contracts of package octet: rows of numbers, written. -/
import Derived.Test.YtamboappeahgpaaGreatDoorQOctet
import Derived.Test.YtamboappeahgpaaGreatDoorQRefA
import Derived.Test.YtamboappeahgpaaGreatDoorProg
import Derived.Test.YtamboappeahgpaaGreatDoorQCrcMath
import Derived.Laws.BitsAllLaws
namespace Go.Proofs.YtamboappeahgpaaGreatDoor
open Go.RowKit
set_option linter.unusedSimpArgs false
set_option linter.unusedVariables false
set_option maxRecDepth 100000

def edgeB (t h x m : Nat) : List UInt8 := nb 4 t ++ nb 4 h ++ nb 8 x ++ nb 4 m
def vertB (r l g : Nat) : List UInt8 := nb 4 r ++ nb 4 l ++ nb 4 g
def labelB (v h n d : Nat) : List UInt8 := nb 4 v ++ nb 4 h ++ nb 4 n ++ nb 8 d
theorem edgeB_length (t h x m : Nat) : (edgeB t h x m).length = 20 := by simp [edgeB, nb_length]
theorem vertB_length (r l g : Nat) : (vertB r l g).length = 12 := by simp [vertB, nb_length]
theorem labelB_length (v h n d : Nat) : (labelB v h n d).length = 20 := by simp [labelB, nb_length]

theorem numAt_mid (a b c : List UInt8) (k s : Nat) (hk : k = a.length) (hs : s = b.length) : numAt (a ++ (b ++ c)) k s = le b := by
  subst hk; subst hs
  simp [numAt]
theorem le_nb4 (x : Nat) (h : x < 4294967296) : le (nb 4 x) = x := by rw [le_nb]; exact Nat.mod_eq_of_lt (by omega)
theorem le_nb8 (x : Nat) (h : x < 18446744073709551616) : le (nb 8 x) = x := by rw [le_nb]; exact Nat.mod_eq_of_lt (by omega)
theorem edgeB_0 (t h x m : Nat) (ht : t < 4294967296) : numAt (edgeB t h x m) 0 4 = t := by
  rw [edgeB, List.append_assoc, List.append_assoc, ← List.nil_append (nb 4 t ++ _), numAt_mid [] _ _ 0 4 rfl (nb_length _ _).symm, le_nb4 t ht]
theorem edgeB_4 (t h x m : Nat) (ht : h < 4294967296) : numAt (edgeB t h x m) 4 4 = h := by
  rw [edgeB, List.append_assoc, List.append_assoc, numAt_mid _ _ _ 4 4 (nb_length _ _).symm (nb_length _ _).symm, le_nb4 h ht]
theorem edgeB_8 (t h x m : Nat) (ht : x < 18446744073709551616) : numAt (edgeB t h x m) 8 8 = x := by
  rw [edgeB, List.append_assoc, numAt_mid _ _ _ 8 8 (by simp [nb_length]) (nb_length _ _).symm, le_nb8 x ht]
theorem edgeB_16 (t h x m : Nat) (ht : m < 4294967296) : numAt (edgeB t h x m) 16 4 = m := by
  rw [edgeB, ← List.append_nil (nb 4 m), numAt_mid _ _ _ 16 4 (by simp [nb_length]) (nb_length _ _).symm, le_nb4 m ht]
theorem vertB_0 (r l g : Nat) (h : r < 4294967296) : numAt (vertB r l g) 0 4 = r := by
  rw [vertB, List.append_assoc, ← List.nil_append (nb 4 r ++ _), numAt_mid [] _ _ 0 4 rfl (nb_length _ _).symm, le_nb4 r h]
theorem vertB_4 (r l g : Nat) (h : l < 4294967296) : numAt (vertB r l g) 4 4 = l := by
  rw [vertB, List.append_assoc, numAt_mid _ _ _ 4 4 (nb_length _ _).symm (nb_length _ _).symm, le_nb4 l h]
theorem vertB_8 (r l g : Nat) (h : g < 4294967296) : numAt (vertB r l g) 8 4 = g := by
  rw [vertB, ← List.append_nil (nb 4 g), numAt_mid _ _ _ 8 4 (by simp [nb_length]) (nb_length _ _).symm, le_nb4 g h]
theorem labelB_0 (v h n d : Nat) (hv : v < 4294967296) : numAt (labelB v h n d) 0 4 = v := by
  rw [labelB, List.append_assoc, List.append_assoc, ← List.nil_append (nb 4 v ++ _), numAt_mid [] _ _ 0 4 rfl (nb_length _ _).symm, le_nb4 v hv]
theorem labelB_4 (v h n d : Nat) (hv : h < 4294967296) : numAt (labelB v h n d) 4 4 = h := by
  rw [labelB, List.append_assoc, List.append_assoc, numAt_mid _ _ _ 4 4 (nb_length _ _).symm (nb_length _ _).symm, le_nb4 h hv]
theorem labelB_8 (v h n d : Nat) (hv : n < 4294967296) : numAt (labelB v h n d) 8 4 = n := by
  rw [labelB, List.append_assoc, numAt_mid _ _ _ 8 4 (by simp [nb_length]) (nb_length _ _).symm, le_nb4 n hv]
theorem labelB_12 (v h n d : Nat) (hv : d < 18446744073709551616) : numAt (labelB v h n d) 12 8 = d := by
  rw [labelB, ← List.append_nil (nb 8 d), numAt_mid _ _ _ 12 8 (by simp [nb_length]) (nb_length _ _).symm, le_nb8 d hv]

/-- While numbers are put behind a row: what was there ahead of the box stays, and so does the box. -/
structure Going (w : World) (W : World) (l : List UInt8) (v : Value) (wr : World) : Prop where
  own : Own wr (w.heap.size + 1) 5 1 v l.length (cel l)
  kept : Below (w.heap.size + 1) W wr
theorem Going.start {w : World} {cs : Array Value} {e : TypeId} {v : Value} {w1 : World} {row : Option Nat} (h : w1.ownsRow (w.heap.size + 1) 5 1 v 0 []) (hg : (w.alloc (.cells cs e)).grownBy w1 none) :
    Going w (w.alloc (.cells cs e)) [] v w1 := ⟨Own.of_row h, keeps_grown hg _ (by simp) (fun _ h => by cases h)⟩
theorem Going.next {w W wr w' : World} {l : List UInt8} {v v' : Value} {s x : Nat} (h : Going w W l v wr) (hW : w.heap.size + 1 ≤ W.heap.size) (o : Own w' (w.heap.size + 1) 5 1 v' (l.length + s) (cel (l ++ nb s x))) (n : Onto wr v.ownBlock w' v') : Going w W (l ++ nb s x) v' w' :=
  ⟨by rw [List.length_append, nb_length]; exact o, Below.grown h.kept n.1 (Nat.le_trans hW h.kept.size) (fun g hg => (h.own.lt g hg).1)⟩
theorem Going.cell {w W wr : World} {l : List UInt8} {v : Value} (h : Going w W l v wr) (j : Nat) : wr.cell? ⟨w.heap.size, j, none⟩ = W.cell? ⟨w.heap.size, j, none⟩ := h.kept.cell (p := ⟨w.heap.size, j, none⟩) (by simp)
theorem Going.made {w : World} {cs : Array Value} {e : TypeId} {l : List UInt8} {v : Value} {wr : World} (h : Going w (w.alloc (.cells cs e)) l v wr) : Made w l (.returned v) wr :=
  ⟨v, rfl, h.own.base_le (by omega), keeps_trans (keeps_alloc w (.cells cs e)) (h.kept.mono (by simp))⟩
theorem Going.size {w : World} {cs : Array Value} {e : TypeId} {l : List UInt8} {v : Value} {wr : World} (h : Going w (w.alloc (.cells cs e)) l v wr) : w.heap.size + 1 ≤ wr.heap.size := by have := h.kept.size; simpa using this

end Go.Proofs.YtamboappeahgpaaGreatDoor
/- The contracts of package octet: rows of numbers, read. -/
namespace Go.Proofs.YtamboappeahgpaaGreatDoor
open Go.RowKit
set_option linter.unusedSimpArgs false
set_option linter.unusedVariables false
set_option maxRecDepth 100000

theorem flip_ {P : Program} {f : FuncId} {args : Array Value} {w : World} {v : Value} (h : Calls P f args w fun e w' => e = .returned v ∧ w = w') : Calls P f args w fun e w' => e = .returned v ∧ w' = w :=
  h.mono fun _ _ h => ⟨h.1, h.2.symm⟩

/-- What a row's reader leaves. -/
def Read2 (w : World) (T : Value) (e : Ending) (w' : World) : Prop := e = .returned T ∧ Keeps w w'

theorem Bs.drewAlloc {w : World} {A : Option Addr} {l : List UInt8} (h : Bs w A l) (o : Obj) : Bs (w.alloc o).drew A l := h.keep (keeps_trans (keeps_alloc w o) (keeps_drew _))

end Go.Proofs.YtamboappeahgpaaGreatDoor
/- The contracts of package milepostref01: the document's answers for octet. -/
namespace Go.Proofs.YtamboappeahgpaaGreatDoor
open Go.RowKit
set_option linter.unusedSimpArgs false
set_option linter.unusedVariables false
set_option maxRecDepth 100000

set_option maxHeartbeats 400000 in
theorem sized_any (s : Int) (w : World) : Calls Tryz.prog 166 #[.int .i64 s] w fun e w' => e = .returned (.bool (isSz s)) ∧ w = w' := by
  by_cases h1 : s = 1
  · subst h1
    go_enter Tryz.func166, Tryz.ntmps166
    go_wp2
    go_ret
    exact ⟨rfl, rfl⟩
  · have g1 : (s == 1) = false := beq_eq_false_iff_ne.2 h1
    by_cases h2 : s = 2
    · subst h2
      clear h1 g1
      go_enter Tryz.func166, Tryz.ntmps166
      go_wp2
      go_ret
      exact ⟨rfl, rfl⟩
    · have g2 : (s == 2) = false := beq_eq_false_iff_ne.2 h2
      by_cases h3 : s = 4
      · subst h3
        clear h1 h2 g1 g2
        go_enter Tryz.func166, Tryz.ntmps166
        go_wp2
        go_ret
        exact ⟨rfl, rfl⟩
      · have g3 : (s == 4) = false := beq_eq_false_iff_ne.2 h3
        have e : isSz s = (s == 8) := by
          unfold isSz
          by_cases h4 : s = 8
          · subst h4; rfl
          · rw [beq_eq_false_iff_ne.2 h4]; exact decide_eq_false (by omega)
        rw [e]
        clear h1 h2 h3 e
        go_enter Tryz.func166, Tryz.ntmps166
        go_wp2
        go_ret
        exact ⟨rfl, rfl⟩

set_option maxHeartbeats 400000 in
theorem refGet_no (A : Option Addr) (n c : Nat) (pos size : Int) (w : World) (hn : n ≤ 9223372036854775807) (h1 : -9223372036854775808 ≤ pos) (h2 : pos ≤ 9223372036854775807)
    (hno : isSz size = false ∨ pos < 0 ∨ (n : Int) - size < pos) :
    Calls Tryz.prog 143 #[.slice A n c, .int .i64 pos, .int .i64 size] w fun e w' => e = .returned (.tuple #[.int .u64 0, .int .i64 1]) ∧ w = w' := by
  cases hs : isSz size with
  | false =>
    go_enter Tryz.func143, Tryz.ntmps143
    go_wp2_with (go_at_call 166; refine (sized_any _ _).mono ?_; rintro e w' ⟨rfl, rfl⟩)
    go_ret2
    exact ⟨rfl, rfl⟩
  | true =>
    have hsz := isSz_true hs
    have hb : 1 ≤ size ∧ size ≤ 8 := by omega
    clear hsz
    by_cases hp : pos < 0
    · go_enter Tryz.func143, Tryz.ntmps143
      go_wp2_with (go_at_call 166; refine (sized_any _ _).mono ?_; rintro e w' ⟨rfl, rfl⟩)
      go_ret2
      exact ⟨rfl, rfl⟩
    · have hg : (n : Int) - size < pos := by
        rcases hno with h | h | h
        · rw [hs] at h; cases h
        · omega
        · exact h
      clear hno
      by_cases hq : (n : Int) < pos
      · go_enter Tryz.func143, Tryz.ntmps143
        go_wp2_with (go_at_call 166; refine (sized_any _ _).mono ?_; rintro e w' ⟨rfl, rfl⟩)
        go_ret2
        exact ⟨rfl, rfl⟩
      · have hq' : pos ≤ (n : Int) := by omega
        have hg' : (n : Int) - pos < size := by omega
        clear hg
        go_enter Tryz.func143, Tryz.ntmps143
        go_wp2_with (go_at_call 166; refine (sized_any _ _).mono ?_; rintro e w' ⟨rfl, rfl⟩)
        go_ret2
        exact ⟨rfl, rfl⟩

theorem numAt_step (l : List UInt8) (p k s : Nat) (hk : k + 1 ≤ s) (h : p + s ≤ l.length) : numAt l (p + k) (s - k) = (l.getD (p + k) 0).toNat + 256 * numAt l (p + (k + 1)) (s - (k + 1)) := by
  unfold numAt
  have e : l.drop (p + k) = (l[p + k]'(by omega)) :: l.drop (p + k + 1) := List.drop_eq_getElem_cons (by omega)
  rw [e, show s - k = (s - (k + 1)) + 1 by omega, List.take_succ_cons, le]
  simp [List.getD, show p + k < l.length by omega, Nat.add_assoc]
theorem numAt_lt (l : List UInt8) (p s : Nat) : numAt l p s < 256 ^ s := by
  unfold numAt
  have h := le_lt ((l.drop p).take s)
  have h2 : ((l.drop p).take s).length ≤ s := by rw [List.length_take]; omega
  exact Nat.lt_of_lt_of_le h (Nat.pow_le_pow_right (by decide) h2)

set_option maxHeartbeats 400000 in
theorem refGet_yes (A : Option Addr) (n c : Nat) (l : List UInt8) (p s : Nat) (w : World) (hB : Bs w A l) (hnl : n = l.length) (hn : n ≤ 9223372036854775000)
    (hs : isSz (s : Int) = true) (hp : p + s ≤ n) :
    Calls Tryz.prog 143 #[.slice A n c, .int .i64 p, .int .i64 s] w fun e w' => e = .returned (.tuple #[.int .u64 (numAt l p s), .int .i64 0]) ∧ w = w' := by
  have hsz := isSz_true hs
  have hb : 1 ≤ s ∧ s ≤ 8 := by omega
  clear hsz
  obtain ⟨ad, rfl⟩ := hB.some_ (by omega)
  have HB := Lib.hid hB
  have HN := Lib.hid hnl
  clear hB hnl
  have hp1 : (p : Int) ≤ n := by omega
  have hp2 : (s : Int) ≤ n - p := by omega
  go_enter Tryz.func143, Tryz.ntmps143
  go_wp2_with (go_at_call 166; refine (sized_any _ _).mono ?_; rintro e w' ⟨rfl, rfl⟩)
  go_loop [8, 9] (fun x i => ∃ k : Nat, k ≤ s ∧ i = .int .i64 ((k : Int) - 1) ∧ x = .int .u64 (numAt l (p + k) (s - k))) (fun _ i => ((intOf i) + 1).toNat)
  case atStart => exact ⟨s, Nat.le_refl _, rfl, by simp [numAt, le]⟩
  case round =>
    obtain ⟨k, hk, rfl, rfl⟩ := hrel
    rcases k with _ | k
    · simp only [Nat.add_zero, Nat.sub_zero] at *
      go_wp2
      go_ret2
      exact ⟨rfl, rfl⟩
    · have hst := numAt_step l p k s hk (by rw [← HN.out]; exact hp)
      have hlt := numAt_lt l (p + (k + 1)) (s - (k + 1))
      have hlt7 : 256 ^ (s - (k + 1)) ≤ 256 ^ 7 := Nat.pow_le_pow_right (by decide) (by omega)
      obtain ⟨ad', e', hc⟩ := HB.out.at_ (k := p + k) (by rw [← HN.out]; omega)
      obtain rfl := Option.some.inj e'
      have hbyte := (l.getD (p + k) 0).toNat_lt
      have HS := Lib.hid hst
      have HX : numAt l (p + (k + 1)) (s - (k + 1)) ≤ 72057594037927935 := by omega
      clear hst hlt hlt7 e'
      generalize numAt l (p + (k + 1)) (s - (k + 1)) = X at *
      generalize (l.getD (p + k) 0).toNat = y at *
      rw [show (((k + 1 : Nat) : Int) - 1) = (k : Int) by omega]
      go_wp2
      go_round
      case rel => exact ⟨k, by omega, rfl, by rw [HS.out]; go_num⟩
      case measure => simp [intOf]

theorem nb_head (k x : Nat) : nb (k + 1) x = UInt8.ofNat (x % 256) :: nb k (x / 256) := rfl

set_option maxHeartbeats 800000 in
theorem refPut_any (A : Option Addr) (n c : Nat) (l : List UInt8) (x : Nat) (s : Int) (w : World) (hB : Bs w A l) (hnl : n = l.length) (hx : x < 18446744073709551616) (hn : n ≤ 140737488354000) :
    Calls Tryz.prog 145 #[.slice A n c, .int .u64 x, .int .i64 s] w (New w (l ++ if isSz s then nb s.toNat x else [])) := by
  obtain ⟨i0, hi, hz0, hz1, hz2⟩ := info_parts info_u8
  have hn' := hn
  rw [hnl] at hn'
  have C := Lib.hid (copyBytes_any A n c l w hB hnl (by unfold maxLen; omega))
  have HN := Lib.hid hnl
  clear hnl hB
  cases hs : isSz s with
  | false =>
    have e0 : (l ++ if false = true then nb s.toNat x else []) = l := by simp
    rw [e0]
    by_cases h0 : 0 < s
    all_goals
      go_enter Tryz.func145, Tryz.ntmps145
      go_wp2_with (go_at_call 48; refine C.out.mono ?_; rintro e w1 ⟨v1, rfl, o1, k1⟩)
      refine wp_loop_rounds 1 ?_
      rw [rounds_succ]
      go_wp2_with (go_at_call 166; refine (sized_any _ _).mono ?_; rintro e w' ⟨rfl, rfl⟩)
      go_ret
      exact ⟨_, rfl, o1, k1⟩
  | true =>
    have hsz := isSz_true hs
    obtain ⟨k0, rfl⟩ : ∃ k : Nat, s = (k : Int) := ⟨s.toNat, by omega⟩
    have hk0 : k0 ≤ 8 := by omega
    have e0 : (l ++ if true = true then nb (k0 : Int).toNat x else []) = l ++ nb k0 x := by simp
    rw [e0]
    clear e0 hsz
    go_enter Tryz.func145, Tryz.ntmps145
    go_wp2_with (go_at_call 48; refine C.out.mono ?_; rintro e w1 ⟨v1, rfl, o1, k1⟩)
    go_loopw [1, 7, 8] (fun xv v i wr => ∃ k : Nat, k ≤ k0 ∧ i = .int .i64 k ∧ xv = .int .u64 ((x / 256 ^ k : Nat) : Int) ∧ Own wr w.heap.size 5 1 v (l.length + k) (cel (l ++ nb k x)) ∧ Keeps w wr) (fun _ _ i _ => k0 - (intOf i).toNat)
    case atStart => exact ⟨0, Nat.zero_le _, rfl, by simp, by simpa [nb] using o1, k1⟩
    case round =>
      obtain ⟨k, hk, rfl, rfl, hr, hw⟩ := hrel
      by_cases hlt : k < k0
      · have hxk : x / 256 ^ k < 18446744073709551616 := Nat.lt_of_le_of_lt (Nat.div_le_self _ _) hx
        have hdd : x / 256 ^ (k + 1) = x / 256 ^ k / 256 := by rw [Nat.pow_succ, Nat.div_div_eq_div_mul]
        have hnb : cel (l ++ nb k x) ++ [.int .u8 ((UInt8.ofNat (x / 256 ^ k % 256)).toNat : Int)] = cel (l ++ nb (k + 1) x) := by
          rw [nb_succ, ← List.append_assoc, cel_append (l ++ nb k x)]; rfl
        have hby : (((x / 256 ^ k : Nat) : Int) % 256) = ((UInt8.ofNat (x / 256 ^ k % 256)).toNat : Int) := by simp
        have HD := Lib.hid hdd
        have HNB := Lib.hid hnb
        have HBY := Lib.hid hby
        clear hdd hnb hby
        generalize x / 256 ^ k = y at *
        have hS := hw.size
        have hL : l.length + k ≤ 140737488354010 := by omega
        go_wp2_with (first
          | (go_at_call 166; refine (sized_any _ _).mono ?_; rintro e w' ⟨rfl, rfl⟩)
          | (at_builtin; refine wpList_app _ rfl _ _ 34 rfl w.heap.size 5 i0 (.int .u8 0) 1 1 Tryz.underlying34 hi hz0 hz1 hz2 rfl (by decide) _ _ _ rfl (hr.keep (keeps_alloc _ _)) (wr.heap.size + 1) _ 1 1 [.int .u8 ((y : Int) % 256)] rfl rfl (At.new _ _ _ _ (by omega)) (fun u hu => by simp at hu; subst hu; rfl) (by unfold maxLen; omega) (by omega) (by simp; omega) ?_; intro v' w2 hown' hgrow hblk))
        have hown2 := hown'
        rw [HBY.out, HNB.out, Nat.add_assoc] at hown2
        have hk2 : Keeps w w2 := Below.grown (keeps_trans hw (keeps_alloc wr _)) hgrow (by simp; omega) (fun g hg => (hr.lt g hg).1)
        go_roundw
        case rel => exact ⟨k + 1, by omega, by go_num, by rw [HD.out]; go_num, hown2, hk2⟩
        case measure => simp [intOf]; omega
      · obtain rfl : k = k0 := by omega
        generalize x / 256 ^ k = y at *
        go_wp2
        go_ret
        exact ⟨_, rfl, by rw [List.length_append, nb_length]; exact hr, hw⟩
end Go.Proofs.YtamboappeahgpaaGreatDoor
/- The contracts of package milepostref02: CRC-32C bit by bit. -/
namespace Go.Proofs.YtamboappeahgpaaGreatDoor
open Go.RowKit
set_option linter.unusedSimpArgs false
set_option linter.unusedVariables false
set_option maxRecDepth 100000

theorem st_odd {x : Nat} (h : x % 2 = 1) : st x = (x / 2) ^^^ 2197175160 := by unfold st; rw [if_pos h]; rfl
theorem st_evn {x : Nat} (h : ¬ x % 2 = 1) : st x = x / 2 := by unfold st; rw [if_neg h, Nat.xor_zero]

set_option maxHeartbeats 400000 in
theorem refExtend_any (s : Nat) (hs : s < 4294967296) (A : Option Addr) (n c : Nat) (l : List UInt8) (w : World) (hB : Bs w A l) (hn : n = l.length) (hlen : n ≤ 9223372036854775000) :
    Calls Tryz.prog 167 #[.int .u32 s, .slice A n c] w fun e w' => e = .returned (.int .u32 (extC s l)) ∧ w = w' := by
  subst hn
  have HB := Lib.hid hB
  clear hB
  go_enter Tryz.func167, Tryz.ntmps167
  go_wp2
  go_loop [5, 6] (fun x i => ∃ k : Nat, k ≤ l.length ∧ i = .int .i64 k ∧ x = .int .u32 (runC (s ^^^ 4294967295) (l.take k))) (fun _ i => l.length - (intOf i).toNat)
  case atStart => exact ⟨0, Nat.zero_le _, rfl, congrArg (Value.int .u32) (u32_xor_nat s 4294967295 hs (by decide))⟩
  case round =>
    obtain ⟨k, hk, rfl, rfl⟩ := hrel
    have hR := runC_lt (not_lt hs) (l.take k)
    by_cases hlt : k < l.length
    · obtain ⟨ad, rfl, hc⟩ := HB.out.at_ hlt
      have hstep : runC (s ^^^ 4294967295) (l.take (k + 1)) = sts 8 (runC (s ^^^ 4294967295) (l.take k) ^^^ (l.getD k 0).toNat) := by
        rw [List.take_succ_eq_append_getElem hlt, runC_append, getD_lt l hlt]
        rfl
      have hY : runC (s ^^^ 4294967295) (l.take k) ^^^ (l.getD k 0).toNat < 4294967296 := Nat.xor_lt_two_pow (n := 32) hR (byte_lt _)
      have HS := Lib.hid hstep
      have hb := (l.getD k 0).toNat_lt
      clear hstep
      generalize runC (s ^^^ 4294967295) (l.take k) = X at *
      generalize (l.getD k 0).toNat = y at *
      have hxy := u32_xor_nat X y hR (by omega)
      go_wp2
      go_loop [5, 7] (fun x i => ∃ j : Nat, j ≤ 8 ∧ i = .int .i64 j ∧ x = .int .u32 (sts j (X ^^^ y))) (fun _ i => 8 - (intOf i).toNat)
      case atStart => exact ⟨0, by omega, rfl, rfl⟩
      case round =>
        obtain ⟨j, hj, rfl, rfl⟩ := hrel
        have hZ := sts_lt j hY
        have hZs := sts_succ j (X ^^^ y)
        have hZ8 : j = 8 → sts j (X ^^^ y) = sts 8 (X ^^^ y) := fun e => by rw [e]
        have H8 := Lib.hid hZ8
        have HZ := Lib.hid hZs
        clear hZ8 hZs
        generalize sts j (X ^^^ y) = Z at *
        by_cases hj8 : j < 8
        · by_cases ho : Z % 2 = 1
          · have ho' : (Z : Int) % 2 = 1 := by omega
            have hx2 := u32_xor_nat (Z / 2) 2197175160 (by omega) (by omega)
            rw [st_odd ho] at HZ
            clear ho
            go_wp2
            go_round
            case rel =>
              refine ⟨j + 1, by omega, by go_num, ?_⟩
              rw [HZ.out]
              exact congrArg (Value.int .u32) hx2
            case measure => simp [intOf]; omega
          · have ho' : (Z : Int) % 2 = 0 := by omega
            rw [st_evn ho] at HZ
            clear ho
            go_wp2
            go_round
            case rel =>
              refine ⟨j + 1, by omega, by go_num, ?_⟩
              rw [HZ.out]
              rfl
            case measure => simp [intOf]; omega
        · go_wp2
          go_round
          case rel =>
            obtain rfl : j = 8 := by omega
            exact ⟨k + 1, by omega, by go_num, by rw [HS.out, ← H8.out rfl]⟩
          case measure => simp [intOf]; omega
    · go_wp2
      go_ret
      have e := u32_xor_nat _ 4294967295 hR (by decide)
      refine ⟨?_, rfl⟩
      obtain rfl : k = l.length := by omega
      rw [List.take_length] at e
      simp only [List.take_length]
      exact congrArg (fun z => Ending.returned (Value.int .u32 z)) e

theorem refSum_any (A : Option Addr) (n c : Nat) (l : List UInt8) (w : World) (hB : Bs w A l) (hn : n = l.length) (hlen : n ≤ 9223372036854775000) :
    Calls Tryz.prog 144 #[.slice A n c] w fun e w' => e = .returned (.int .u32 (extC 0 l)) ∧ w = w' := by
  have E := Lib.hid (refExtend_any 0 (by decide) A n c l w hB hn hlen)
  clear hB hn
  go_enter Tryz.func144, Tryz.ntmps144
  go_wp2_with (go_at_call 167; refine E.out.mono ?_; rintro e w' ⟨rfl, rfl⟩)
  go_ret
  exact ⟨rfl, rfl⟩
end Go.Proofs.YtamboappeahgpaaGreatDoor
