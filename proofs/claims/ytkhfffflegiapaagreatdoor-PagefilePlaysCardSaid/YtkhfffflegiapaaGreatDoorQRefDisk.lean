/- milepostref06: the small functions (for DiskPlays). -/
import Derived.Test.YtkhfffflegiapaaGreatDoorQDkA
import Derived.Test.YtkhfffflegiapaaGreatDoorQLawDisk
import Derived.Test.YtkhfffflegiapaaGreatDoorQLawDisk6
namespace Go.Proofs.YtkhfffflegiapaaGreatDoor
open Go.RowKit
set_option linter.unusedSimpArgs false
set_option linter.unusedVariables false
set_option maxRecDepth 100000

theorem contains_takeR (l : List Int) (x : Int) (j : Nat) (h : (l.take j).contains x = false) (y : Int) (hy : l[j]? = some y) : (l.take (j + 1)).contains x = decide (y = x) := by
  rw [List.take_add_one, hy]
  simp only [Option.toList_some]
  rw [List.contains_append, h]
  simp
  constructor
  · intro e; exact e.symm
  · intro e; exact e.symm
theorem refSectors_any (n : Nat) (hn : n ≤ 1000000000) (w : World) : Calls Tryz.prog 157 #[.int .i64 (n : Int)] w fun e w' => e = .returned (.int .i64 (sect n : Int)) ∧ w = w' := by
  have e : (sect n : Int) = ((n : Int) + 64 - 1) / 64 := by unfold sect; omega
  have hq : Int.tdiv ((n : Int) + 64 - 1) 64 = ((n : Int) + 64 - 1) / 64 := Int.tdiv_eq_ediv_of_nonneg (by omega)
  rw [e]
  clear e
  go_enter Tryz.func157, Tryz.ntmps157
  go_wp2_with fail
  go_ret
  exact ⟨by first | rfl | (simp only [hq]) | (congr 2; rw [hq]) | (congr 2; unfold wrap64; omega), rfl⟩
set_option maxHeartbeats 4000000 in
theorem refName_any (l : List UInt8) (hmax : l.length ≤ 9223372036854775807) (w : World) : Calls Tryz.prog 151 #[.string (str l)] w fun e w' => e = .returned (.bool (nameOk l)) ∧ w = w' := by
  obtain ⟨RR, hRR⟩ : ∃ RR, nameOk l = RR := ⟨_, rfl⟩
  rw [hRR]
  have HRR := Lib.hid hRR
  obtain ⟨n, hn⟩ : ∃ n, n = l.length := ⟨_, rfl⟩
  have HN := Lib.hid hn
  have hsz : (str l).size = n := by rw [str_size, hn]
  have IX := Lib.hid (fun (j : Nat) (h : j < l.length) (h2 : j < (str l).size) => show ((str l)[j]'h2) = l.getD j 0 by simp [str, ByteArray.getElem_eq_getElem_data, List.getD, h])
  rw [← hn] at hmax
  clear hn hRR
  generalize str l = s at *
  go_enter Tryz.func151, Tryz.ntmps151
  go_wp2_with fail
  go_loopw [3] (fun i wr => ∃ j : Nat, j ≤ n ∧ i = .int .i64 j ∧ (l.take j).all nameC = true ∧ w = wr) (fun i _ => n - (intOf i).toNat)
  case atStart => exact ⟨0, Nat.zero_le _, rfl, rfl, rfl⟩
  case round =>
    obtain ⟨j, hj, rfl, hpre, rfl⟩ := hrel
    have HP := Lib.hid hpre
    clear hpre
    by_cases hlt : j < n
    · have hl1 : j < l.length := by have := HN.out; omega
      have hjs : j < s.size := by rw [hsz]; exact hlt
      have hjn : (j : Int) < (n : Int) := by omega
      have hx : s[j]'hjs = l.getD j 0 := IX.out j hl1 hjs
      have G := Lib.hid (show l[j]? = some (l.getD j 0) by simp [List.getD, hl1])
      generalize l.getD j 0 = c at *
      cases hc : nameC c with
      | true =>
        have PN := Lib.hid (show (l.take (j + 1)).all nameC = true by
          rw [List.take_add_one, List.all_append, HP.out, G.out]
          simp [hc])
        rcases nameC_true hc with ⟨h1, h2⟩ | ⟨h1, h2, h3⟩ | ⟨h1, h2, h3⟩ | ⟨h1, h2, h3, h4⟩
        all_goals
          clear hl1 hc
          go_wp2_with fail
        all_goals
          exact ⟨⟨j + 1, by omega, by go_num, PN.out, trivial⟩, by simp [intOf]; omega⟩
      | false =>
        have NO := Lib.hid (show RR = false by
          rw [← HRR.out]
          unfold nameOk
          rw [Bool.and_eq_false_iff]
          right
          rw [List.all_eq_false]
          exact ⟨c, List.mem_of_getElem? G.out, by rw [hc]; simp⟩)
        rcases nameC_false hc with ⟨h1, h2, h3, h4⟩ | ⟨h1, h2, h3, h4, h5⟩ | ⟨h1, h2, h3, h4, h5, h6⟩
        all_goals
          clear hl1 hc
          go_wp2_with fail
          go_ret
          exact ⟨by rw [NO.out]; rfl, rfl⟩
    · obtain rfl : j = n := by omega
      have HA : l.all nameC = true := by
        have := HP.out
        rwa [HN.out, List.take_length] at this
      have YES := Lib.hid (show RR = decide (1 ≤ l.length ∧ l.length ≤ 24) by
        rw [← HRR.out]
        unfold nameOk
        rw [HA, Bool.and_true])
      by_cases h1 : 1 ≤ j
      · by_cases h2 : j ≤ 24
        · have Y2 := Lib.hid (show RR = true by rw [YES.out]; exact decide_eq_true (by rw [← HN.out]; exact ⟨h1, h2⟩))
          have q1 : (1 : Int) ≤ (j : Int) := by omega
          have q2 : (j : Int) ≤ 24 := by omega
          clear hlt hj HA h1 h2
          go_wp2_with fail
          go_ret
          exact ⟨by rw [Y2.out]; rfl, rfl⟩
        · have Y2 := Lib.hid (show RR = false by rw [YES.out]; exact decide_eq_false (by rw [← HN.out]; exact fun h => h2 h.2))
          have q1 : (1 : Int) ≤ (j : Int) := by omega
          have q2 : decide ((j : Int) ≤ 24) = false := decide_eq_false (by omega)
          clear hlt hj HA h1 h2
          go_wp2_with fail
          go_ret
          exact ⟨by rw [Y2.out]; simp [q2], rfl⟩
      · have Y2 := Lib.hid (show RR = false by rw [YES.out]; exact decide_eq_false (by rw [← HN.out]; exact fun h => h1 h.1))
        obtain rfl : j = 0 := by omega
        clear hlt hj HA h1
        go_wp2_with fail
        go_ret
        exact ⟨by rw [Y2.out]; rfl, rfl⟩
end Go.Proofs.YtkhfffflegiapaaGreatDoor
/- Package disk: its two maps. -/
namespace Go.Proofs.YtkhfffflegiapaaGreatDoor
open Go.RowKit
set_option maxHeartbeats 8000000 in
theorem refHas_any (A : Option Addr) (n c : Nat) (l : List Int) (x : Int) (w : World) (hB : At w w.heap.size A (intC l)) (hn : n = l.length) (hmax : n ≤ 9223372036854775000) :
    Calls Tryz.prog 160 #[.slice A n c, .int .i64 x] w fun e w' => e = .returned (.bool (l.contains x)) ∧ w = w' := by
  have HN := Lib.hid hn
  have HB := Lib.hid hB
  obtain ⟨RR, hRR⟩ : ∃ RR, l.contains x = RR := ⟨_, rfl⟩
  rw [hRR]
  have HRR := Lib.hid hRR
  clear hn hB hRR
  go_enter Tryz.func160, Tryz.ntmps160
  go_wp2_with fail
  go_loopw [5] (fun i wr => ∃ j : Nat, j ≤ n ∧ i = .int .i64 j ∧ (l.take j).contains x = false ∧ w = wr) (fun i _ => n - (intOf i).toNat)
  case atStart => exact ⟨0, Nat.zero_le _, rfl, rfl, rfl⟩
  case round =>
    obtain ⟨j, hj, rfl, hpre, rfl⟩ := hrel
    have HP := Lib.hid hpre
    clear hpre
    by_cases hlt : j < n
    · obtain ⟨y, hy⟩ : ∃ y, l[j]? = some y := ⟨_, List.getElem?_eq_getElem (by have := HN.out; omega)⟩
      obtain ⟨ad, rfl, -, hc⟩ := At.get HB.out (k := j) (by rw [intC_length]; have := HN.out; omega)
      have hc' : w.cell? (ad.add j) = some (.int .i64 y) := by
        rw [hc]
        simp only [intC, List.getElem?_map, hy, Option.map_some]
      have hjn : (j : Int) < (n : Int) := by omega
      have CT := Lib.hid (contains_takeR l x j HP.out y hy)
      have HY := Lib.hid hy
      clear hc hy
      by_cases hv : y = x
      · have hb : (y == x) = true := beq_iff_eq.2 hv
        have YES := Lib.hid (show RR = true by
          rw [← HRR.out, List.contains_iff_mem, ← hv]
          exact List.mem_of_getElem? HY.out)
        clear hv
        go_wp2_with fail
        go_ret
        exact ⟨by rw [YES.out]; rfl, rfl⟩
      · have hb : (y == x) = false := by rw [beq_eq_false_iff_ne]; exact hv
        have NX := Lib.hid (show (l.take (j + 1)).contains x = false by rw [CT.out]; exact decide_eq_false hv)
        clear hv
        go_wp2_with fail
        go_roundw
        case rel => exact ⟨j + 1, by omega, by go_num, NX.out, trivial⟩
        case measure => simp [intOf]; omega
    · obtain rfl : j = n := by omega
      have NO := Lib.hid (show RR = false by
        rw [← HRR.out]
        have h1 := HP.out
        have h2 : l.take j = l := by rw [HN.out, List.take_length]
        rwa [h2] at h1)
      clear hlt hj
      go_wp2_with fail
      go_ret
      exact ⟨by rw [NO.out]; rfl, rfl⟩

end Go.Proofs.YtkhfffflegiapaaGreatDoor
/- milepostref06: the power ahead of an operation, at the Disk's own cells. -/
namespace Go.Proofs.YtkhfffflegiapaaGreatDoor
open Go.RowKit
set_option linter.unusedSimpArgs false
set_option linter.unusedVariables false
set_option maxRecDepth 100000

/-- the cells of the reference's disk: its row of files, the quota, how far the power is, is it off -/
def rdC (A : Option Addr) (n c q armed : Nat) (off : Bool) : Array Value := #[.slice A n c, .int .i64 (q : Int), .int .i64 (armed : Int), .bool off]
theorem rd_only (w : World) (b i : Nat) (u : Value) : Only w (w.setCell ⟨b, i, none⟩ u) (fun c => c = b) := ⟨rfl, rfl, rfl, by simp, fun k _ hn => Below.heap_setCell _ ⟨b, i, none⟩ _ k hn⟩
set_option maxHeartbeats 4000000 in
theorem refGone_any {w : World} {b n c q armed : Nat} {A : Option Addr} {off : Bool} (h : Box w b 144 (rdC A n c q armed off)) (ha : armed ≤ 9223372036854775807) :
    Calls Tryz.prog 150 #[.pointer (some ⟨b, 0, none⟩)] w fun e w' =>
      e = .returned (.bool (off || decide (armed = 1))) ∧ Box w' b 144 (rdC A n c q (armed - 1) (off || decide (armed = 1))) ∧ Only w w' (fun c => c = b) := by
  have c2 : w.cell? ⟨b, 2, none⟩ = some (.int .i64 (armed : Int)) := h.cell 2 rfl
  have c3 : w.cell? ⟨b, 3, none⟩ = some (.bool off) := h.cell 3 rfl
  have f2 := h.frozen 2
  have f3 := h.frozen 3
  have hl := h.lt
  have H := Lib.hid h
  by_cases h0 : armed = 0
  · subst h0
    have e1 : (off || decide (0 = 1)) = off := by simp
    rw [e1]
    clear h e1
    go_enter Tryz.func150, Tryz.ntmps150
    go_wp2_with fail
    go_ret
    exact ⟨rfl, H.out, Only.refl _ _⟩
  · obtain ⟨k, rfl⟩ : ∃ k, armed = k + 1 := ⟨armed - 1, by omega⟩
    have hk : ((k + 1 : Nat) : Int) = (k : Int) + 1 := by omega
    have hp : (0 : Int) < (k : Int) + 1 := by omega
    have hkm : (k : Int) ≤ 9223372036854775806 := by omega
    rw [hk] at c2
    have q1 := h.set 2 (.int .i64 (k : Int))
    have O1 := Lib.hid (rd_only w b 2 (.int .i64 (k : Int)))
    have d2 : (w.setCell ⟨b, 2, none⟩ (.int .i64 (k : Int))).cell? ⟨b, 2, none⟩ = some (.int .i64 (k : Int)) := q1.cell 2 rfl
    have d3 : (w.setCell ⟨b, 2, none⟩ (.int .i64 (k : Int))).cell? ⟨b, 3, none⟩ = some (.bool off) := q1.cell 3 rfl
    have g3 := q1.frozen 3
    have l1 := q1.lt
    have Q1 := Lib.hid (show Box _ b 144 (rdC A n c q k off) from q1)
    by_cases h1 : k = 0
    · have e1 : (off || decide (k + 1 = 1)) = true := by simp [h1]
      rw [e1]
      have hk0 : ((k : Int) == 0) = true := by simp [h1]
      have q2 := q1.set 3 (.bool true)
      have d4 : ((w.setCell ⟨b, 2, none⟩ (.int .i64 (k : Int))).setCell ⟨b, 3, none⟩ (.bool true)).cell? ⟨b, 3, none⟩ = some (.bool true) := q2.cell 3 rfl
      have Q2 := Lib.hid (show Box _ b 144 (rdC A n c q k true) from q2)
      have O2 := Lib.hid (O1.out.trans (rd_only _ b 3 (.bool true)) (fun _ h => .inl h))
      clear h q1 e1 h0 h1 q2
      go_enter Tryz.func150, Tryz.ntmps150
      go_wp2_with fail
      go_ret
      exact ⟨rfl, Q2.out, O2.out⟩
    · have e1 : (off || decide (k + 1 = 1)) = off := by simp [h1]
      rw [e1]
      have hk0 : ((k : Int) == 0) = false := by rw [beq_eq_false_iff_ne]; omega
      clear h q1 e1 h0 h1
      go_enter Tryz.func150, Tryz.ntmps150
      go_wp2_with fail
      go_ret
      exact ⟨rfl, Q1.out, O1.out⟩
/-- the place of a name among names -/
def posN : List (List UInt8) → List UInt8 → Nat → Option Nat
  | [], _, _ => none
  | a :: l, nm, i => if a = nm then some i else posN l nm (i + 1)
theorem posN_at {l : List (List UInt8)} {nm : List UInt8} {i k : Nat} (hp : l[i]? = some nm) (hb : ∀ (j : Nat) (q : List UInt8), j < i → l[j]? = some q → q ≠ nm) : posN l nm k = some (k + i) := by
  induction l generalizing i k with
  | nil => simp at hp
  | cons a l ih =>
    unfold posN
    rcases i with _ | i
    · simp only [List.getElem?_cons_zero, Option.some.injEq] at hp
      rw [if_pos hp]
      rfl
    · rw [if_neg (hb 0 a (by omega) rfl), ih (i := i) (by simpa using hp) (fun j q hj hq => hb (j + 1) q (by omega) (by simpa using hq))]
      congr 1
      omega
theorem posN_none {l : List (List UInt8)} {nm : List UInt8} {k : Nat} (hb : ∀ (j : Nat) (q : List UInt8), l[j]? = some q → q ≠ nm) : posN l nm k = none := by
  induction l generalizing k with
  | nil => rfl
  | cons a l ih =>
    unfold posN
    rw [if_neg (hb 0 a rfl)]
    exact ih (fun j q hq => hb (j + 1) q (by simpa using hq))
set_option maxHeartbeats 4000000 in
/-- the place of a file, or -1 -/
theorem refAt_any {w : World} {b c q armed base : Nat} {A : Option Addr} {off : Bool} (nl : List (List UInt8)) (row : List Value) (h : Box w b 144 (rdC A nl.length c q armed off))
    (hO : Own w base 155 4 (.slice A nl.length c) nl.length row) (hl : row.length = nl.length * 4) (hr : ∀ (i : Nat) (x : List UInt8), nl[i]? = some x → row[i * 4]? = some (strV x)) (hm : nl.length ≤ 70000) (nm : List UInt8) :
    Calls Tryz.prog 152 #[.pointer (some ⟨b, 0, none⟩), .string (str nm)] w fun e w' =>
      e = .returned (.int .i64 (match posN nl nm 0 with | some k => (k : Int) | none => -1)) ∧ w = w' := by
  have c0 : w.cell? ⟨b, 0, none⟩ = some (.slice A nl.length c) := h.cell 0 rfl
  have hlt := h.lt
  obtain ⟨RR, hRR⟩ : ∃ RR : Int, (match posN nl nm 0 with | some k => (k : Int) | none => -1) = RR := ⟨_, rfl⟩
  rw [hRR]
  have HRR := Lib.hid hRR
  have HO := Lib.hid hO
  have HL := Lib.hid hl
  have HR := Lib.hid hr
  obtain ⟨n, hn⟩ : ∃ n, n = nl.length := ⟨_, rfl⟩
  have HN := Lib.hid hn
  have ni : (n : Int) ≤ 70000 := by omega
  rw [← hn] at c0 HO
  clear h hO hl hr hRR hn hm
  go_enter Tryz.func152, Tryz.ntmps152
  go_wp2_with fail
  go_loopw [5] (fun i wr => ∃ j : Nat, j ≤ n ∧ i = .int .i64 j ∧ Hid (∀ (k : Nat) (x : List UInt8), k < j → nl[k]? = some x → x ≠ nm) ∧ w = wr) (fun i _ => n - (intOf i).toNat)
  case atStart => exact ⟨0, Nat.zero_le _, rfl, Lib.hid (fun k x hk => by omega), rfl⟩
  case round =>
    obtain ⟨j, hj, rfl, HP, rfl⟩ := hrel
    by_cases hlt2 : j < n
    · have hjn : (j : Int) < (n : Int) := by omega
      obtain ⟨x, hx⟩ : ∃ x, nl[j]? = some x := ⟨_, List.getElem?_eq_getElem (by have := HN.out; omega)⟩
      obtain ⟨g, rfl, q0, -⟩ := HO.out.cell (j := j * 4) (by rw [HL.out]; have := HN.out; omega)
      rw [HR.out j x hx] at q0
      unfold strV at q0
      have hse := str_eq x nm
      have HX := Lib.hid hx
      clear hx
      by_cases hnm : x = nm
      · rw [decide_eq_true hnm] at hse
        have YES := Lib.hid (show RR = (j : Int) by
          rw [← HRR.out, posN_at (i := j) (by rw [HX.out, hnm]) (fun k y hk hy => HP.out k y hk hy)]
          simp)
        clear hnm
        generalize str x = sx at *
        generalize str nm = sn at *
        go_wp2_with fail
        go_ret
        exact ⟨by rw [YES.out]; rfl, rfl⟩
      · rw [decide_eq_false hnm] at hse
        have PN := Lib.hid (show ∀ (k : Nat) (y : List UInt8), k < j + 1 → nl[k]? = some y → y ≠ nm from fun k y hk hy => by
          by_cases e : k = j
          · rw [e, HX.out] at hy
            obtain rfl := Option.some.inj hy
            exact hnm
          · exact HP.out k y (by omega) hy)
        clear hnm
        generalize str x = sx at *
        go_wp2_with fail
        first
          | exact ⟨⟨j + 1, by omega, by go_num, PN, rfl⟩, by simp [intOf]; omega⟩
          | exact ⟨⟨j + 1, by omega, by go_num, PN.out, trivial⟩, by simp [intOf]; omega⟩
          | exact ⟨⟨j + 1, by omega, by go_num, PN, trivial⟩, by simp [intOf]; omega⟩
          | (refine ⟨?_, by simp [intOf]; omega⟩
             (repeat apply Exists.intro)
             refine ⟨?_, rfl⟩
             exact ⟨j + 1, by omega, by go_num, PN, rfl⟩)
    · obtain rfl : j = n := by omega
      have NO := Lib.hid (show RR = -1 by
        rw [← HRR.out, posN_none (fun k y hy => HP.out k y (by have := (List.getElem?_eq_some_iff.1 hy).1; have := HN.out; omega) hy)])
      clear hlt2 hj
      go_wp2_with fail
      go_ret
      exact ⟨by rw [NO.out]; rfl, rfl⟩
end Go.Proofs.YtkhfffflegiapaaGreatDoor
