/- Package pool: find. -/
import Derived.Test.YtkhfffflegiapaaGreatDoorQPoolH
namespace Go.Proofs.YtkhfffflegiapaaGreatDoor
open Go.RowKit
set_option linter.unusedSimpArgs false
set_option linter.unusedVariables false
set_option maxRecDepth 100000

section
variable {K : DiskOk} {w0 w w' : World} {B : PB} {X : PX} {Fd Fp : Nat → Prop} {sl : List (Option Fx)} {p : Pst}
theorem PHave.keep (h : PHave K w0 w B Fd Fp X sl p) (k : Keeps w w') : PHave K w0 w' B Fd Fp X sl p := ⟨h.D.keep k, h.I.keep k, h.fr, h.ok, h.low, h.ap⟩
/-- a file, how many pages it has, or an error -/
def FoundV (w : World) (db : Nat) (nm : List UInt8) (n E : Nat) (e : Ending) (w' : World) : Prop :=
  Keeps w w' ∧ ((E = 0 ∧ ∃ f, e = .returned (.tuple #[.pointer (some ⟨f, 0, none⟩), .int .i64 (n : Int), .int .i64 0]) ∧ PfAt w' f db nm ∧ w.heap.size ≤ f) ∨ (E ≠ 0 ∧ e = .returned (.tuple #[.pointer none, .int .i64 0, .int .i64 (E : Int)])))
set_option maxHeartbeats 8000000 in
theorem find10_any (h : PHave K w0 w B Fd Fp X sl p) (hZ : K.Z w0) (nm : List UInt8) (hnm : nm.length ≤ maxLen) {M : Nat} (hb : Bnd M p.fr) (hM : M ≤ 1000000000000) :
    Calls Tryz.prog 50 #[.pointer (some ⟨B.pb, 0, none⟩), .string (str nm)] w (FoundV w B.db nm (findP p nm).1 (findP p nm).2) := by
  obtain ⟨n, E0, hz⟩ : ∃ n E0, sizeS p.d nm = (n, E0) := ⟨_, _, rfl⟩
  have hn : n ≤ 16777216 := by have := size_le (K.ok h.D.D) nm; rw [hz] at this; exact this
  have OP := Lib.hid (pfOpen_any h.D hZ nm hnm hz hn)
  have p0 : w.cell? ⟨B.pb, 0, none⟩ = some (.pointer (some ⟨B.db, 0, none⟩)) := h.I.box.cell 0 rfl
  by_cases hE : openE p.d nm = 0
  · have hE0 : E0 = 0 := by
      have := hE
      unfold openE at this
      rw [hz] at this
      simp only at this
      split at this
      · assumption
      · rename_i h1; omega
    subst hE0
    obtain ⟨q, hq⟩ : ∃ q, n / 256 = q := ⟨_, rfl⟩
    have hqi : (q : Int) ≤ 65536 := by omega
    have hf : findP p nm = (max q (((dirtyOf p.dl nm).getLast?.map (· + 1)).getD 0), 0) := by
      unfold findP pagesP
      rw [if_neg (by omega), hz, hq]
    rw [hf]
    have PG := Lib.hid (fun (V : World) (k : Keeps w V) (f : Nat) (hf : PfAt V f B.db nm) => by
      have := pfPages_any (h.D.keep k) hZ hf hnm hz hn
      rw [hq] at this
      exact this)
    obtain ⟨v, hl, hr, ho⟩ := h.I.dval nm
    have LK := Lib.hid (fun (V : World) (k : Keeps w V) => show (Instr.lookup 93 (.map (some B.dm)) (.string (str nm)) false).run Tryz.prog V = .ok v V from by
      obtain ⟨v', hl', hr', ho'⟩ := (h.I.keep k).dval nm
      have e1 := hl w rfl
      have e2 := hl' V rfl
      -- the same map, the same element
      have e3 := run_lookV (P := Tryz.prog) dirtyT (z := .slice none 0 0) zeroD h.I.dirt nm false
      have e4 := run_lookV (P := Tryz.prog) dirtyT (z := .slice none 0 0) zeroD (h.I.dirt.keep k) nm false
      have e5 := e1.symm.trans e3
      injection e5 with e5 _
      rw [e5]
      exact e4)
    have P3 := Lib.hid (fun (V : World) (k : Keeps w V) => show V.cell? ⟨B.pb, 3, none⟩ = some (.map (some B.dm)) from (h.I.box.keep k).cell 3 rfl)
    have hlen := dirtyC_len X nm (dirtyOf p.dl nm)
    have hO := Own.of_row hr
    rw [hlen] at hO
    obtain ⟨A, c, rfl, -⟩ := hO.form
    by_cases hk : dirtyOf p.dl nm = []
    · rw [hk] at LK ⊢
      have LK := LK
      simp only [List.getLast?_nil, Option.map_none, Option.getD_none, Nat.max_zero, List.length_nil] at LK ⊢
      clear h hf hl hr ho hO hlen hk hb hz hn hq
      generalize str nm = sv at *
      go_enter Tryz.func50, Tryz.ntmps50
      go_wp2_with fail
      refine OP.out.mono ?_
      rintro e w1 ⟨k1, (⟨-, f, rfl, hf1, hlt⟩ | ⟨hbad, -⟩)⟩
      · have K1 := Lib.hid k1
        have F1 := Lib.hid hf1
        have HL := Lib.hid hlt
        clear k1 hf1 hlt
        go_wp2_with fail
        refine (PG.out _ K1.out f F1.out).mono ?_
        rintro e w2 ⟨rfl, k2⟩
        have K2 := Lib.hid (keeps_trans K1.out k2)
        have F2 := Lib.hid (F1.out.keep k2)
        have c3 := P3.out _ K2.out
        have lk := LK.out _ K2.out
        clear k2
        go_wp2_with fail
        go_returns
        exact ⟨K2.out, .inl ⟨rfl, f, rfl, F2.out, HL.out⟩⟩
      · exact absurd hE hbad
    · obtain ⟨y, hy⟩ : ∃ y, (dirtyOf p.dl nm).getLast? = some y := by
        cases e : (dirtyOf p.dl nm).getLast? with
        | none => exact absurd (List.getLast?_eq_none_iff.1 e) hk
        | some y => exact ⟨y, rfl⟩
      have hyk := List.mem_of_getLast? hy
      obtain ⟨i, x, hx, h1, h2, h3⟩ := h.I.dfr hyk
      have hyM : y ≤ M := by rw [← h2]; exact (hb i x.f (by rw [h.fr]; exact frs_of hx)).1
      obtain ⟨N, hN⟩ : ∃ N, (dirtyOf p.dl nm).length = N := ⟨_, rfl⟩
      have hNp : 0 < N := by rw [← hN]; exact List.length_pos_iff.2 hk
      obtain ⟨m, hm⟩ : ∃ m, N = m + 1 := ⟨N - 1, by omega⟩
      have hNi : (N : Int) ≤ 4096 := by have := h.I.dlen nm; have := h.I.most; omega
      have hlast : (dirtyC X nm (dirtyOf p.dl nm))[m]? = some (dpt x.blk) := by
        unfold dirtyC
        rw [List.getLast?_eq_getElem?, hN, hm, Nat.add_sub_cancel] at hy
        rw [List.getElem?_map, hy]
        simp only [Option.map_some]
        rw [h3]
      have CC := Lib.hid (fun (V : World) (k : Keeps w V) => show ∃ ad, A = some ad ∧ V.cell? (ad.add m) = some (.pointer (some ⟨x.blk, 0, none⟩)) ∧ V.cell? ⟨x.blk, 1, none⟩ = some (.int .i64 (y : Int)) from by
        obtain ⟨ad, e, -, hc⟩ := At.get (hO.keep k).at_ (k := m) (by rw [hlen, hN]; omega)
        have h4 : V.cell? ⟨x.blk, 1, none⟩ = some (.int .i64 (x.f.k : Int)) := ((h.I.fr i x hx).box.keep k).cell 1 rfl
        rw [h2] at h4
        exact ⟨ad, e, hc.trans hlast, h4⟩)
      rw [hN] at LK
      rw [hy]
      simp only [Option.map_some, Option.getD_some]
      obtain ⟨z, hz2⟩ : ∃ z, y + 1 = z := ⟨_, rfl⟩
      rw [hz2]
      have hyz : (y : Int) + 1 = (z : Int) := by omega
      have hyi : (y : Int) ≤ 1000000000000 := by omega
      have hsub : (N : Int) - 1 = (m : Int) := by omega
      have hNpi : (0 : Int) < (N : Int) := by omega
      have hmN : (m : Int) < (N : Int) := by omega
      have mx : ∀ (ts : Array TypeId) (t : TypeId) (V : World), (Builtin.max_ ts t #[.int .i64 (q : Int), .int .i64 (z : Int)]).run Tryz.prog V = .ok (.int .i64 ((max q z : Nat) : Int)) V := fun ts t V => by
        rw [run_max_int2]
        congr 2
        split <;> omega
      generalize max q z = mm at *
      generalize x.blk = xb at *
      generalize str nm = sv at *
      clear h hf hl hr ho hO hlen hk hb hz hn hq hy hyk hx h1 h2 h3 hyM hN hm hlast hz2 hNp
      go_enter Tryz.func50, Tryz.ntmps50
      go_wp2_with fail
      refine OP.out.mono ?_
      rintro e w1 ⟨k1, (⟨-, f, rfl, hf1, hlt⟩ | ⟨hbad, -⟩)⟩
      · have K1 := Lib.hid k1
        have F1 := Lib.hid hf1
        have HL := Lib.hid hlt
        clear k1 hf1 hlt
        go_wp2_with fail
        refine (PG.out _ K1.out f F1.out).mono ?_
        rintro e w2 ⟨rfl, k2⟩
        have K2 := Lib.hid (keeps_trans K1.out k2)
        have F2 := Lib.hid (F1.out.keep k2)
        have c3 := P3.out _ K2.out
        have lk := LK.out _ K2.out
        obtain ⟨ad, rfl, d1, d2⟩ := CC.out _ K2.out
        clear k2
        go_wp2_with fail
        go_returns
        exact ⟨K2.out, .inl ⟨rfl, f, rfl, F2.out, HL.out⟩⟩
      · exact absurd hE hbad
  · have hf : findP p nm = (0, openE p.d nm) := by unfold findP; rw [if_pos hE]
    rw [hf]
    generalize openE p.d nm = E at *
    have hne : ((E : Int) != 0) = true := by rw [bne_iff_ne]; omega
    clear h hf hz hn hb
    generalize str nm = sv at *
    go_enter Tryz.func50, Tryz.ntmps50
    go_wp2_with fail
    refine OP.out.mono ?_
    rintro e w1 ⟨k1, (⟨hbad, -⟩ | ⟨-, rfl⟩)⟩
    · exact absurd hbad hE
    · go_wp2_with fail
      go_returns
      exact ⟨k1, .inr ⟨hE, rfl⟩⟩
end
end Go.Proofs.YtkhfffflegiapaaGreatDoor
/- Package pool: writeBack. -/
namespace Go.Proofs.YtkhfffflegiapaaGreatDoor
open Go.RowKit
set_option linter.unusedSimpArgs false
set_option linter.unusedVariables false
set_option maxRecDepth 100000

def Both (F G : Nat → Prop) (i : Nat) : Prop := F i ∨ G i
section
variable {K : DiskOk} {w0 w w' : World} {B : PB} {X X' : PX} {Fd Fp Fd' Fp' : Nat → Prop} {sl sl' : List (Option Fx)} {p p' : Pst}
theorem Turns.left {F F' : Nat → Prop} (t : Turns w w' F F') (G : Nat → Prop) : Turns w w' (Both F G) (Both F' G) :=
  ⟨t.only.more (fun _ h => .inl h), fun b hb => by
    rcases hb with hb | hb
    · exact (t.next b hb).imp .inl id
    · exact .inl (.inr hb)⟩
theorem Turns.right {F F' : Nat → Prop} (t : Turns w w' F F') (G : Nat → Prop) : Turns w w' (Both G F) (Both G F') :=
  ⟨t.only.more (fun _ h => .inr h), fun b hb => by
    rcases hb with hb | hb
    · exact .inl (.inl hb)
    · exact (t.next b hb).imp .inr id⟩
/-- the disk has turned -/
theorem PHave.disk (h : PHave K w0 w B Fd Fp X sl p) {d' : Ds} (D' : Have K w0 w' B.db Fd' d') (t : Turns w w' Fd Fd') : PHave K w0 w' B Fd' Fp X sl { p with d := d' } ∧ Turns w w' (Both Fd Fp) (Both Fd' Fp) :=
  ⟨⟨D', h.I.same (fun i hi => t.only.block i (h.I.lt i hi) (h.ap i hi)) t.only.size, h.fr, h.ok.disk d', h.low, fun i hi => t.notIn (h.I.lt i hi) (h.ap i hi)⟩, t.left Fp⟩
/-- the pool's own has turned -/
theorem PHave.pool (h : PHave K w0 w B Fd Fp X sl p) (hd : p'.d = p.d) (I' : PIn w' B X' Fp' sl' p'.dl (tally p'.hand p'.fr p'.mostR p'.mostP)) (t : Turns w w' Fp Fp') (hf : p'.fr = frs sl') (ok : PstOk p') : PHave K w0 w' B Fd Fp' X' sl' p' ∧ Turns w w' (Both Fd Fp) (Both Fd Fp') :=
  ⟨⟨⟨by rw [hd]; exact K.same h.D.D (fun i hi => t.only.block i (K.lt h.D.D i hi) (fun e => h.ap i e hi)) t.only.size, h.D.low, t.keeps h.D.kp h.low⟩, I', hf, ok, fun i hi => by
    rcases t.next i hi with h1 | h1
    · exact h.low i h1
    · exact Nat.le_trans h.D.kp.size h1, fun i hi hd => by
    rcases t.next i hi with h1 | h1
    · exact h.ap i h1 hd
    · have := K.lt h.D.D i hd; omega⟩, t.right Fd⟩
/-- what writeBack, save and the like leave: an error, and the state -/
def Got (K : DiskOk) (w0 w : World) (B : PB) (F : Nat → Prop) (sl : List (Option Fx)) (q : Pst) (v : Value) (e : Ending) (w' : World) : Prop :=
  e = .returned v ∧ ∃ Fd' Fp' X', PHave K w0 w' B Fd' Fp' X' sl q ∧ Turns w w' F (Both Fd' Fp')
structure WbIn (sl : List (Option Fx)) (p : Pst) (fs : List Fx) : Prop where
  inS : ∀ x ∈ fs, ∃ i : Nat, sl[i]? = some (some x)
  dirty : ∀ x ∈ fs, x.f.k ∈ dirtyOf p.dl x.f.name
  once : fs.Pairwise fun x y => ¬ (x.f.name = y.f.name ∧ x.f.k = y.f.k)
theorem WbIn.step {x : Fx} {fs : List Fx} (h : WbIn sl p (x :: fs)) (hd : DlOk p.dl) (d' : Ds) : WbIn sl { p with d := d', dl := cleanD p.dl x.f.name x.f.k } fs :=
  ⟨fun y hy => h.inS y (List.mem_cons_of_mem _ hy), fun y hy => by
    have h1 := h.dirty y (List.mem_cons_of_mem _ hy)
    have h2 := (List.pairwise_cons.1 h.once).1 y hy
    show y.f.k ∈ dirtyOf (cleanD p.dl x.f.name x.f.k) y.f.name
    rw [dirtyOf_clean]
    split
    · rename_i e
      rw [mem_erase_rise (hd.rise_of _)]
      exact ⟨fun e2 => h2 ⟨e.symm, e2.symm⟩, by rw [← e]; exact h1⟩
    · exact h1, (List.pairwise_cons.1 h.once).2⟩
set_option maxHeartbeats 16000000 in
theorem writeBack_any (PK : PageOk) (h : PHave K w0 w B Fd Fp X sl p) (hZ : K.Z w0) (hS : Sizes w0) {fs : List Fx} (hin : WbIn sl p fs) (A : Option Addr) (n c : Nat) (hn : n = fs.length) (hA : At w w.heap.size A (fs.map fun x => .pointer (some ⟨x.blk, 0, none⟩))) (hAF : ∀ ad, A = some ad → ¬ Both Fd Fp ad.block) {M : Nat} (hb : Bnd M p.fr) (hM : M ≤ 1000000000000) (hnn : n ≤ 1000000000)
    {p' : Pst} {E : Nat} (hs : wbS p (fs.map Fx.f) = (p', E)) :
    Calls Tryz.prog 51 #[.pointer (some ⟨B.pb, 0, none⟩), .slice A n c] w (Got K w0 w B (Both Fd Fp) sl p' (.int .i64 (E : Int))) := by
  have hni : (n : Int) ≤ 1000000000 := by omega
  have H := Lib.hid h
  have HI := Lib.hid hin
  have HN := Lib.hid hn
  have HA := Lib.hid hA
  have HAF := Lib.hid hAF
  have HB := Lib.hid hb
  have HS := Lib.hid hs
  clear h hin hn hA hAF hb hs
  go_enter Tryz.func51, Tryz.ntmps51
  go_wp2_with fail
  go_loopw [10] (fun i wr => ∃ (j : Nat) (Fd' Fp' : Nat → Prop) (X' : PX) (q : Pst), j ≤ n ∧ i = .int .i64 j ∧ Hid (PHave K w0 wr B Fd' Fp' X' sl q) ∧ Hid (Turns w wr (Both Fd Fp) (Both Fd' Fp')) ∧ Hid (WbIn sl q (fs.drop j)) ∧ Hid (wbS q ((fs.drop j).map Fx.f) = (p', E)) ∧ Hid (q.fr = p.fr)) (fun i _ => n - (intOf i).toNat)
  case atStart => exact ⟨0, Fd, Fp, X, p, Nat.zero_le _, rfl, H, Lib.hid (Turns.refl _ _), HI, HS, Lib.hid rfl⟩
  case round =>
    obtain ⟨j, Fd1, Fp1, X1, q, hj, rfl, H1, T1, I1, S1, Q1⟩ := hrel
    by_cases hlt : j < n
    · have hjn : (j : Int) < (n : Int) := by omega
      have hjl : j < fs.length := by have := HN.out; omega
      obtain ⟨x, hx⟩ : ∃ x, fs[j]? = some x := ⟨_, List.getElem?_eq_getElem hjl⟩
      have hdrop : fs.drop j = x :: fs.drop (j + 1) := by
        rw [List.drop_eq_getElem_cons hjl]
        congr 1
        rw [List.getElem?_eq_getElem hjl] at hx
        exact Option.some.inj hx
      have I2 := I1.out
      have S2 := S1.out
      rw [hdrop] at I2 S2
      rw [List.map_cons, wbS] at S2
      obtain ⟨i, hi⟩ := I2.inS x (List.mem_cons_self)
      have FX := H1.out.I.fr i x hi
      have hdx := I2.dirty x (List.mem_cons_self)
      have hxM : x.f.k ≤ M := by
        have := HB.out i x.f (by rw [← Q1.out, H1.out.fr]; exact frs_of hi)
        exact this.1
      have hnm : x.f.name.length ≤ 24 := H1.out.ok.names _ (by rw [H1.out.fr]; exact mem_keys.2 ⟨i, x.f, frs_of hi, rfl, rfl⟩)
      obtain ⟨ad, rfl, -, ha⟩ := At.get (T1.out.at_ HA.out HAF.out) (k := j) (by rw [List.length_map]; exact hjl)
      rw [List.getElem?_map, hx] at ha
      simp only [Option.map_some] at ha
      have c1 : wr.cell? ⟨x.blk, 1, none⟩ = some (.int .i64 (x.f.k : Int)) := FX.box.cell 1 rfl
      have c2 : wr.cell? ⟨x.blk, 2, none⟩ = some (.pointer (some ⟨x.fb, 0, none⟩)) := FX.box.cell 2 rfl
      have c3 : wr.cell? ⟨x.blk, 3, none⟩ = some (.slice x.A x.f.b.length x.c) := FX.box.cell 3 rfl
      have ho := FX.text.keep (keeps_drew wr)
      obtain ⟨A', c', hv, hc', hcm', -⟩ := ho.form
      injection hv with v1 v2 v3
      subst v1
      subst v3
      obtain ⟨d2, E2, hw⟩ : ∃ d2 E2, writeP q.d x.f.name (x.f.k : Int) x.f.b = (d2, E2) := ⟨_, _, rfl⟩
      rw [hw] at S2
      simp only at S2
      have WR := Lib.hid (pfWrite_any PK (H1.out.D.keep (keeps_drew wr)) hZ hS (FX.file.keep (keeps_drew wr)) (by omega) (x.f.k : Int) ⟨by omega, by omega⟩ x.A x.f.b.length x.c x.f.b ho.at_ rfl hc' hcm' hw)
      by_cases hE : E2 = 0
      · subst hE
        rw [if_pos rfl] at S2
        have CL := Lib.hid (fun (W : World) (Fd2 : Nat → Prop) (hh : PHave K w0 W B Fd2 Fp1 X1 sl { q with d := d2 }) => clean_any hh.I hi hdx)
        have NXT := Lib.hid (And.intro (I2.step H1.out.I.dlok d2) S2)
        have OK2 := Lib.hid (show PstOk { q with d := d2, dl := cleanD q.dl x.f.name x.f.k } from ⟨H1.out.ok.n, H1.out.ok.hand, H1.out.ok.one, H1.out.ok.dl.clean _ _, fun nm' k hk' => H1.out.ok.held nm' k (by
          rw [dirtyOf_clean] at hk'
          split at hk'
          · rename_i e; rw [e]; exact List.mem_of_mem_erase hk'
          · exact hk'), H1.out.ok.names, H1.out.ok.mostR, H1.out.ok.mostP⟩)
        have e1 : ((0 : Int) != 0) = false := rfl
        have SK := Lib.hid (fun (V : World) (kk : Keeps wr V) => show V.cell? ⟨x.blk, 1, none⟩ = some (.int .i64 (x.f.k : Int)) ∧ V.cell? ⟨x.blk, 2, none⟩ = some (.pointer (some ⟨x.fb, 0, none⟩)) ∧ V.cell? ⟨x.blk, 3, none⟩ = some (.slice x.A x.f.b.length x.c) from ⟨kk.cellOf c1, kk.cellOf c2, kk.cellOf c3⟩)
        have SB := Lib.hid (fun (V : World) (Fd2 : Nat → Prop) (hh : PHave K w0 V B Fd2 Fp1 X1 sl { q with d := d2 }) => show V.cell? ⟨x.blk, 1, none⟩ = some (.int .i64 (x.f.k : Int)) ∧ V.cell? ⟨x.blk, 2, none⟩ = some (.pointer (some ⟨x.fb, 0, none⟩)) ∧ V.cell? ⟨x.blk, 3, none⟩ = some (.slice x.A x.f.b.length x.c) from ⟨(hh.I.fr i x hi).box.cell 1 rfl, (hh.I.fr i x hi).box.cell 2 rfl, (hh.I.fr i x hi).box.cell 3 rfl⟩)
        generalize x.f.b.length = bl at *
        generalize hkk : x.f.k = k at *
        generalize hxx : x.blk = xb at *
        generalize x.fb = fb at *
        generalize x.A = xA at *
        generalize x.c = xc at *
        clear I2 S2 hw hdx ho FX hx hdrop hi hc' hcm' hxM hnm hlt hjl
        go_wp2_with fail
        go_region_held3 (fun V => V.cell? ⟨xb, 1, none⟩ = some (.int .i64 (k : Int)) ∧ V.cell? ⟨xb, 2, none⟩ = some (.pointer (some ⟨fb, 0, none⟩)) ∧ V.cell? ⟨xb, 3, none⟩ = some (.slice xA bl xc)) (first | assumption | exact SK.out _ (by exact keeps_drew _)) (first
          | (go_at_call 67; refine WR.out.mono ?_; rintro ee w2 ⟨rfl, Fd2, D2, t2⟩; obtain ⟨h2, T2⟩ := PHave.disk (H1.out.keep (keeps_drew wr)) D2 t2; have s2 := SB.out _ _ h2; have H2 := Lib.hid h2; have T2' := Lib.hid (T1.out.trans ((Turns.of_keeps (keeps_drew wr)).trans T2)); clear h2 T2 D2 t2))
        clear c1 c2 c3 ha s2
        go_wp2_with fail
        refine (CL.out _ _ H2.out).mono ?_
        rintro e w3 ⟨rfl, X3, Fp3, I3, T3⟩
        obtain ⟨h3, T3'⟩ := PHave.pool (p' := { q with d := d2, dl := cleanD q.dl x.f.name k }) H2.out rfl I3 T3 H2.out.fr OK2.out
        have H3 := Lib.hid h3
        have TT := Lib.hid (T2'.out.trans T3')
        clear h3 T3' I3 T3
        go_wp2_with fail
        go_roundw
        case rel => exact ⟨j + 1, Fd2, Fp3, X3, _, by omega, by go_num, H3, TT, Lib.hid NXT.out.1, Lib.hid NXT.out.2, Q1⟩
        case measure => simp [intOf]; omega
      · rw [if_neg hE] at S2
        obtain ⟨rfl, rfl⟩ := Prod.mk.inj S2
        have e1 : ((E2 : Int) != 0) = true := by rw [bne_iff_ne]; omega
        have SK := Lib.hid (fun (V : World) (kk : Keeps wr V) => show V.cell? ⟨x.blk, 1, none⟩ = some (.int .i64 (x.f.k : Int)) ∧ V.cell? ⟨x.blk, 2, none⟩ = some (.pointer (some ⟨x.fb, 0, none⟩)) ∧ V.cell? ⟨x.blk, 3, none⟩ = some (.slice x.A x.f.b.length x.c) from ⟨kk.cellOf c1, kk.cellOf c2, kk.cellOf c3⟩)
        have SB := Lib.hid (fun (V : World) (Fd2 : Nat → Prop) (hh : PHave K w0 V B Fd2 Fp1 X1 sl { q with d := d2 }) => show V.cell? ⟨x.blk, 1, none⟩ = some (.int .i64 (x.f.k : Int)) ∧ V.cell? ⟨x.blk, 2, none⟩ = some (.pointer (some ⟨x.fb, 0, none⟩)) ∧ V.cell? ⟨x.blk, 3, none⟩ = some (.slice x.A x.f.b.length x.c) from ⟨(hh.I.fr i x hi).box.cell 1 rfl, (hh.I.fr i x hi).box.cell 2 rfl, (hh.I.fr i x hi).box.cell 3 rfl⟩)
        generalize x.f.b.length = bl at *
        generalize hkk : x.f.k = k at *
        generalize hxx : x.blk = xb at *
        generalize x.fb = fb at *
        generalize x.A = xA at *
        generalize x.c = xc at *
        clear I2 S2 hw hdx ho FX hx hdrop hi hc' hcm' hxM hnm hlt hjl S1
        go_wp2_with fail
        go_region_held3 (fun V => V.cell? ⟨xb, 1, none⟩ = some (.int .i64 (k : Int)) ∧ V.cell? ⟨xb, 2, none⟩ = some (.pointer (some ⟨fb, 0, none⟩)) ∧ V.cell? ⟨xb, 3, none⟩ = some (.slice xA bl xc)) (first | assumption | exact SK.out _ (by exact keeps_drew _)) (first
          | (go_at_call 67; refine WR.out.mono ?_; rintro ee w2 ⟨rfl, Fd2, D2, t2⟩; obtain ⟨h2, T2⟩ := PHave.disk (H1.out.keep (keeps_drew wr)) D2 t2; have s2 := SB.out _ _ h2; have H2 := Lib.hid h2; have T2' := Lib.hid (T1.out.trans ((Turns.of_keeps (keeps_drew wr)).trans T2)); clear h2 T2 D2 t2))
        clear c1 c2 c3 ha s2
        go_wp2_with fail
        go_ret
        exact ⟨rfl, Fd2, Fp1, X1, H2.out, T2'.out⟩
    · obtain rfl : j = n := by omega
      have S2 := S1.out
      rw [List.drop_eq_nil_of_le (by have := HN.out; omega)] at S2
      obtain ⟨rfl, rfl⟩ := Prod.mk.inj S2
      clear hlt hj S2 S1
      go_wp2_with fail
      go_ret
      exact ⟨rfl, Fd1, Fp1, X1, H1.out, T1.out⟩
end
end Go.Proofs.YtkhfffflegiapaaGreatDoor
