/- Package disk: its two maps. -/
import Derived.Test.YtpbkkbkpodcgnaaDk2
import Derived.Test.YtpbkkbkpodcgnaaLawDisk
namespace Go.Proofs.Ytpbkkbkpodcgnaa
open Go.RowKit
set_option linter.unusedSimpArgs false
set_option linter.unusedVariables false
set_option maxRecDepth 100000

def plV (p : List UInt8 × Nat) : Value := .agg #[.string (str p.1), .int .i64 (p.2 : Int)]
def unV (_ : Unit) : Value := .agg #[]
def strW (s : List UInt8) : Value := .string (str s)
theorem filesT : MapV Try.prog 79 9 80 strW dpt :=
  mapV_str Try.underlying79 Try.underlying9 ⟨fun v => match v with
    | .pointer (some a) => a.block
    | _ => 0, fun x => rfl⟩
section
variable {P : Program} {K S I : TypeId} {f1 f2 : Field}
theorem run_partS (hS : P.underlying S = some .string) (a : ByteArray) (y : Value) (w : World) : (part S #[.string a, y] 0).run P w = .ok (.string a) w := by
  simp [part, hS, underlying, isAgg]
theorem run_partI (hI : P.underlying I = some (.int .i64)) (a : ByteArray) (y : Int) (w : World) : (part I #[.string a, .int .i64 y] 1).run P w = .ok (.int .i64 y) w := by
  simp [part, hI, underlying, isAgg]
theorem run_checkPl (hK : P.underlying K = some (.struct #[f1, f2])) (h1 : f1.name = "Name" ∧ f1.type = S ∧ f1.offset = 0) (h2 : f2.name = "Page" ∧ f2.type = I ∧ f2.offset = 1) (hS : P.underlying S = some .string) (hI : P.underlying I = some (.int .i64)) (em : Bool) (d : Nat) (p : List UInt8 × Nat) (w : World) :
    (Instr.checkKey em (d + 1 + 1) K (plV p)).run P w = .ok () w := by
  unfold plV
  have c1 : ∀ w, (Instr.checkKey em (d + 1) S (.string (str p.1))).run P w = .ok () w := fun w => MapKept.run_checkKey hS (by simp [MapKept.IsKey]) em d
  have c2 : ∀ w, (Instr.checkKey em (d + 1) I (.int .i64 (p.2 : Int))).run P w = .ok () w := fun w => MapKept.run_checkKey hI (by simp [MapKept.IsKey]) em d
  generalize d + 1 = d1 at *
  simp [Instr.checkKey, underlying, hK, h1.1, h1.2.1, h1.2.2, h2.1, h2.2.1, h2.2.2, run_partS hS, run_partI hI, c1, c2]
theorem run_eqPl (hK : P.underlying K = some (.struct #[f1, f2])) (h1 : f1.name = "Name" ∧ f1.type = S ∧ f1.offset = 0) (h2 : f2.name = "Page" ∧ f2.type = I ∧ f2.offset = 1) (hS : P.underlying S = some .string) (hI : P.underlying I = some (.int .i64)) (hh : P.stoodInHeld K = false) (p q : List UInt8 × Nat) (w : World) :
    (Op.equal K (plV p) (plV q)).run P w = .ok (decide (q = p)) w := by
  have hF : P.fieldsOf K = #[f1, f2] := by simp [Program.fieldsOf, hK]
  show (Op.equalIn (9999 + 1) K _ _).run P w = _
  unfold plV
  rw [run_equalIn_struct w 9999 K _ _ (by rw [hF]; exact hK) hh, hF]
  have e1 : ∀ w, (Op.equalIn 9999 S (.string (str p.1)) (.string (str q.1))).run P w = .ok ((str p.1).toList == (str q.1).toList) w := fun w => run_equalIn_string w 9998 S _ _ hS
  have e2 : ∀ w, (Op.equalIn 9999 I (.int .i64 (p.2 : Int)) (.int .i64 (q.2 : Int))).run P w = .ok ((p.2 : Int) == (q.2 : Int)) w := fun w => run_equalIn_int w 9998 I .i64 .i64 _ _ hI
  generalize 9999 = d at *
  simp only [Op.eqFields, h1.1, h1.2.1, h1.2.2, h2.1, h2.2.1, h2.2.2, Sem.run_bind, Sem.run_ite, run_partS hS, run_partI hI, Result.andThen_ok, e1, e2]
  rw [str_toList, str_toList]
  by_cases ha : p.1 = q.1
  · by_cases hb : p.2 = q.2
    · have : q = p := Prod.ext ha.symm hb.symm
      simp [ha, hb, this]
    · have : ¬ q = p := fun e => hb (by rw [e])
      have hb' : ¬ (p.2 : Int) = (q.2 : Int) := by omega
      simp [ha, hb, hb', this]
  · have : ¬ q = p := fun e => ha (by rw [e])
    simp [ha, this]
end
theorem looseT : MapV Try.prog 81 63 88 plV unV where
  m := Try.underlying81
  check em k w := run_checkPl Try.underlying63 ⟨rfl, rfl, rfl⟩ ⟨rfl, rfl, rfl⟩ Try.underlying9 Try.underlying3 em 9998 k w
  find w k es ks h := by
    have hn : ∀ e es, Instr.findNow (.struct #[{ name := "Name", type := 9, offset := 0, embedded := false, tag := "", pkgPath := "", byteOffset := 0 }, { name := "Page", type := 3, offset := 1, embedded := false, tag := "", pkgPath := "", byteOffset := 16 }]) (plV k) (e :: es) 0 = none := fun _ _ => rfl
    cases es with
    | nil =>
      cases ks with
      | nil => simp [Instr.findKey, underlying, Try.underlying63, Instr.findNow]
      | cons => simp at h
    | cons e es =>
      have := findAsk_of (P := Try.prog) (K := 63) (kv := plV) (fun a b w => run_eqPl Try.underlying63 ⟨rfl, rfl, rfl⟩ ⟨rfl, rfl, rfl⟩ Try.underlying9 Try.underlying3 (by kernel_rfl) a b w) k w (e :: es) ks 0 h
      simp only [Instr.findKey, Sem.run_bind, run_underlying Try.underlying63, Result.andThen_ok, hn]
      rw [this]
      simp
  bits k := by
    have e1 : (str k.1 == str k.1) = true := (MapKept.bytes_beq _ _).2 rfl
    simp [Instr.sameBits, plV, e1]
  inv := ⟨fun v => match v with
    | .agg ⟨[.string s, .int _ n]⟩ => (s.data.toList, n.toNat)
    | _ => ([], 0), fun k => by simp [plV, str_data]⟩
  einv := ⟨fun _ => (), fun _ => rfl⟩
theorem zeroF : ∀ w, (zeroValue 80).run Try.prog w = .ok (.pointer none) w := Try.zeroValue80
/-! ### find -/
abbrev FilesM (w : World) (mf : Nat) (l : List (List UInt8 × Nat)) : Prop := MapW strW dpt w mf l
abbrev LooseM (w : World) (ml : Nat) (l : List ((List UInt8 × Nat) × Unit)) : Prop := MapW plV unV w ml l
/-- what find answers -/
def findA (nm : List UInt8) (o : Option Nat) : Value × Int := if nameOk nm = false then (.pointer none, 1) else match o with
  | none => (.pointer none, 3)
  | some k => (.pointer (some ⟨k, 0, none⟩), 0)
set_option maxHeartbeats 4000000 in
theorem find_any {w : World} {b mf ml q armed : Nat} {off : Bool} (h : Box w b 83 (dkC mf ml q armed off)) {l : List (List UInt8 × Nat)} (hf : FilesM w mf l) (nm : List UInt8) (hnm : nm.length ≤ maxLen) (v : Value) (E : Int) (hv : findA nm (lookM l nm) = (v, E)) :
    Calls Try.prog 47 #[.pointer (some ⟨b, 0, none⟩), .string (str nm)] w fun e w' => e = .returned (.tuple #[v, .int .i64 E]) ∧ w = w' := by
  have c0 : w.cell? ⟨b, 0, none⟩ = some (.map (some mf)) := h.cell 0 rfl
  have IN := Lib.hid (isName_any nm (by unfold maxLen at hnm; omega) w)
  have HF := Lib.hid hf
  cases hok : nameOk nm with
  | false =>
    rw [hok] at IN
    have e1 : v = .pointer none := by simp [findA, hok] at hv; exact hv.1.symm
    have e2 : E = 1 := by simp [findA, hok] at hv; exact hv.2.symm
    subst e1
    subst e2
    clear hv h hf hnm hok
    generalize str nm = s at *
    go_enter Try.func47, Try.ntmps47
    go_wp2_with (go_at_call 58; refine IN.out.mono ?_; rintro e w' ⟨rfl, rfl⟩)
    exact bodyPost_ret (v := .tuple #[.pointer none, .int .i64 1]) (by simp [results, Try.results47, go_sem]) rfl ⟨rfl, rfl⟩
  | true =>
    rw [hok] at IN
    cases hl : lookM l nm with
    | none =>
      have e1 : v = .pointer none := by simp [findA, hok, hl] at hv; exact hv.1.symm
      have e2 : E = 3 := by simp [findA, hok, hl] at hv; exact hv.2.symm
      subst e1
      subst e2
      clear hv h hf hnm hok
      go_enter Try.func47, Try.ntmps47
      go_wp2_with (first
        | (go_at_call 58; refine IN.out.mono ?_; rintro e w' ⟨rfl, rfl⟩)
        | (at_lookup; refine wpList_lookV_none _ rfl _ _ rfl filesT zeroF mf l rfl HF.out nm rfl hl ?_))
      exact bodyPost_ret (v := .tuple #[.pointer none, .int .i64 3]) (by simp [results, Try.results47, go_sem]) rfl ⟨rfl, rfl⟩
    | some k =>
      have e1 : v = .pointer (some ⟨k, 0, none⟩) := by simp [findA, hok, hl] at hv; exact hv.1.symm
      have e2 : E = 0 := by simp [findA, hok, hl] at hv; exact hv.2.symm
      subst e1
      subst e2
      clear hv h hf hnm hok
      go_enter Try.func47, Try.ntmps47
      go_wp2_with (first
        | (go_at_call 58; refine IN.out.mono ?_; rintro e w' ⟨rfl, rfl⟩)
        | (at_lookup; refine wpList_lookV_some _ rfl _ _ rfl filesT zeroF mf l rfl HF.out nm rfl k hl (.pointer (some ⟨k, 0, none⟩)) rfl ?_))
      exact bodyPost_ret (v := .tuple #[.pointer (some ⟨k, 0, none⟩), .int .i64 0]) (by simp [results, Try.results47, go_sem]) rfl ⟨rfl, rfl⟩
end Go.Proofs.Ytpbkkbkpodcgnaa
