/- Pairs of numbers, and page heads, compared as a whole. -/
import Derived.Test.YtllmmmggepgblaaDoorOctet
import Derived.ChangeKeysEq
import Derived.Laws.StructEq
import Derived.MapKept
namespace Go.Proofs.YtllmmmggepgblaaDoor
open Go.RowKit
set_option linter.unusedSimpArgs false
set_option linter.unusedVariables false
set_option maxRecDepth 100000

theorem info_u32 : (Tryd.prog.info? 22).map (fun i => (i.zero, i.size, i.bytes)) = some (some (.int .u32 0), 1, 4) := by kernel_rfl
theorem run_two (a b c d : Int) (w : World) : (Op.equalIn 10000 36 (.agg #[.int .u32 a, .int .u32 b]) (.agg #[.int .u32 c, .int .u32 d])).run Tryd.prog w = .ok (a == c && b == d) w := by
  obtain ⟨i, hi, h0, h1, h2⟩ := info_parts info_u32
  have hu := Tryd.underlying22
  have hc : Tryd.prog.cellsOf 22 = 1 := by kernel_rfl
  show (Op.equalIn (9999 + 1) 36 _ _).run Tryd.prog w = _
  rw [run_equalIn_array w 9999 _ _ Tryd.underlying36 hi, hc, show List.range 2 = [0, 1] from rfl]
  have he : ∀ (x y : Int) (w : World), (Op.equalIn 9999 22 (.int .u32 x) (.int .u32 y)).run Tryd.prog w = .ok (x == y) w := fun x y w => run_equalIn_int w 9998 22 .u32 .u32 _ _ hu
  have p0 : ∀ (x y : Int) (w : World), (part 22 #[.int .u32 x, .int .u32 y] 0).run Tryd.prog w = .ok (.int .u32 x) w := fun x y w => by simp [part, hu, underlying, isAgg]
  have p1 : ∀ (x y : Int) (w : World), (part 22 #[.int .u32 x, .int .u32 y] 1).run Tryd.prog w = .ok (.int .u32 y) w := fun x y w => by simp [part, hu, underlying, isAgg]
  generalize 9999 = dd at *
  simp only [Op.eqItems, Sem.run_bind, Nat.zero_mul, Nat.one_mul, p0, p1, he, Result.andThen_ok]
  by_cases h1 : a = c
  · by_cases h2 : b = d
    · simp [h1, h2, p1, he]
    · simp [h1, h2, p1, he]
  · simp [h1]
theorem run_head (a b c d a' b' c' d' : Int) (w : World) : (Op.equalIn 10000 51 (.agg #[.int .u32 a, .int .u32 b, .int .u16 c, .int .u16 d]) (.agg #[.int .u32 a', .int .u32 b', .int .u16 c', .int .u16 d'])).run Tryd.prog w = .ok (a == a' && b == b' && c == c' && d == d') w := by
  have hu := Tryd.underlying22
  have hv := Tryd.underlying44
  have hS : Tryd.prog.underlying 51 = some (.struct (Tryd.prog.fieldsOf 51)) := by simp [Program.fieldsOf, Tryd.underlying51]
  have hF : (Tryd.prog.fieldsOf 51).toList.map (fun f => (f.name, f.type, f.offset)) = [("tag", 22, 0), ("number", 22, 1), ("size", 44, 2), ("zero", 44, 3)] := by kernel_rfl
  show (Op.equalIn (9999 + 1) 51 _ _).run Tryd.prog w = _
  rw [run_equalIn_struct w 9999 51 _ _ hS (by kernel_rfl)]
  have hL : (Tryd.prog.fieldsOf 51).toList.length = 4 := by kernel_rfl
  generalize (Tryd.prog.fieldsOf 51).toList = fs at hF hL ⊢
  match fs, hL with
  | [f1, f2, f3, f4], _ =>
    simp only [List.map_cons, List.map_nil, List.cons.injEq, Prod.mk.injEq, and_true] at hF
    obtain ⟨⟨n1, t1, o1⟩, ⟨n2, t2, o2⟩, ⟨n3, t3, o3⟩, ⟨n4, t4, o4⟩⟩ := hF
    have he : ∀ (x y : Int) (w : World), (Op.equalIn 9999 22 (.int .u32 x) (.int .u32 y)).run Tryd.prog w = .ok (x == y) w := fun x y w => run_equalIn_int w 9998 22 .u32 .u32 _ _ hu
    have hg : ∀ (x y : Int) (w : World), (Op.equalIn 9999 44 (.int .u16 x) (.int .u16 y)).run Tryd.prog w = .ok (x == y) w := fun x y w => run_equalIn_int w 9998 44 .u16 .u16 _ _ hv
    have p0 : ∀ (a b c d : Int) (w : World), (part 22 #[.int .u32 a, .int .u32 b, .int .u16 c, .int .u16 d] 0).run Tryd.prog w = .ok (.int .u32 a) w := fun a b c d w => by simp [part, hu, underlying, isAgg]
    have p1 : ∀ (a b c d : Int) (w : World), (part 22 #[.int .u32 a, .int .u32 b, .int .u16 c, .int .u16 d] 1).run Tryd.prog w = .ok (.int .u32 b) w := fun a b c d w => by simp [part, hu, underlying, isAgg]
    have p2 : ∀ (a b c d : Int) (w : World), (part 44 #[.int .u32 a, .int .u32 b, .int .u16 c, .int .u16 d] 2).run Tryd.prog w = .ok (.int .u16 c) w := fun a b c d w => by simp [part, hv, underlying, isAgg]
    have p3 : ∀ (a b c d : Int) (w : World), (part 44 #[.int .u32 a, .int .u32 b, .int .u16 c, .int .u16 d] 3).run Tryd.prog w = .ok (.int .u16 d) w := fun a b c d w => by simp [part, hv, underlying, isAgg]
    generalize 9999 = dd at *
    simp only [Op.eqFields, n1, n2, n3, n4, t1, t2, t3, t4, o1, o2, o3, o4, Sem.run_bind, Sem.run_ite, p0, p1, p2, p3, Result.andThen_ok, he, hg]
    by_cases h1 : a = a'
    · by_cases h2 : b = b'
      · by_cases h3 : c = c'
        · by_cases h4 : d = d'
          · simp [h1, h2, h3, h4]
          · simp [h1, h2, h3, h4]
        · simp [h1, h2, h3]
      · simp [h1, h2]
    · simp [h1]
end Go.Proofs.YtllmmmggepgblaaDoor
