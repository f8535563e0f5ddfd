/- What a sector says. -/
import Derived.Test.YtefcconbpomedaaS2
import Derived.ChangeKeysEq
namespace Go.Proofs.Ytefcconbpomedaa
open Go.ChangeShapes Go.WideShapes Go.ChangeAt Go.RowKit
set_option linter.unusedVariables false

/-- Are two copies the same? -/
def sameCopy (l : List UInt8) (i j : Nat) : Bool := (wordAt l (16 * i) == wordAt l (16 * j)) && (wordAt l (16 * i + 4) == wordAt l (16 * j + 4)) && (wordAt l (16 * i + 8) == wordAt l (16 * j + 8)) && (wordAt l (16 * i + 12) == wordAt l (16 * j + 12))
/-- What a sector says, as values. -/
def sayV (l : List UInt8) : Array Value := if sameCopy l 0 1 then copyV l 0 else copyV l 2

theorem info38 : (Try.prog.info? 38).isSome = true := by kernel_rfl
theorem cells38 : Try.prog.cellsOf 38 = 1 := by kernel_rfl
theorem part38 (w : World) (a b c d : Int) : (part 38 #[.int .u32 a, .int .u32 b, .int .u32 c, .int .u32 d] 0).run Try.prog w = .ok (.int .u32 a) w ∧ (part 38 #[.int .u32 a, .int .u32 b, .int .u32 c, .int .u32 d] 1).run Try.prog w = .ok (.int .u32 b) w ∧
    (part 38 #[.int .u32 a, .int .u32 b, .int .u32 c, .int .u32 d] 2).run Try.prog w = .ok (.int .u32 c) w ∧ (part 38 #[.int .u32 a, .int .u32 b, .int .u32 c, .int .u32 d] 3).run Try.prog w = .ok (.int .u32 d) w :=
  ⟨by kernel_rfl, by kernel_rfl, by kernel_rfl, by kernel_rfl⟩

theorem equal_words (w : World) (a b c d a' b' c' d' : Int) : (Op.equalIn 10000 40 (.agg #[.int .u32 a, .int .u32 b, .int .u32 c, .int .u32 d]) (.agg #[.int .u32 a', .int .u32 b', .int .u32 c', .int .u32 d'])).run Try.prog w = .ok ((a == a') && (b == b') && (c == c') && (d == d')) w := by
  obtain ⟨i, hi⟩ := Option.isSome_iff_exists.1 info38
  obtain ⟨x0, x1, x2, x3⟩ := part38 w a b c d
  obtain ⟨y0, y1, y2, y3⟩ := part38 w a' b' c' d'
  have q : ∀ x y : Int, (Op.equalIn 9999 38 (.int .u32 x) (.int .u32 y)).run Try.prog w = .ok (x == y) w := fun x y => run_equalIn_int (P := Try.prog) w 9998 38 .u32 .u32 x y Try.underlying38
  rw [run_equalIn_array (P := Try.prog) w 9999 _ _ Try.underlying40 hi, cells38, show List.range 4 = [0, 1, 2, 3] from rfl]
  simp only [Op.eqItems, Sem.run_bind, Nat.mul_one, x0, y0, Result.andThen_ok, q]
  cases h0 : a == a' <;> cases h1 : b == b' <;> cases h2 : c == c' <;> cases h3 : d == d' <;> simp [q, h1, h2, h3, x1, x2, x3, y1, y2, y3]


theorem eql_words (w : World) (a b c d a' b' c' d' : Int) : (binOp .eql 40 (.agg #[.int .u32 a, .int .u32 b, .int .u32 c, .int .u32 d]) (.agg #[.int .u32 a', .int .u32 b', .int .u32 c', .int .u32 d'])).run Try.prog w = .ok (.bool ((a == a') && (b == b') && (c == c') && (d == d'))) w := by
  rw [run_eql_struct, equal_words]; rfl
theorem neq_words (w : World) (a b c d a' b' c' d' : Int) : (binOp .neq 40 (.agg #[.int .u32 a, .int .u32 b, .int .u32 c, .int .u32 d]) (.agg #[.int .u32 a', .int .u32 b', .int .u32 c', .int .u32 d'])).run Try.prog w = .ok (.bool (!((a == a') && (b == b') && (c == c') && (d == d')))) w := by
  rw [run_neq_struct, equal_words]; rfl

end Go.Proofs.Ytefcconbpomedaa
