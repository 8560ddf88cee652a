/- Contracts of chapter 6's functions (values): the reference's l5IsName, l6Level, ValueOk, SameKind. -/
import Derived.Test.YtmcjfjchpclamaaBase5
import Derived.Test.YtmcjfjchpclamaaPlain
namespace Go.Proofs.Ytmcjfjchpclamaa.B6
open Go.Proofs.Ytmcjfjchpclamaa.P1 Go.Proofs.Ytmcjfjchpclamaa.B1 Go.Proofs.Ytmcjfjchpclamaa.B2 Go.Proofs.Ytmcjfjchpclamaa.T1 Go.Proofs.Ytmcjfjchpclamaa.BT Go.Proofs.Ytmcjfjchpclamaa.P5 Go.Proofs.Ytmcjfjchpclamaa.P6 Go.Proofs.Ytmcjfjchpclamaa.B5
open Go.ChangeShapes Go.WideShapes Go.ChangeAt Go.RowKit
set_option linter.unusedVariables false

/-- A value's value. -/
def valV (v : Va) : Value := .agg #[.int .i64 v.k, .int .i64 v.n, .int .i64 v.r, .int .i64 v.g, .int .i64 v.b, .int .i64 v.c, .string ⟨v.w.toArray⟩]

theorem eq_value (k n r g b c k' n' r' g' b' c' : Int) (t t' : List UInt8) (w : World) :
    (Op.equalIn 10000 28 (.agg #[.int .i64 k, .int .i64 n, .int .i64 r, .int .i64 g, .int .i64 b, .int .i64 c, .string ⟨t.toArray⟩]) (.agg #[.int .i64 k', .int .i64 n', .int .i64 r', .int .i64 g', .int .i64 b', .int .i64 c', .string ⟨t'.toArray⟩])).run Try.prog w = .ok (Va.same ⟨k, n, r, g, b, c, t⟩ ⟨k', n', r', g', b', c', t'⟩) w := by
  have u3 := Try.underlying2
  have a3 := Try.isAgg2
  have z3 := Try.sizeOf2
  have u9 := Try.underlying9
  have a9 := Try.isAgg9
  have z9 := Try.sizeOf9
  unfold Va.same
  by_cases h1 : k = k'
  · subst h1
    by_cases h2 : n = n'
    · subst h2
      by_cases h3 : r = r'
      · subst h3
        by_cases h4 : g = g'
        · subst h4
          by_cases h5 : b = b'
          · subst h5
            by_cases h6 : c = c'
            · subst h6
              by_cases h7 : t = t'
              · subst h7; go_simp
              · have h7' := str_other h7
                go_simp
            · go_simp
          · go_simp
        · go_simp
      · go_simp
    · go_simp
  · go_simp

end Go.Proofs.Ytmcjfjchpclamaa.B6
