/- The library's two errors of a number's text, as the laid variables give them. -/
import Derived.Test.YtmhlkbocejnpoaaDoorParse
namespace Go.Proofs.YtmhlkbocejnpoaaDoor
open Go.ChangeShapes Go.WideShapes Go.ChangeAt Go.RowKit
set_option linter.unusedVariables false

theorem star_err : "*" ++ "errors.errorString" = "*errors.errorString" := by decide
theorem row_err (u : TypeId) (h : Tryd.prog.typeName? 3 u = some "*errors.errorString") : u = 118 :=
  typeName_ptr_named (nm := "errors.errorString") (by rw [star_err]; kernel_rfl) (by kernel_rfl) (by decide) u (by rw [star_err]; exact h)
theorem syn_of {r : List (String × DataW Unit)} {w : World} (h : laidMet Tryd.prog (("strconv.ErrSyntax", Rows.laid_strconv_ErrSyntax) :: r) w) : ErrVar "strconv.ErrSyntax" w := by
  obtain ⟨a, s, hv, _⟩ := laid_sentinel (g := 1) (ti := 54) (te := 120) (ts := 9) h (by kernel_rfl) (by kernel_rfl) Tryd.underlying54 row_err Tryd.underlying118 Tryd.underlying120 rfl rfl Tryd.underlying9 (by kernel_rfl) (by kernel_rfl)
  exact ⟨_, _, hv⟩
theorem ran_of {r : List (String × DataW Unit)} {w : World} (h : laidMet Tryd.prog (("strconv.ErrRange", Rows.laid_strconv_ErrRange) :: r) w) : ErrVar "strconv.ErrRange" w := by
  obtain ⟨a, s, hv, _⟩ := laid_sentinel (g := 2) (ti := 54) (te := 120) (ts := 9) h (by kernel_rfl) (by kernel_rfl) Tryd.underlying54 row_err Tryd.underlying118 Tryd.underlying120 rfl rfl Tryd.underlying9 (by kernel_rfl) (by kernel_rfl)
  exact ⟨_, _, hv⟩
end Go.Proofs.YtmhlkbocejnpoaaDoor
