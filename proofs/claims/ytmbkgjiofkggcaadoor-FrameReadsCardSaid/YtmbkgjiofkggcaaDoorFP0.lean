/-
  FrameParts: what its open statements lean on.
-/
import Derived.Test.YtmbkgjiofkggcaaDoorBack2
import Derived.Test.YtmbkgjiofkggcaaDoorFrame8
import Derived.Test.YtmbkgjiofkggcaaDoorAnyOrder
import Derived.Lib.EndianBits
namespace Go.Proofs.YtmbkgjiofkggcaaDoor
open Go.RowKit
set_option linter.unusedVariables false

theorem i64w (x : Int) (h0 : -9000000000000000000 ≤ x) (h1 : x ≤ 9000000000000000000) : IntKind.i64.wrap x = x := by
  simp only [IntKind.wrap, IntKind.bits, IntKind.signed]
  first
    | (simp; omega)
    | (simp [Int.bmod]; split <;> omega)
    | (simp; split <;> omega)
theorem i64_or (i : Nat) (x y : Int) (hx₀ : 0 ≤ x) (hx : x % 2 ^ i = 0) (hx₁ : x < 2 ^ 62) (hy₀ : 0 ≤ y) (hy : y < 2 ^ i) (hy₁ : y < 2 ^ 62) : bits .or .i64 x y = x + y := by
  have := bits_join .i64 62 (by decide) (fun n h0 h1 => i64w n (by omega) (by omega)) i x y hx₀ hx hx₁ hy₀ hy hy₁
  omega
end Go.Proofs.YtmbkgjiofkggcaaDoor
