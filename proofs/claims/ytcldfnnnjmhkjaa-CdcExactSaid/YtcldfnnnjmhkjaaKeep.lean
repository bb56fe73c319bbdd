/-
  The contract of the comparison of bytes; and what is tried at each statement's end.
-/
import Derived.Test.YtcldfnnnjmhkjaaBytes
import Derived.Test.YtcldfnnnjmhkjaaProg
import Derived.WalkKit
import Derived.WalkSpells
import Derived.WalkSmall
import Derived.Outline
import Derived.Lib.Hide
import Derived.Deep.QuietTactic
import Derived.BigQuiet
namespace Go.Proofs.Ytcldfnnnjmhkjaa
open Go.RowKit
set_option linter.unusedVariables false

theorem bytes_eq (b1 o1 c1 b2 o2 c2 len : Nat) (zs : List Int) (w : World) (hl : zs.length = len) (hm : len ≤ 9223372036854775807)
    (h1 : ∀ j, j < len → w.cell? ⟨b1, o1 + j, none⟩ = some (.int .u8 (zs.getD j 0))) (h2 : ∀ j, j < len → w.cell? ⟨b2, o2 + j, none⟩ = some (.int .u8 (zs.getD j 0))) :
    Calls Try.prog 20 #[.slice (some ⟨b1, o1, none⟩) len c1, .slice (some ⟨b2, o2, none⟩) len c2] w fun e w' => e = .returned (.bool true) ∧ Below w.heap.size w w' := by
  have H1 := Lib.hid h1; have H2 := Lib.hid h2; have HL := Lib.hid hl
  clear h1 h2 hl
  go_enter Try.func20, Try.ntmps20
  go_wp2
  go_loopw [5] (fun i wr => ∃ k : Nat, k ≤ len ∧ i = .int .i64 k ∧ Below w.heap.size w wr) (fun i _ => len - (intOf i).toNat)
  case atStart => exact ⟨0, Nat.zero_le _, rfl, Below.refl _ _⟩
  case round =>
    obtain ⟨k, hk, rfl, hB⟩ := hrel
    by_cases hlt : k < len
    · obtain ⟨c, hcc⟩ : ∃ c, c = zs.getD k 0 := ⟨_, rfl⟩
      have g1 : wr.cell? ⟨b1, o1 + k, none⟩ = some (.int .u8 c) := by
        have := H1.out k hlt; rw [hB.cell (cell_lt this), this, hcc]
      have g2 : wr.cell? ⟨b2, o2 + k, none⟩ = some (.int .u8 c) := by
        have := H2.out k hlt; rw [hB.cell (cell_lt this), this, hcc]
      have HB := Lib.hid hB
      clear hcc hB
      go_wp2
      go_quiet (fail)
      go_wp2
      go_roundw
      case rel => exact ⟨k + 1, by omega, by go_num, below_drewN HB.out nq⟩
      case measure => simp [intOf]; omega
    · go_wp2
      go_ret
      exact ⟨rfl, hB⟩

theorem bytes_eq_nil (a1 a2 : Option Addr) (c1 c2 : Nat) (w : World) :
    Calls Try.prog 20 #[.slice a1 0 c1, .slice a2 0 c2] w fun e w' => e = .returned (.bool true) ∧ Below w.heap.size w w' := by
  go_enter Try.func20, Try.ntmps20
  go_wp2
  refine wp_loop_rounds 1 ?_
  rw [rounds_succ]
  go_wp2
  go_ret
  exact ⟨rfl, Below.refl _ _⟩

/-- Two rows of the same bytes are alike. -/
theorem bytes_rd (a1 a2 : Option Addr) (c1 c2 len : Nat) (zs : List Int) (w : World) (hl : zs.length = len) (hm : len ≤ 9223372036854775807) (h1 : Rd w a1 zs) (h2 : Rd w a2 zs) :
    Calls Try.prog 20 #[.slice a1 len c1, .slice a2 len c2] w fun e w' => e = .returned (.bool true) ∧ Below w.heap.size w w' := by
  by_cases h0 : len = 0
  · subst h0; exact bytes_eq_nil a1 a2 c1 c2 w
  · obtain ⟨b1, o1, rfl, k1⟩ := h1.at (by omega)
    obtain ⟨b2, o2, rfl, k2⟩ := h2.at (by omega)
    exact bytes_eq b1 o1 c1 b2 o2 c2 len zs w hl hm (fun j hj => k1 j (by omega)) (fun j hj => k2 j (by omega))

end Go.Proofs.Ytcldfnnnjmhkjaa
