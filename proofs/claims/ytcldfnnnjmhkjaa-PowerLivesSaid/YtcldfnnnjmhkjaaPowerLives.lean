/-
  PowerLives: whatever lists and numbers are handed in, the law returns true, and what was handed in reads as it did. No condition.
-/
import Derived.Test.YtcldfnnnjmhkjaaOpen
import Derived.Test.YtcldfnnnjmhkjaaLives
import Derived.Test.YtcldfnnnjmhkjaaLives2
import Derived.Test.YtcldfnnnjmhkjaaRows
import Derived.WalkKit
import Derived.ProofKit
import Derived.OpenShut
import Derived.ShutString
import Derived.ChangeOld
import Derived.Below
import Derived.Deep.Matrix
import Derived.Deep.Grids
namespace Go.Proofs.Ytcldfnnnjmhkjaa.powerLives
open Go.ChangeShapes Go.WideShapes Go.ChangeAt Go.RowKit
open Go.ChangeMaps (open_string shut_string)
set_option linter.unusedVariables false

theorem own : ownKnob Try.prog.godebug = none := by kernel_rfl
theorem laidOut : laidOutB Try.prog = true := by kernel_rfl

theorem walk (a0 : Option Addr) (len0 cap0 : Nat) (A0 : Nat → Option Addr) (L0 C0 : Nat → Nat) (B0 : Nat → Nat → Bool) (a1 : Option Addr) (len1 cap1 : Nat) (z1 : List Int) (a2 : Bool) (w : World) (w0 : IsBRows w a0 len0 cap0 A0 L0 C0 B0) (w1 : IsRow .i64 w a1 len1 cap1 z1) :
    Calls Try.prog 11 #[.slice a0 len0 cap0, .slice a1 len1 cap1, .bool a2] w fun e w' => e = .returned (.bool true) ∧ Below w.heap.size w w' := by
  by_cases h : 20 < len0 ∨ 100 < len1
  · exact lives_more a0 a1 len0 cap0 len1 cap1 a2 w h
  · obtain ⟨rb, ro, h0⟩ : ∃ rb ro, 0 < len0 → a0 = some ⟨rb, ro, none⟩ ∧ ∀ r, r < len0 → w.cell? ⟨rb, ro + r, none⟩ = some (.slice (A0 r) (L0 r) (C0 r)) := by
      by_cases g : 0 < len0
      · obtain ⟨b, o, h1, h2⟩ := w0.cells g
        exact ⟨b, o, fun _ => ⟨h1, h2⟩⟩
      · exact ⟨0, 0, fun h => absurd h g⟩
    obtain ⟨tb, to, h1⟩ : ∃ tb to, 0 < len1 → a1 = some ⟨tb, to, none⟩ ∧ ∀ r, r < len1 → w.cell? ⟨tb, to + r, none⟩ = some (.int .i64 (z1.getD r 0)) := by
      by_cases g : 0 < len1
      · obtain ⟨b, o, h1, h2⟩ := w1.cells g
        exact ⟨b, o, fun _ => ⟨h1, h2⟩⟩
      · exact ⟨0, 0, fun h => absurd h g⟩
    cases a2
    · exact lives_false a0 a1 len0 cap0 len1 cap1 A0 L0 C0 B0 (fun r => z1.getD r 0) w (by omega) (by omega) rb ro tb to (fun h => (h0 h).1) (fun h => (h1 h).1) (fun r hr => (h0 (by omega)).2 r hr) (fun r hr => (h1 (by omega)).2 r hr) w0.nil w0.row
    · exact lives_true a0 a1 len0 cap0 len1 cap1 A0 L0 C0 B0 (fun r => z1.getD r 0) w (by omega) (by omega) rb ro tb to (fun h => (h0 h).1) (fun h => (h1 h).1) (fun r hr => (h0 (by omega)).2 r hr) (fun r hr => (h1 (by omega)).2 r hr) w0.nil w0.row

set_option maxRecDepth 100000 in
theorem lifted (os : Os) (started : os.Started) (H : Type) (enc : TypeId × Value → H) :
    ReturnsInHanded {} Try.checked os 11 .any (Rows.powerLivesSpec.pre6 enc Try.prog Try.f11 Rows.powerLivesRow.domain false) (Rows.powerLivesSpec.post enc Try.prog Try.f11 false true false false) := by
  refine returnsInHanded_of_change (C := Try.checked) own started (by kernel_rfl) Try.func11
    (ChangeSpec.witness6 (enc := enc) (C := Try.checked) false ⟨#[], #[.slice none 0 0, .slice none 0 0, .bool false], []⟩ 8 (by kernel_rfl) (by kernel_rfl) (by kernel_rfl) (by kernel_rfl)) ?_
  intro W base args ds gs before hval0 hW hcnd _
  have hval : ∀ (j : Nat) t v, Try.f11.params[j]? = some t → args[j]? = some v → Value.okWide Try.prog W .any base t v := hval0
  have hW' := hW
  obtain ⟨p, q, hA0, hV, rfl, hfz, hnd⟩ := hW
  have hA : DataW.TrodAll enc Try.prog W 0 (fun _ => true) true Try.f11.params.toList args.toList ds p := hA0
  rw [Try.params11] at hA hval
  obtain ⟨v0, vs0, d0, ds0, p0, q0, hargs, rfl, rfl, h0, r0⟩ := trodAll_cons hA
  obtain ⟨v1, vs1, d1, ds1, p1, q1, rfl, rfl, rfl, h1, r1⟩ := trodAll_cons r0
  obtain ⟨v2, vs2, d2, ds2, p2, q2, rfl, rfl, rfl, h2, r2⟩ := trodAll_cons r1
  obtain ⟨rfl, rfl, rfl⟩ := trodAll_nil r2
  obtain rfl : args = #[v0, v1, v2] := by cases args; simp_all
  obtain ⟨rfl, rfl⟩ := trodVars_none hV
  obtain ⟨a0, len0, cap0, rfl⟩ := okWide_slice Try.underlying44 (hval 0 44 v0 rfl rfl)
  have k0 := h0
  have lt0 : ∀ x ∈ p0, x.block < W.heap.size := by obtain ⟨m, hm⟩ := k0; exact DataW.trod_lt m _ _ _ hm
  obtain ⟨A0, L0, C0, B0, w0⟩ : ∃ A L C B, IsBRows W a0 len0 cap0 A L C B := by
    obtain ⟨fuel, hf⟩ := h0
    rcases Go.Deep.open_bool_rows Try.underlying44 Try.underlying47 Try.underlying4 (by kernel_rfl) (by kernel_rfl) hf with ⟨hcs, _⟩ | ⟨x, l, c, A, L, C, B, hcs, _, hl, hm, _, hcell⟩
    · simp [Value.cells] at hcs
      obtain ⟨rfl, rfl, rfl⟩ := hcs
      exact ⟨fun _ => none, fun _ => 0, fun _ => 0, fun _ _ => false, .inl ⟨rfl, rfl, rfl⟩⟩
    · simp [Value.cells] at hcs
      obtain ⟨rfl, rfl, rfl⟩ := hcs
      exact ⟨A, L, C, B, .inr ⟨_, rfl, hl, hm, fun r hr => ⟨(hcell r hr).1, (hcell r hr).2.1, (hcell r hr).2.2.1, (hcell r hr).2.2.2.1, fun a' h' => ((hcell r hr).2.2.2.2 a' h').2⟩⟩⟩
  obtain ⟨a1, len1, cap1, rfl⟩ := okWide_slice Try.underlying45 (hval 1 45 v1 rfl rfl)
  have k1 := h1
  have lt1 : ∀ x ∈ p1, x.block < W.heap.size := by obtain ⟨m, hm⟩ := k1; exact DataW.trod_lt m _ _ _ hm
  obtain ⟨z1, w1⟩ : ∃ zs, IsRow .i64 W a1 len1 cap1 zs := by
    obtain ⟨fuel, hf⟩ := h1
    rcases open_ints Try.underlying45 Try.underlying3 (by kernel_rfl) hf with ⟨hcs, _⟩ | ⟨x, l, c, zs, hcs, _, hl, hm, hz, _, hcell, hwz⟩
    · simp [Value.cells] at hcs
      obtain ⟨rfl, rfl, rfl⟩ := hcs
      exact ⟨[], .inl ⟨rfl, rfl, rfl, rfl⟩⟩
    · simp [Value.cells] at hcs
      obtain ⟨rfl, rfl, rfl⟩ := hcs
      exact ⟨zs, .inr ⟨_, rfl, hl, hm, by simpa using hz, hcell, hwz⟩⟩
  obtain ⟨a2, rfl, rfl, rfl⟩ := open_bool Try.underlying4 (hval 2 4 v2 rfl rfl) h2
  clear hA0 hval0
  refine (walk a0 len0 cap0 A0 L0 C0 B0 a1 len1 cap1 z1 a2 W w0 w1).mono fun e W' ⟨he, bel⟩ => ?_
  subst he
  exact ⟨_, rfl, _, _, _, [], _, [], hW', trodAll_mk1 (shut_bool Try.underlying4 _), (trodAll_cons_mk (Below.trod laidOut (by kernel_rfl) (of_decide_eq_true (by kernel_rfl)) k0 bel lt0) (trodAll_cons_mk (Below.trod laidOut (by kernel_rfl) (of_decide_eq_true (by kernel_rfl)) k1 bel lt1) (trodAll_cons_mk (shut_bool Try.underlying4 _) trodAll_mk0))), rfl, bel.frame _, fun h => by cases h⟩

theorem over : Rows.powerLivesRow.holds Try.pinned (OpenSpec.ofChange Rows.powerLivesSpec) :=
  OpenClaim.holds_of_wide 11 Try.f11 rfl rfl rfl rfl rfl rfl rfl ⟨rfl, rfl, rfl, rfl, rfl⟩ rfl rfl rfl rfl rfl (by kernel_rfl) Try.func11 (by kernel_rfl)
    (of_decide_eq_true (by kernel_rfl)) (by unfold Func.isWrapper; first | (rw [if_pos (by decide +kernel)]; kernel_rfl) | (rw [if_neg (by decide +kernel)]; exact ⟨rfl, rfl⟩))
    (fun os started H enc _ => lifted os started H enc)

theorem proved : Rows.PowerLivesSaid := over
#print axioms proved
end Go.Proofs.Ytcldfnnnjmhkjaa.powerLives
