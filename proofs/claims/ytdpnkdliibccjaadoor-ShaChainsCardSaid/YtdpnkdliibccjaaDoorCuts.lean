/-
  Cuts of bytes; a region's operations.
-/
import Derived.Test.YtdpnkdliibccjaaDoorEql
import Derived.Test.YtdpnkdliibccjaaDoorAnyOrder
namespace Go.Proofs.YtdpnkdliibccjaaDoor
open Go.RowKit
set_option linter.unusedVariables false

def cutA (a : Option Addr) (kc l : Nat) : Option Addr := if kc = l then a else a.map (·.add (l * 1))
theorem slice28 : Tryd.prog.underlying 28 = some (.slice (Tryd.prog.elem 28)) ∧ Tryd.prog.elem 28 = 5 := ⟨by kernel_rfl, by kernel_rfl⟩
theorem cut_h (a : Option Addr) (N kc h : Nat) (h2 : h ≤ kc) (w : World) : (Instr.slice 28 (.slice a N kc) none (some (.int .i64 (h : Int))) none).run Tryd.prog w = .ok (.slice (cutA a kc 0) (h - 0) (kc - 0)) w := by
  rw [run_slice_h (P := Tryd.prog) w 28 a N kc slice28.1 .i64 (h : Int) (by omega) (by omega), slice28.2, size5]
  simp [Result.andThen, sliced, cutA]
theorem cut_l (a : Option Addr) (N kc l : Nat) (h2 : l ≤ N) (w : World) : (Instr.slice 28 (.slice a N kc) (some (.int .i64 (l : Int))) none none).run Tryd.prog w = .ok (.slice (cutA a kc l) (N - l) (kc - l)) w := by
  rw [run_slice_l (P := Tryd.prog) w 28 a N kc slice28.1 .i64 (l : Int) (by omega) (by omega), slice28.2, size5]
  simp [Result.andThen, sliced, cutA]
theorem cut_lh (a : Option Addr) (N kc l h : Nat) (h1 : l ≤ h) (h2 : h ≤ kc) (w : World) : (Instr.slice 28 (.slice a N kc) (some (.int .i64 (l : Int))) (some (.int .i64 (h : Int))) none).run Tryd.prog w = .ok (.slice (cutA a kc l) (h - l) (kc - l)) w := by
  rw [run_slice_lh (P := Tryd.prog) w 28 a N kc slice28.1 .i64 .i64 (l : Int) (h : Int) (by omega) (by omega) (by omega), slice28.2, size5]
  simp [Result.andThen, sliced, cutA]
theorem cut_ok {w : World} {a : Option Addr} {N kc : Nat} {z : List Int} (hp : Part.ok w ⟨a, N, kc, z⟩) (l h : Nat) (h1 : l ≤ h) (h2 : h ≤ N) : Part.ok w ⟨cutA a kc l, h - l, kc - l, (z.take h).drop l⟩ := by
  have hlen := hp.len
  have hroom := hp.room
  have hnil := hp.nil
  simp only at hlen hroom hnil
  refine ⟨?_, by simp; omega, (hp.bts.take h).drop l, by have := hp.small; simp only at this ⊢; omega, ?_, by simp only; omega, by simp only; omega⟩
  · show Rd w (cutA a kc l) ((z.take h).drop l)
    unfold cutA
    by_cases e : kc = l
    · rw [if_pos e]
      exact .inl (List.drop_eq_nil_of_le (by rw [List.length_take]; omega))
    · rw [if_neg e]
      rcases hp.rd.take h with hr | ⟨b, o, ha, hc⟩
      · exact .inl (by rw [hr]; simp)
      · simp only at ha
        subst ha
        have := Rd.drop (.inr ⟨b, o, rfl, hc⟩ : Rd w (some ⟨b, o, none⟩) (z.take h)) l
        simpa [Addr.add_lit] using this
  · intro e
    simp only at e
    unfold cutA at e
    by_cases e2 : kc = l
    · simp only; omega
    · rw [if_neg e2] at e
      have : a = none := by simpa using e
      have := hnil this
      simp only; omega
theorem run_bind_of {x : Sem Value} {u : Value} {w : World} (h : x.run Tryd.prog w = .ok u w) : (x >>= fun y => pure (Next.value y)).run Tryd.prog w = .ok (.value u) w := by
  simp [h]
/-- Parts just set side by side. -/
theorem ps_side {w : World} (ps : List Part) (h : ∀ p ∈ ps, p.ok w) : Ps (w.alloc (.cells (ps.map Part.v).toArray 28)) (some ⟨w.heap.size, 0, none⟩) ps :=
  ps_new w ps 28 (fun r hr => h _ (List.getElem_mem hr))
end Go.Proofs.YtdpnkdliibccjaaDoor
