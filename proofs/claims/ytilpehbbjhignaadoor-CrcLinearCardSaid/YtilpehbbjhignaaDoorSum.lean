/-
  The contract of Sum.
-/
import Derived.Test.YtilpehbbjhignaaDoorCrc
namespace Go.Proofs.YtilpehbbjhignaaDoor
open Go.RowKit
set_option linter.unusedVariables false

theorem sum_some (b o n cap : Nat) (ps : List Part) (w : World) (hl : ps.length = n) (hm : n ≤ maxLen) (hT : Tab w) (hc : ∀ r, (h : r < ps.length) → w.cell? ⟨b, o + r, none⟩ = some (.slice ps[r].a ps[r].l ps[r].c) ∧ ps[r].ok w) :
    Calls Tryd.prog 11 #[.slice (some ⟨b, o, none⟩) n cap] w fun e w' => e = .returned (.int .u32 ((sumOf (flat ps)).toNat : Int)) ∧ w = w' := by
  unfold maxLen at hm
  have HL := Lib.hid hl; have HT := Lib.hid hT; have HC := Lib.hid hc
  clear hl hT hc
  go_enter Tryd.func11, Tryd.ntmps11
  go_wp2
  go_loop [3, 10] (fun g i => ∃ k : Nat, k ≤ n ∧ i = .int .i64 k ∧ g = .int .u32 ((regs 0xffffffff#32 (flat (ps.take k))).toNat : Int)) (fun _ i => n - (intOf i).toNat)
  case atStart => exact ⟨0, Nat.zero_le _, rfl, rfl⟩
  case round =>
    obtain ⟨k, hk, rfl, rfl⟩ := hrel
    by_cases hlt : k < n
    · obtain ⟨hcell, hok⟩ := HC.out k (by rw [HL.out]; exact hlt)
      have HF := Lib.hid (flat_take ps k (by rw [HL.out]; exact hlt))
      generalize ps[k]'(by rw [HL.out]; exact hlt) = p at hcell hok HF
      obtain ⟨pa, pl, pc, pz⟩ := p
      have HOK := Lib.hid hok
      have hpm : pl ≤ 2 ^ 63 - 1 := by have := hok.small; unfold maxLen at this; exact this
      clear hok
      obtain ⟨R, hR⟩ : ∃ R, R = regs 0xffffffff#32 (flat (ps.take k)) := ⟨_, rfl⟩
      rw [← hR]
      have HR := Lib.hid hR
      clear hR
      go_wp2
      go_loop [3, 16] (fun g i => ∃ j : Nat, j ≤ pl ∧ i = .int .i64 j ∧ g = .int .u32 ((regs R (pz.take j)).toNat : Int)) (fun _ i => pl - (intOf i).toNat)
      case atStart => exact ⟨0, Nat.zero_le _, rfl, rfl⟩
      case round =>
        obtain ⟨j, hj, rfl, rfl⟩ := hrel
        by_cases hlj : j < pl
        · have hpl : pz.length = pl := HOK.out.len
          obtain ⟨pb, po, hpa, hcc⟩ := HOK.out.rd.at (by show 0 < pz.length; omega)
          simp only at hpa
          subst hpa
          replace hcc := hcc j (by show j < pz.length; omega)
          have hbd := HOK.out.bts j (by show j < pz.length; omega)
          have HN := Lib.hid (regs_take R pz j (by omega))
          simp only at hcc hbd
          obtain ⟨c, hc⟩ : ∃ c, c = pz.getD j 0 := ⟨_, rfl⟩
          obtain ⟨X, hX⟩ : ∃ X, X = regs R (pz.take j) := ⟨_, rfl⟩
          rw [← hX] at HN ⊢
          rw [← hc] at hcc hbd HN
          obtain ⟨hb0, hb1⟩ := hbd
          have em : c % 4294967296 = c := by omega
          obtain ⟨a, s, t, d, s', t', i1, i2, e1, e2, e3, e4, e5, e6, f2, f3, f4, f5, f6⟩ := upd_ints HT.out X c hb0 hb1
          obtain ⟨Y, hY⟩ : ∃ Y, Y = upd X c := ⟨_, rfl⟩
          rw [← hY] at f6 HN
          clear hX hc hY HOK HT HC HL
          go_wp2
          go_round
          case rel => exact ⟨j + 1, by omega, by go_num, by rw [HN.out]⟩
          case measure => simp [intOf]; omega
        · obtain rfl : j = pl := by omega
          have hpl : pz.length = j := HOK.out.len
          rw [List.take_of_length_le (by omega)]
          have HN : Hid (regs 0xffffffff#32 (flat (ps.take (k + 1))) = regs R pz) := by show _ = _; rw [HF.out, regs_append, ← HR.out]
          clear HOK HT HC HL hpl
          go_wp2
          go_round
          case rel => exact ⟨k + 1, by omega, by go_num, by rw [HN.out]⟩
          case measure => simp [intOf]; omega
    · obtain rfl : k = n := by omega
      have hk' := HL.out
      rw [List.take_of_length_le (by omega)]
      have e := not_u32 (regs 0xffffffff#32 (flat ps))
      have e2 : ~~~ regs 0xffffffff#32 (flat ps) = sumOf (flat ps) := rfl
      rw [e2] at e
      obtain ⟨S, hS⟩ : ∃ S, S = sumOf (flat ps) := ⟨_, rfl⟩
      rw [← hS] at e
      have HS := Lib.hid hS
      generalize regs 0xffffffff#32 (flat ps) = R at e ⊢
      clear HL HT HC e2 hk' hS
      go_wp2
      go_ret
      exact ⟨by rw [← HS.out]; rfl, rfl⟩

theorem sum_zero (ao : Option Addr) (cap : Nat) (w : World) :
    Calls Tryd.prog 11 #[.slice ao 0 cap] w fun e w' => e = .returned (.int .u32 ((sumOf []).toNat : Int)) ∧ w = w' := by
  go_enter Tryd.func11, Tryd.ntmps11
  go_wp2
  refine wp_loop_rounds 1 ?_
  rw [rounds_succ]
  go_wp2
  go_ret
  exact ⟨rfl, rfl⟩

/-- THE SUM OF ANY PARTS. -/
theorem sum_any (ao : Option Addr) (n cap : Nat) (ps : List Part) (w : World) (hl : ps.length = n) (hm : n ≤ maxLen) (hT : Tab w) (h : Ps w ao ps) :
    Calls Tryd.prog 11 #[.slice ao n cap] w fun e w' => e = .returned (.int .u32 ((sumOf (flat ps)).toNat : Int)) ∧ w = w' := by
  rcases h with rfl | ⟨b, o, rfl, hc⟩
  · obtain rfl : n = 0 := hl.symm
    exact sum_zero ao cap w
  · exact sum_some b o n cap ps w hl hm hT hc

end Go.Proofs.YtilpehbbjhignaaDoor
