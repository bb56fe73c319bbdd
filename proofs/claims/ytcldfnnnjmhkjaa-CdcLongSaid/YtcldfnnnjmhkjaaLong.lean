/-
  The walk of CdcLong.
-/
import Derived.Test.YtcldfnnnjmhkjaaFill
namespace Go.Proofs.Ytcldfnnnjmhkjaa
open Go.RowKit
set_option linter.unusedVariables false

theorem long_out (a0 a1 : Int) (w : World) (h : a0 < 0 ∨ 1 < a0) :
    Calls Try.prog 6 #[.int .i64 a0, .int .u8 a1] w fun e w' => e = .returned (.bool true) ∧ Below w.heap.size w w' := by
  by_cases h1 : a0 < 0
  · have d1 : decide (a0 < 0) = true := decide_eq_true h1
    go_enter Try.func6, Try.ntmps6
    go_wp2_with fail
    go_ret
    exact ⟨rfl, Below.refl _ _⟩
  · have d1 : decide (a0 < 0) = false := decide_eq_false h1
    have d2 : decide (1 < a0) = true := decide_eq_true (by omega)
    go_enter Try.func6, Try.ntmps6
    go_wp2_with fail
    go_ret
    exact ⟨rfl, Below.refl _ _⟩

set_option maxHeartbeats 4000000 in
theorem long_walk (over : Nat) (x : Int) (w : World) (ho : over ≤ 1) (hx0 : 0 ≤ x) (hx1 : x ≤ 255) :
    Calls Try.prog 6 #[.int .i64 over, .int .u8 x] w fun e w' => e = .returned (.bool true) ∧ Below w.heap.size w w' := by
  obtain ⟨i0, hi, hz0, hz1, hz2⟩ := info_parts Try.info5
  have d1 : decide ((1 : Int) < over) = false := decide_eq_false (by omega)
  go_enter Try.func6, Try.ntmps6
  go_wp2_with (at_make; refine wpList_make_full _ rfl (.tmp 16) (.tmp 16) 22 rfl w.heap.size 5 i0 (.int .u8 0) 1 Try.underlying22 hi hz0 hz1 .i64 .i64 _ _ (32768 + over) rfl rfl (by omega) (by omega) (by rw [hz2]; omega) (by unfold maxLen; omega) (Nat.le_refl _) ?_; intro w1 hown1 hgrow1; have HF1 := Lib.hid (filled_start (x := x) hown1); have HB1 := Lib.hid (Below.grown (Below.refl _ _) hgrow1 (Nat.le_refl _) (fun k h => by cases h)); clear hown1 hgrow1)
  obtain ⟨N, hN⟩ : ∃ N, N = 32768 + over := ⟨_, rfl⟩
  rw [← hN] at HF1 ⊢
  have HN := Lib.hid hN
  have hN1 : N ≤ 32769 := by omega
  clear hN
  go_loopw [6] (fun i wr => ∃ k : Nat, k ≤ N ∧ i = .int .i64 k ∧ Filled wr w.heap.size N k x ∧ Below w.heap.size w wr) (fun i _ => N - (intOf i).toNat)
  case atStart => exact ⟨0, Nat.zero_le _, rfl, HF1.out, HB1.out⟩
  case round =>
    obtain ⟨k, hk, rfl, hf, hB⟩ := hrel
    by_cases hlt : k < N
    · have hc := filled_cell hf hlt
      have hfr := filled_free (j := k) hf
      have HF := Lib.hid hf; have HB := Lib.hid hB
      clear hf hB
      go_wp2
      go_roundw
      case rel => exact ⟨k + 1, by omega, by go_num, filled_step HF.out hlt, HB.out.setCell (Nat.le_refl _) _⟩
      case measure => simp [intOf]; omega
    · obtain rfl : k = N := by omega
      have HB := Lib.hid hB
      have HR := Lib.hid (filled_end hf)
      obtain ⟨wo, rfl⟩ : ∃ wo : World, wo = wr := ⟨_, rfl⟩
      clear hf hB HF1 HB1
      by_cases h0 : over = 0
      · have d2 : decide ((0 : Int) < over) = false := decide_eq_false (by omega)
        have d2' : decide (0 < over) = false := decide_eq_false (by omega)
        have HC := Lib.hid (cut_end (some ⟨w.heap.size, 0, none⟩) k k (List.replicate k x) wo (by simp) (Nat.le_refl _) (by unfold maxLen; omega) (by have := HN.out; omega) HR.out (bts_replicate _ _ hx0 hx1))
        have hmany := cut_many _ (List.replicate k x) (Nat.le_refl _)
        rw [List.length_replicate] at hmany
        obtain ⟨L, hL⟩ : ∃ L, L = cutL (List.replicate k x) := ⟨_, rfl⟩
        rw [← hL] at HC hmany
        obtain ⟨n, hn⟩ : ∃ n, n = L.length := ⟨_, rfl⟩
        have d3 : decide ((512 : Int) ≤ n) = true := decide_eq_true (by have := HN.out; omega)
        have HNL := Lib.hid hn
        clear hmany hL hn h0
        go_wp2_with (first
          | (go_at_call 14; refine HC.out.mono ?_; rintro e w2 ⟨lo, lc, rfl, hlc, hlm, hch, hB2⟩; rw [← HNL.out]; have HB2 := Lib.hid (HB.out.trans (hB2.mono HB.out.size)); clear hlc hlm hch hB2)
          | (go_at_call 21; refine (wakes4 _).mono ?_; rintro e w3 ⟨rfl, hB3⟩))
        go_ret
        exact ⟨rfl, HB2.out.trans (hB3.mono HB2.out.size)⟩
      · have d2 : decide ((0 : Int) < over) = true := decide_eq_true (by omega)
        have d2' : decide (0 < over) = true := decide_eq_true (by omega)
        have hk1 : 32768 < k := by have := HN.out; omega
        clear h0
        go_wp2_with (first
          | (go_at_call 14; refine (cut_long _ _ _ _ hk1).mono ?_; rintro e w2 ⟨rfl, rfl⟩)
          | (go_at_call 21; refine (wakes4 _).mono ?_; rintro e w3 ⟨rfl, hB3⟩))
        go_ret
        exact ⟨rfl, HB.out.trans (hB3.mono HB.out.size)⟩

end Go.Proofs.Ytcldfnnnjmhkjaa
