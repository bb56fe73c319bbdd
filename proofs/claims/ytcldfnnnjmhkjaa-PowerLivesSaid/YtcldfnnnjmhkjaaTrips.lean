/-
  The walk of PowerTrips.
-/
import Derived.Test.YtcldfnnnjmhkjaaPow3
namespace Go.Proofs.Ytcldfnnnjmhkjaa
open Go.RowKit
set_option linter.unusedVariables false

theorem uwrap_mod (a M : Int) (h : 0 < M) (hM : M ≤ 1000000000) : ∃ k : Nat, (k : Int) < M ∧ wrap64 ((IntKind.u64.wrap a).tmod M) = k := by
  have h0 : 0 ≤ IntKind.u64.wrap a := by rw [IntKind.wrap_u64]; omega
  refine ⟨((IntKind.u64.wrap a) % M).toNat, ?_, ?_⟩
  · have := Int.emod_lt_of_pos (IntKind.u64.wrap a) h; have := Int.emod_nonneg (IntKind.u64.wrap a) (by omega : M ≠ 0); omega
  · rw [Int.tmod_eq_emod_of_nonneg h0]
    have h1 := Int.emod_lt_of_pos (IntKind.u64.wrap a) h; have h2 := Int.emod_nonneg (IntKind.u64.wrap a) (by omega : M ≠ 0)
    generalize IntKind.u64.wrap a % M = r at *
    rw [IntWalk.wrap64_in _ ⟨by omega, by omega⟩]; omega

/-- Armed for the N-th; j writes have been made. -/
def Armed (w : World) (g : Nat) (ko : Option Addr) (kc N j : Nat) (t : Int) : Prop :=
  (j < N ∧ Pw w g false 0 (.slice none 0 0) 0 false (.slice ko 0 kc) t ((N : Int) - j)) ∨ (N ≤ j ∧ Pw w g true 0 (.slice ko 0 kc) t true (.slice none 0 0) 0 0)

set_option maxHeartbeats 4000000 in
theorem trips_some (a0 a1 : Int) (N K : Nat) (w : World) (hN : wrap64 ((IntKind.u64.wrap a0).tmod 50) = N) (hK : wrap64 ((IntKind.u64.wrap a1).tmod 50) = K) (h1 : 1 ≤ N) (h2 : N < 50) (h3 : K < 50) :
    Calls Try.prog 10 #[.int .i64 a0, .int .i64 a1] w fun e w' => e = .returned (.bool true) ∧ Below w.heap.size w w' := by
  have d1 : ((N : Int) == 0) = false := beq_eq_false_iff_ne.2 (by omega)
  have d2 : decide ((0 : Int) < N) = true := decide_eq_true (by omega)
  have d2' : decide (0 < N) = true := decide_eq_true (by omega)
  go_enter Try.func10, Try.ntmps10
  go_wp2_with (first
    | (go_at_call 22; refine (new_any _).mono ?_; rintro e w1 ⟨rfl, hp1, hB1⟩; have HP1 := Lib.hid hp1; have HB1 := Lib.hid hB1; clear hp1 hB1)
    | (go_at_call 23; fail))
  try rw [hN]
  try rw [hK]
  clear hN hK
  refine (trip_some w1 w.heap.size false 0 _ 0 false _ 0 0 N none 0 0 [] (-1) HP1.out (by omega) rfl (by omega) (.inl rfl) (fun b o s h => by cases h) (fun _ => ⟨rfl, rfl⟩)).mono ?_
  rintro e w2 ⟨ko, kc, rfl, hp2, hb2, hB2, hne⟩
  have HP2 := Lib.hid hp2; have HB2 := Lib.hid (HB1.out.trans hB2)
  clear hp2 hb2 hB2 hne
  go_wp2_with (first | (go_at_call 24; fail))
  go_loopw [6] (fun i wr => ∃ j : Nat, j ≤ N + K ∧ i = .int .i64 ((j : Int) + 1) ∧ Below w.heap.size w wr ∧ Armed wr w.heap.size ko kc N j (-1)) (fun i _ => N + K + 1 - (intOf i).toNat)
  case atStart => exact ⟨0, by omega, rfl, HB2.out, .inl ⟨h1, by simpa using HP2.out⟩⟩
  case round =>
    obtain ⟨j, hj, rfl, hB, hA⟩ := hrel
    have HB := Lib.hid hB
    clear hB
    by_cases hlt : j < N + K
    · have d3 : decide ((j : Int) + 1 ≤ (N : Int) + K) = true := decide_eq_true (by omega)
      rcases hA with ⟨hjN, hp⟩ | ⟨hjN, hp⟩
      · have HP := Lib.hid hp
        clear hp
        by_cases hl : j + 1 < N
        · have d4 : decide ((j : Int) + 1 < (N : Int)) = true := decide_eq_true (by omega)
          go_wp2_with (go_at_call 24; refine (spend_more _ w.heap.size 0 _ 0 false _ (-1) ((N : Int) - j) HP.out (by omega) (by omega)).mono ?_; rintro e w3 ⟨rfl, hp3, hB3⟩; have HP3 := Lib.hid hp3; have HB3 := Lib.hid hB3; clear hp3 hB3)
          go_roundw
          case rel => exact ⟨j + 1, by omega, by go_num, HB.out.trans HB3.out, .inl ⟨by omega, by rw [show ((N : Int) - ((j + 1 : Nat) : Int)) = (N : Int) - j - 1 by omega]; exact HP3.out⟩⟩
          case measure => simp [intOf]; omega
        · have d4 : decide ((j : Int) + 1 < (N : Int)) = false := decide_eq_false (by omega)
          have HPl : Hid (Pw wr w.heap.size false 0 (.slice none 0 0) 0 false (.slice ko 0 kc) (-1) 1) := by have := HP.out; rwa [show ((N : Int) - j) = 1 by omega] at this
          clear HP
          go_wp2_with (go_at_call 24; refine (spend_last _ w.heap.size 0 _ 0 false ko 0 kc (-1) HPl.out).mono ?_; rintro e w3 ⟨rfl, hp3, hB3, ho3⟩; have HP3 := Lib.hid hp3; have HB3 := Lib.hid hB3; clear hp3 hB3 ho3)
          go_roundw
          case rel => exact ⟨j + 1, by omega, by go_num, HB.out.trans HB3.out, .inr ⟨by omega, HP3.out⟩⟩
          case measure => simp [intOf]; omega
      · have HP := Lib.hid hp
        have d4 : decide ((j : Int) + 1 < (N : Int)) = false := decide_eq_false (by omega)
        clear hp
        go_wp2_with (go_at_call 24; refine (spend_off _ w.heap.size 0 _ _ _ _ _ _ HP.out).mono ?_; rintro e w3 ⟨rfl, rfl⟩)
        go_roundw
        case rel => exact ⟨j + 1, by omega, by go_num, HB.out, .inr ⟨by omega, HP.out⟩⟩
        case measure => simp [intOf]; omega
    · have d3 : decide ((j : Int) + 1 ≤ (N : Int) + K) = false := decide_eq_false (by omega)
      rcases hA with ⟨hjN, hp⟩ | ⟨hjN, hp⟩
      · omega
      · have HP := Lib.hid hp
        obtain ⟨wo, rfl⟩ : ∃ wo : World, wo = wr := ⟨_, rfl⟩
        clear hp
        go_wp2_with (first
          | (go_at_call 25; refine (off_any _ _ _ _ _ _ _ _ _ _ HP.out).mono ?_; rintro e w4 ⟨rfl, rfl⟩)
          | (go_at_call 26; refine (start_any _ _ _ _ _ _ _ _ _ _ HP.out (by omega) (by omega)).mono ?_; rintro e w4 ⟨rfl, hp4, hB4⟩; have HP4 := Lib.hid hp4; have HB4 := Lib.hid (HB.out.trans hB4); clear hp4 hB4)
          | (go_at_call 24; fail))
        go_loop [7] (fun i => ∃ j : Nat, j ≤ K ∧ i = .int .i64 j) (fun i => K - (intOf i).toNat)
        case atStart => exact ⟨0, Nat.zero_le _, rfl⟩
        case round =>
          obtain ⟨r, hr, rfl⟩ := hrel
          by_cases hrK : r < K
          · go_wp2_with (go_at_call 24; refine (spend_free _ w.heap.size _ _ _ _ _ _ _ HP4.out (by omega)).mono ?_; rintro e w5 ⟨rfl, rfl⟩)
            go_round
            case rel => exact ⟨r + 1, by omega, by go_num⟩
            case measure => simp [intOf]; omega
          · go_wp2_with (first
              | (go_at_call 27; refine (life_any _ _ _ _ _ _ _ _ _ _ HP4.out).mono ?_; rintro e w5 ⟨rfl, rfl⟩)
              | (go_at_call 25; refine (off_any _ _ _ _ _ _ _ _ _ _ HP4.out).mono ?_; rintro e w5 ⟨rfl, rfl⟩)
              | (go_at_call 28; refine (wakes8 _).mono ?_; rintro e w6 ⟨rfl, hB6⟩))
            go_ret
            exact ⟨rfl, HB4.out.trans (hB6.mono HB4.out.size)⟩

set_option maxHeartbeats 4000000 in
theorem trips_none (a0 a1 : Int) (K : Nat) (w : World) (hN : wrap64 ((IntKind.u64.wrap a0).tmod 50) = 0) (hK : wrap64 ((IntKind.u64.wrap a1).tmod 50) = K) (h3 : K < 50) :
    Calls Try.prog 10 #[.int .i64 a0, .int .i64 a1] w fun e w' => e = .returned (.bool true) ∧ Below w.heap.size w w' := by
  go_enter Try.func10, Try.ntmps10
  go_wp2_with (first
    | (go_at_call 22; refine (new_any _).mono ?_; rintro e w1 ⟨rfl, hp1, hB1⟩; have HP1 := Lib.hid hp1; have HB1 := Lib.hid hB1; clear hp1 hB1)
    | (go_at_call 23; fail))
  try rw [hN]
  try rw [hK]
  clear hN hK
  refine (trip_none w1 w.heap.size false 0 _ 0 false _ 0 0 0 _ (-1) HP1.out (by omega)).mono ?_
  rintro e wo ⟨rfl, hp2, hB2⟩
  have HP2 := Lib.hid hp2; have HB2 := Lib.hid (HB1.out.trans hB2)
  clear hp2 hB2
  go_wp2_with (first | (go_at_call 24; fail))
  go_loop [6] (fun i => ∃ j : Nat, j ≤ K ∧ i = .int .i64 ((j : Int) + 1)) (fun i => K + 1 - (intOf i).toNat)
  case atStart => exact ⟨0, by omega, rfl⟩
  case round =>
    obtain ⟨j, hj, rfl⟩ := hrel
    by_cases hlt : j < K
    · have d3 : decide ((j : Int) + 1 ≤ (K : Int)) = true := decide_eq_true (by omega)
      go_wp2_with (go_at_call 24; refine (spend_free _ w.heap.size _ _ _ _ _ _ _ HP2.out (by omega)).mono ?_; rintro e w5 ⟨rfl, rfl⟩)
      go_round
      case rel => exact ⟨j + 1, by omega, by go_num⟩
      case measure => simp [intOf]; omega
    · have d3 : decide ((j : Int) + 1 ≤ (K : Int)) = false := decide_eq_false (by omega)
      go_wp2_with (first
        | (go_at_call 25; refine (off_any _ _ _ _ _ _ _ _ _ _ HP2.out).mono ?_; rintro e w4 ⟨rfl, rfl⟩)
        | (go_at_call 26; refine (start_any _ _ _ _ _ _ _ _ _ _ HP2.out (by omega) (by omega)).mono ?_; rintro e w4 ⟨rfl, hp4, hB4⟩; have HP4 := Lib.hid hp4; have HB4 := Lib.hid (HB2.out.trans hB4); clear hp4 hB4)
        | (go_at_call 24; fail))
      go_loop [7] (fun i => ∃ j : Nat, j ≤ K ∧ i = .int .i64 j) (fun i => K - (intOf i).toNat)
      case atStart => exact ⟨0, Nat.zero_le _, rfl⟩
      case round =>
        obtain ⟨r, hr, rfl⟩ := hrel
        by_cases hrK : r < K
        · go_wp2_with (go_at_call 24; refine (spend_free _ w.heap.size _ _ _ _ _ _ _ HP4.out (by omega)).mono ?_; rintro e w5 ⟨rfl, rfl⟩)
          go_round
          case rel => exact ⟨r + 1, by omega, by go_num⟩
          case measure => simp [intOf]; omega
        · go_wp2_with (first
            | (go_at_call 27; refine (life_any _ _ _ _ _ _ _ _ _ _ HP4.out).mono ?_; rintro e w5 ⟨rfl, rfl⟩)
            | (go_at_call 25; refine (off_any _ _ _ _ _ _ _ _ _ _ HP4.out).mono ?_; rintro e w5 ⟨rfl, rfl⟩)
            | (go_at_call 28; refine (wakes8 _).mono ?_; rintro e w6 ⟨rfl, hB6⟩))
          go_ret
          exact ⟨rfl, HB4.out.trans (hB6.mono HB4.out.size)⟩

theorem trips_any (a0 a1 : Int) (w : World) : Calls Try.prog 10 #[.int .i64 a0, .int .i64 a1] w fun e w' => e = .returned (.bool true) ∧ Below w.heap.size w w' := by
  obtain ⟨N, hN1, hN⟩ := uwrap_mod a0 50 (by omega) (by omega)
  obtain ⟨K, hK1, hK⟩ := uwrap_mod a1 50 (by omega) (by omega)
  by_cases h : N = 0
  · subst h; exact trips_none a0 a1 K w hN hK (by omega)
  · exact trips_some a0 a1 N K w hN hK (by omega) (by omega) (by omega)

end Go.Proofs.Ytcldfnnnjmhkjaa
