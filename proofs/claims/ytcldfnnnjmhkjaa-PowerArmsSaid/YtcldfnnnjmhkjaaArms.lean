/-
  The walk of PowerArms.
-/
import Derived.Test.YtcldfnnnjmhkjaaTrips
namespace Go.Proofs.Ytcldfnnnjmhkjaa
open Go.RowKit
set_option linter.unusedVariables false

set_option maxRecDepth 100000 in
set_option maxHeartbeats 4000000 in
theorem arms_zero (a0 a1 a2 : Int) (a S : Nat) (w : World) (hA : wrap64 ((IntKind.u64.wrap a0).tmod 20) = a) (hB : wrap64 ((IntKind.u64.wrap a1).tmod 20) = 0) (hS : wrap64 ((IntKind.u64.wrap a2).tmod 10) = S) (h2 : a < 20) (h4 : S < 10) :
    Calls Try.prog 12 #[.int .i64 a0, .int .i64 a1, .int .i64 a2] w fun e w' => e = .returned (.bool true) ∧ Below w.heap.size w w' := by
  go_enter Try.func12, Try.ntmps12
  go_wp2_with (first
    | (go_at_call 22; refine (new_any _).mono ?_; rintro e w1 ⟨rfl, hp1, hB1⟩; have HP1 := Lib.hid hp1; have HB1 := Lib.hid hB1; clear hp1 hB1)
    | (go_at_call 23; fail))
  try rw [hA]
  try rw [hB]
  try rw [hS]
  clear hA hB hS
  refine (trip_some w1 w.heap.size false 0 _ 0 false _ 0 0 ((a : Int) + S + 1) none 0 0 [] 1 HP1.out (by omega) rfl (by omega) (.inl rfl) (fun b o s h => by cases h) (fun _ => ⟨rfl, rfl⟩)).mono ?_
  rintro e w2 ⟨ko, kc, rfl, hp2, hb2, hB2, hne⟩
  have HP2 := Lib.hid hp2; have HB2 := Lib.hid (HB1.out.trans hB2)
  clear hp2 hb2 hB2 hne
  go_wp2_with (first | (go_at_call 24; fail))
  go_loopw [8] (fun i wr => ∃ j : Nat, j ≤ S ∧ i = .int .i64 j ∧ Below w.heap.size w wr ∧ Pw wr w.heap.size false 0 (.slice none 0 0) 0 false (.slice ko 0 kc) 1 ((a : Int) + S + 1 - j)) (fun i _ => S - (intOf i).toNat)
  case atStart => exact ⟨0, by omega, rfl, HB2.out, by simpa using HP2.out⟩
  case round =>
    obtain ⟨j, hj, rfl, hBr, hp⟩ := hrel
    have HBr := Lib.hid hBr; have HP := Lib.hid hp
    clear hBr hp
    by_cases hlt : j < S
    · go_wp2_with (go_at_call 24; refine (spend_more _ w.heap.size 0 _ 0 false _ 1 ((a : Int) + S + 1 - j) HP.out (by omega) (by omega)).mono ?_; rintro e w3 ⟨rfl, hp3, hB3⟩; have HP3 := Lib.hid hp3; have HB3 := Lib.hid hB3; clear hp3 hB3)
      go_roundw
      case rel => exact ⟨j + 1, by omega, by go_num, HBr.out.trans HB3.out, by rw [show ((a : Int) + S + 1 - ((j + 1 : Nat) : Int)) = (a : Int) + S + 1 - j - 1 by omega]; exact HP3.out⟩
      case measure => simp [intOf]; omega
    · obtain ⟨wo, rfl⟩ : ∃ wo : World, wo = wr := ⟨_, rfl⟩
      go_wp2_with (first | (go_at_call 23; fail))
      refine (trip_none wo w.heap.size false 0 _ 0 false _ _ _ 0 _ 2 HP.out (by omega)).mono ?_
      rintro e w4 ⟨rfl, hp4, hB4⟩
      have HP4 := Lib.hid hp4; have HBx := Lib.hid (HBr.out.trans hB4)
      clear hp4 hB4
      go_wp2_with (first | (go_at_call 24; fail))
      go_loop [9, 10] (fun n i => ∃ j : Nat, j ≤ 40 ∧ i = .int .i64 j ∧ n = .int .i64 j) (fun _ i => 40 - (intOf i).toNat)
      case atStart => exact ⟨0, Nat.zero_le _, rfl, rfl⟩
      case round =>
        obtain ⟨q, hq, rfl, rfl⟩ := hrel
        by_cases hq40 : q < 40
        · have d8 : decide ((q : Int) < 40) = true := decide_eq_true (by omega)
          go_wp2_with (go_at_call 24; refine (spend_free _ w.heap.size _ _ _ _ _ _ _ HP4.out (by omega)).mono ?_; rintro e w5 ⟨rfl, rfl⟩)
          go_round
          case rel => exact ⟨q + 1, by omega, by go_num, by go_num⟩
          case measure => simp [intOf]; omega
        · obtain rfl : q = 40 := by omega
          go_wp2_with (first
              | (go_at_call 25; refine (off_any _ _ _ _ _ _ _ _ _ _ HP4.out).mono ?_; rintro e w5 ⟨rfl, rfl⟩)
              | (go_at_call 30; refine (torn_any _ _ _ _ _ _ _ _ _ _ HP4.out).mono ?_; rintro e w5 ⟨rfl, rfl⟩)
              | (go_at_call 26; refine (start_any _ _ _ _ _ _ _ _ _ _ HP4.out (by omega) (by omega)).mono ?_; rintro e wa ⟨rfl, hpa, hBa⟩; have HPa := Lib.hid hpa; have HBa := Lib.hid (HBx.out.trans hBa); clear hpa hBa)
              | (go_at_call 23; fail))
          refine (trip_some wa w.heap.size false 0 _ _ _ _ _ _ 3 none 0 0 [] 5 HPa.out (by omega) rfl (by omega) (.inl rfl) (fun b o s h => by cases h) (fun _ => ⟨rfl, rfl⟩)).mono ?_
          rintro e wb ⟨kb, cb, rfl, hpb, hbb, hBb, hneb⟩
          have HPb := Lib.hid hpb; have HBb := Lib.hid (HBa.out.trans hBb)
          clear hpb hbb hBb hneb
          go_wp2_with (first | (go_at_call 31; fail))
          refine (cut_on wb w.heap.size 0 _ _ _ _ _ _ none 0 0 [] 7 HPb.out rfl (by omega) (.inl rfl) (fun _ => ⟨rfl, rfl⟩)).mono ?_
          rintro e wc ⟨kc', cc, rfl, hpc, hbc, hBc⟩
          have HPc := Lib.hid hpc; have HBc := Lib.hid (HBb.out.trans hBc)
          clear hpc hbc hBc
          go_wp2_with (first
              | (go_at_call 26; refine (start_any _ _ _ _ _ _ _ _ _ _ HPc.out (by omega) (by omega)).mono ?_; rintro e wd ⟨rfl, hpd, hBd⟩; have HPd := Lib.hid hpd; have HBd := Lib.hid (HBc.out.trans hBd); clear hpd hBd)
              | (go_at_call 24; fail))
          go_loop [11] (fun i => ∃ j : Nat, j ≤ 10 ∧ i = .int .i64 j) (fun i => 10 - (intOf i).toNat)
          case atStart => exact ⟨0, Nat.zero_le _, rfl⟩
          case round =>
            obtain ⟨r, hr, rfl⟩ := hrel
            by_cases hr10 : r < 10
            · have d9 : decide ((r : Int) < 10) = true := decide_eq_true (by omega)
              go_wp2_with (go_at_call 24; refine (spend_free _ w.heap.size _ _ _ _ _ _ _ HPd.out (by omega)).mono ?_; rintro e w5 ⟨rfl, rfl⟩)
              go_round
              case rel => exact ⟨r + 1, by omega, by go_num⟩
              case measure => simp [intOf]; omega
            · have d9 : decide ((r : Int) < 10) = false := decide_eq_false (by omega)
              go_wp2_with (first
                | (go_at_call 30; refine (torn_any _ _ _ _ _ _ _ _ _ _ HPd.out).mono ?_; rintro e w5 ⟨rfl, rfl⟩)
                | (go_at_call 28; refine (wakes8 _).mono ?_; rintro e w6 ⟨rfl, hB6⟩))
              go_ret
              exact ⟨rfl, HBd.out.trans (hB6.mono HBd.out.size)⟩

set_option maxRecDepth 100000 in
set_option maxHeartbeats 4000000 in
theorem arms_some (a0 a1 a2 : Int) (a B S : Nat) (w : World) (hA : wrap64 ((IntKind.u64.wrap a0).tmod 20) = a) (hB : wrap64 ((IntKind.u64.wrap a1).tmod 20) = B) (h1 : 1 ≤ B) (h3 : B < 20) (hS : wrap64 ((IntKind.u64.wrap a2).tmod 10) = S) (h2 : a < 20) (h4 : S < 10) :
    Calls Try.prog 12 #[.int .i64 a0, .int .i64 a1, .int .i64 a2] w fun e w' => e = .returned (.bool true) ∧ Below w.heap.size w w' := by
  have d1 : ((B : Int) == 0) = false := beq_eq_false_iff_ne.2 (by omega)
  go_enter Try.func12, Try.ntmps12
  go_wp2_with (first
    | (go_at_call 22; refine (new_any _).mono ?_; rintro e w1 ⟨rfl, hp1, hB1⟩; have HP1 := Lib.hid hp1; have HB1 := Lib.hid hB1; clear hp1 hB1)
    | (go_at_call 23; fail))
  try rw [hA]
  try rw [hB]
  try rw [hS]
  clear hA hB hS
  refine (trip_some w1 w.heap.size false 0 _ 0 false _ 0 0 ((a : Int) + S + 1) none 0 0 [] 1 HP1.out (by omega) rfl (by omega) (.inl rfl) (fun b o s h => by cases h) (fun _ => ⟨rfl, rfl⟩)).mono ?_
  rintro e w2 ⟨ko, kc, rfl, hp2, hb2, hB2, hne⟩
  have HP2 := Lib.hid hp2; have HB2 := Lib.hid (HB1.out.trans hB2)
  clear hp2 hb2 hB2 hne
  go_wp2_with (first | (go_at_call 24; fail))
  go_loopw [8] (fun i wr => ∃ j : Nat, j ≤ S ∧ i = .int .i64 j ∧ Below w.heap.size w wr ∧ Pw wr w.heap.size false 0 (.slice none 0 0) 0 false (.slice ko 0 kc) 1 ((a : Int) + S + 1 - j)) (fun i _ => S - (intOf i).toNat)
  case atStart => exact ⟨0, by omega, rfl, HB2.out, by simpa using HP2.out⟩
  case round =>
    obtain ⟨j, hj, rfl, hBr, hp⟩ := hrel
    have HBr := Lib.hid hBr; have HP := Lib.hid hp
    clear hBr hp
    by_cases hlt : j < S
    · go_wp2_with (go_at_call 24; refine (spend_more _ w.heap.size 0 _ 0 false _ 1 ((a : Int) + S + 1 - j) HP.out (by omega) (by omega)).mono ?_; rintro e w3 ⟨rfl, hp3, hB3⟩; have HP3 := Lib.hid hp3; have HB3 := Lib.hid hB3; clear hp3 hB3)
      go_roundw
      case rel => exact ⟨j + 1, by omega, by go_num, HBr.out.trans HB3.out, by rw [show ((a : Int) + S + 1 - ((j + 1 : Nat) : Int)) = (a : Int) + S + 1 - j - 1 by omega]; exact HP3.out⟩
      case measure => simp [intOf]; omega
    · obtain ⟨wo, rfl⟩ : ∃ wo : World, wo = wr := ⟨_, rfl⟩
      go_wp2_with (first | (go_at_call 23; fail))
      refine (trip_some wo w.heap.size false 0 _ 0 false _ _ _ B none 0 0 [] 2 HP.out (by omega) rfl (by omega) (.inl rfl) (fun b o s h => by cases h) (fun _ => ⟨rfl, rfl⟩)).mono ?_
      rintro e w4 ⟨k4, c4, rfl, hp4, hb4, hB4, hne4⟩
      have HP4 := Lib.hid hp4; have HB4 := Lib.hid (HBr.out.trans hB4)
      clear hp4 hb4 hB4 hne4
      go_wp2_with (first | (go_at_call 24; fail))
      go_loopw [9, 10] (fun n i wr => ∃ j : Nat, j < B ∧ i = .int .i64 j ∧ n = .int .i64 j ∧ Below w.heap.size w wr ∧ Pw wr w.heap.size false 0 (.slice none 0 0) 0 false (.slice k4 0 c4) 2 ((B : Int) - j)) (fun _ i _ => B - (intOf i).toNat)
      case atStart => exact ⟨0, by omega, rfl, rfl, HB4.out, by simpa using HP4.out⟩
      case round =>
        obtain ⟨q, hq, rfl, rfl, hBq, hpq⟩ := hrel
        have HBq := Lib.hid hBq; have HPq := Lib.hid hpq
        clear hBq hpq HP4
        have d8 : decide ((q : Int) < 40) = true := decide_eq_true (by omega)
        by_cases hl : q + 1 < B
        · go_wp2_with (go_at_call 24; refine (spend_more _ w.heap.size 0 _ 0 false _ 2 ((B : Int) - q) HPq.out (by omega) (by omega)).mono ?_; rintro e w5 ⟨rfl, hp5, hB5⟩; have HP5 := Lib.hid hp5; have HB5 := Lib.hid hB5; clear hp5 hB5)
          go_roundw
          case rel => exact ⟨q + 1, by omega, by go_num, by go_num, HBq.out.trans HB5.out, by rw [show ((B : Int) - ((q + 1 : Nat) : Int)) = (B : Int) - q - 1 by omega]; exact HP5.out⟩
          case measure => simp [intOf]; omega
        · have HPl : Hid (Pw wr w.heap.size false 0 (.slice none 0 0) 0 false (.slice k4 0 c4) 2 1) := by have := HPq.out; rwa [show ((B : Int) - q) = 1 by omega] at this
          obtain ⟨wz, rfl⟩ : ∃ wz : World, wz = wr := ⟨_, rfl⟩
          clear HPq
          have d7 : ((q : Int) == (B : Int) - 1) = true := beq_iff_eq.2 (by omega)
          have d7' : ((q : Int) != (B : Int) - 1) = false := by rw [bne, d7]; rfl
          go_wp2_with (first
            | (go_at_call 24; refine (spend_last _ w.heap.size 0 _ 0 false k4 0 c4 2 HPl.out).mono ?_; rintro e w5 ⟨rfl, hp5, hB5, ho5⟩; have HP5 := Lib.hid hp5; have HBx := Lib.hid (HBq.out.trans hB5); clear hp5 hB5 ho5)
            | (go_at_call 25; fail))
          go_wp2_with (first
              | (go_at_call 25; refine (off_any _ _ _ _ _ _ _ _ _ _ HP5.out).mono ?_; rintro e w5 ⟨rfl, rfl⟩)
              | (go_at_call 30; refine (torn_any _ _ _ _ _ _ _ _ _ _ HP5.out).mono ?_; rintro e w5 ⟨rfl, rfl⟩)
              | (go_at_call 26; refine (start_any _ _ _ _ _ _ _ _ _ _ HP5.out (by omega) (by omega)).mono ?_; rintro e wa ⟨rfl, hpa, hBa⟩; have HPa := Lib.hid hpa; have HBa := Lib.hid (HBx.out.trans hBa); clear hpa hBa)
              | (go_at_call 23; fail))
          refine (trip_some wa w.heap.size false 1 _ _ _ _ _ _ 3 none 0 0 [] 5 HPa.out (by omega) rfl (by omega) (.inl rfl) (fun b o s h => by cases h) (fun _ => ⟨rfl, rfl⟩)).mono ?_
          rintro e wb ⟨kb, cb, rfl, hpb, hbb, hBb, hneb⟩
          have HPb := Lib.hid hpb; have HBb := Lib.hid (HBa.out.trans hBb)
          clear hpb hbb hBb hneb
          go_wp2_with (first | (go_at_call 31; fail))
          refine (cut_on wb w.heap.size 1 _ _ _ _ _ _ none 0 0 [] 7 HPb.out rfl (by omega) (.inl rfl) (fun _ => ⟨rfl, rfl⟩)).mono ?_
          rintro e wc ⟨kc', cc, rfl, hpc, hbc, hBc⟩
          have HPc := Lib.hid hpc; have HBc := Lib.hid (HBb.out.trans hBc)
          clear hpc hbc hBc
          go_wp2_with (first
              | (go_at_call 26; refine (start_any _ _ _ _ _ _ _ _ _ _ HPc.out (by omega) (by omega)).mono ?_; rintro e wd ⟨rfl, hpd, hBd⟩; have HPd := Lib.hid hpd; have HBd := Lib.hid (HBc.out.trans hBd); clear hpd hBd)
              | (go_at_call 24; fail))
          go_loop [11] (fun i => ∃ j : Nat, j ≤ 10 ∧ i = .int .i64 j) (fun i => 10 - (intOf i).toNat)
          case atStart => exact ⟨0, Nat.zero_le _, rfl⟩
          case round =>
            obtain ⟨r, hr, rfl⟩ := hrel
            by_cases hr10 : r < 10
            · have d9 : decide ((r : Int) < 10) = true := decide_eq_true (by omega)
              go_wp2_with (go_at_call 24; refine (spend_free _ w.heap.size _ _ _ _ _ _ _ HPd.out (by omega)).mono ?_; rintro e w5 ⟨rfl, rfl⟩)
              go_round
              case rel => exact ⟨r + 1, by omega, by go_num⟩
              case measure => simp [intOf]; omega
            · have d9 : decide ((r : Int) < 10) = false := decide_eq_false (by omega)
              go_wp2_with (first
                | (go_at_call 30; refine (torn_any _ _ _ _ _ _ _ _ _ _ HPd.out).mono ?_; rintro e w5 ⟨rfl, rfl⟩)
                | (go_at_call 28; refine (wakes8 _).mono ?_; rintro e w6 ⟨rfl, hB6⟩))
              go_ret
              exact ⟨rfl, HBd.out.trans (hB6.mono HBd.out.size)⟩

theorem arms_any (a0 a1 a2 : Int) (w : World) : Calls Try.prog 12 #[.int .i64 a0, .int .i64 a1, .int .i64 a2] w fun e w' => e = .returned (.bool true) ∧ Below w.heap.size w w' := by
  obtain ⟨a, hA1, hA⟩ := uwrap_mod a0 20 (by omega) (by omega)
  obtain ⟨B, hB1, hB⟩ := uwrap_mod a1 20 (by omega) (by omega)
  obtain ⟨S, hS1, hS⟩ := uwrap_mod a2 10 (by omega) (by omega)
  by_cases h : B = 0
  · subst h; exact arms_zero a0 a1 a2 a S w hA hB hS (by omega) (by omega)
  · exact arms_some a0 a1 a2 a B S w hA hB (by omega) (by omega) hS (by omega) (by omega)

end Go.Proofs.Ytcldfnnnjmhkjaa
