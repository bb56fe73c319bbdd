/-
  The walk of CdcSame.
-/
import Derived.Test.YtcldfnnnjmhkjaaSameZ
import Derived.Test.YtcldfnnnjmhkjaaCdcN
import Derived.Deep.RegionWith
import Derived.StillTailTactics
namespace Go.Proofs.Ytcldfnnnjmhkjaa
open Go.RowKit
set_option linter.unusedVariables false

theorem uwrap_at (a M : Int) (h : 0 < M) (hM : M ≤ 1000000000) : ∃ k : Nat, (k : Int) < M ∧ wrap64 ((IntKind.u64.wrap a).tmod M) = k := by
  have h0 : 0 ≤ IntKind.u64.wrap a := by rw [IntKind.wrap_u64]; omega
  refine ⟨((IntKind.u64.wrap a) % M).toNat, ?_, ?_⟩
  · have := Int.emod_lt_of_pos (IntKind.u64.wrap a) h; have := Int.emod_nonneg (IntKind.u64.wrap a) (by omega : M ≠ 0); omega
  · rw [Int.tmod_eq_emod_of_nonneg h0]
    have h1 := Int.emod_lt_of_pos (IntKind.u64.wrap a) h; have h2 := Int.emod_nonneg (IntKind.u64.wrap a) (by omega : M ≠ 0)
    generalize IntKind.u64.wrap a % M = r at *
    rw [IntWalk.wrap64_in _ ⟨by omega, by omega⟩]; omega

theorem rest_at (zs : List Int) : ∀ k, k ≤ (cutL zs).length → ∃ at', at' ≤ zs.length ∧ cutL (zs.drop at') = (cutL zs).drop k
  | 0, _ => ⟨0, Nat.zero_le _, rfl⟩
  | k + 1, h => by
    obtain ⟨a, h1, h2⟩ := rest_at zs k (by omega)
    obtain ⟨q1, q2, q3⟩ := rest_step h2 (by omega)
    have := nx_le (zs.drop a)
    simp at this
    exact ⟨a + nx (zs.drop a), by omega, q3⟩
/-- Of one byte, again and again: no chunk is longer than the first; all but the last one are as long. -/
theorem same_lens (N : Nat) (x : Int) (k : Nat) (hk : k < (cutL (List.replicate N x)).length) :
    ((cutL (List.replicate N x)).getD k []).length ≤ nx (List.replicate N x) ∧ (k + 1 < (cutL (List.replicate N x)).length → ((cutL (List.replicate N x)).getD k []).length = nx (List.replicate N x)) := by
  obtain ⟨a, h1, h2⟩ := rest_at (List.replicate N x) k (by omega)
  obtain ⟨q1, q2, q3⟩ := rest_step h2 hk
  rw [List.length_replicate] at h1 q1
  have e : (List.replicate N x).drop a = List.replicate (N - a) x := by simp
  rw [e] at q2 q3 h2
  have hle := nx_le (List.replicate (N - a) x)
  rw [List.length_replicate] at hle
  have hlen : ((cutL (List.replicate N x)).getD k []).length = nx (List.replicate (N - a) x) := by rw [q2]; simp; omega
  rw [hlen]
  have key : nx (List.replicate (N - a) x) < N - a → nx (List.replicate (N - a) x) = nx (List.replicate N x) := by
    intro h
    refine (nx_same (l := List.replicate (N - a) x) (m := List.replicate N x) (by simpa using h) ?_ (by simp; omega)).symm
    rw [List.take_replicate, List.take_replicate]; congr 1; omega
  constructor
  · by_cases h : nx (List.replicate (N - a) x) < N - a
    · rw [key h]; exact Nat.le_refl _
    · by_cases g : nx (List.replicate N x) < N - a
      · have := nx_same (l := List.replicate N x) (m := List.replicate (N - a) x) (by simp; omega) (by rw [List.take_replicate, List.take_replicate]; congr 1; omega) (by simp; omega)
        omega
      · omega
  · intro hl
    refine key ?_
    by_cases h : nx (List.replicate (N - a) x) < N - a
    · exact h
    · have e2 : a + nx (List.replicate (N - a) x) = N := by omega
      rw [e2] at q3
      have : (List.replicate N x).drop N = [] := by simp
      rw [this, cutL_nil] at q3
      have := congrArg List.length q3
      simp at this; omega
theorem same_first (N : Nat) (x : Int) (h : 0 < N) : ((cutL (List.replicate N x)).getD 0 []).length = nx (List.replicate N x) := by
  rw [cutL_cons _ (by simpa using h)]
  have := nx_le (List.replicate N x)
  simp [List.getD] at this ⊢
  omega

set_option maxRecDepth 100000 in
set_option maxHeartbeats 4000000 in
theorem same_walk (a1 : Int) (x : Int) (N : Nat) (w : World) (hN : wrap64 ((IntKind.u64.wrap a1).tmod 1500) = N) (hN1 : N < 1500) (hN0 : 0 < N) (hx0 : 0 ≤ x) (hx1 : x ≤ 255) :
    Calls Try.prog 9 #[.int .u8 x, .int .i64 a1] w fun e w' => e = .returned (.bool true) ∧ Below w.heap.size w w' := by
  obtain ⟨i0, hi, hz0, hz1, hz2⟩ := info_parts Try.info5
  go_enter Try.func9, Try.ntmps9
  go_wp2_with (at_make; refine wpList_make_full _ rfl (.tmp 14) (.tmp 14) 22 rfl w.heap.size 5 i0 (.int .u8 0) 1 Try.underlying22 hi hz0 hz1 .i64 .i64 _ _ N rfl rfl (by first | rfl | exact hN | omega) (by first | rfl | exact hN | omega) (by rw [hz2]; omega) (by unfold maxLen; omega) (Nat.le_refl _) ?_; intro w1 hown1 hgrow1; have HF1 := Lib.hid (filled_start (x := x) hown1); have HB1 := Lib.hid (Below.grown (Below.refl _ _) hgrow1 (Nat.le_refl _) (fun k h => by cases h)); clear hown1 hgrow1)
  try rw [hN]
  clear hN
  go_loopw [6] (fun i wr => ∃ k : Nat, k ≤ N ∧ i = .int .i64 k ∧ Filled wr w.heap.size N k x ∧ Below w.heap.size w wr) (fun i _ => N - (intOf i).toNat)
  case atStart => exact ⟨0, Nat.zero_le _, rfl, HF1.out, HB1.out⟩
  case round =>
    obtain ⟨k, hk, rfl, hf, hB⟩ := hrel
    by_cases hlt : k < N
    · have hc := filled_cell hf hlt
      have hfr := filled_free (j := k) hf
      have HF := Lib.hid hf; have HB := Lib.hid hB
      clear hf hB
      go_wp2
      go_roundw
      case rel => exact ⟨k + 1, by omega, by go_num, filled_step HF.out hlt, HB.out.setCell (Nat.le_refl _) _⟩
      case measure => simp [intOf]; omega
    · obtain rfl : k = N := by omega
      have HB := Lib.hid hB
      have HR := Lib.hid (filled_end hf)
      obtain ⟨wo, rfl⟩ : ∃ wo : World, wo = wr := ⟨_, rfl⟩
      clear hf hB HF1 HB1
      have HC := Lib.hid (cut_end (some ⟨w.heap.size, 0, none⟩) k k (List.replicate k x) wo (by simp) (Nat.le_refl _) (by unfold maxLen; omega) (by omega) HR.out (bts_replicate _ _ hx0 hx1))
      have HSL := Lib.hid (same_lens k x); have HSF := Lib.hid (same_first k x)
      have hzero : (cutL (List.replicate k x)).length = 0 ↔ k = 0 := by
        constructor
        · intro h
          by_cases g : 0 < k
          · rw [cutL_cons _ (by simpa using g)] at h; simp at h
          · omega
        · intro h; subst h; rfl
      obtain ⟨L, hL⟩ : ∃ L, L = cutL (List.replicate k x) := ⟨_, rfl⟩
      obtain ⟨p, hp⟩ : ∃ p, p = nx (List.replicate k x) := ⟨_, rfl⟩
      rw [← hL] at HC hzero HSL HSF
      rw [← hp] at HSL HSF
      have HPN : Hid (p = nx (List.replicate k x)) := hp
      obtain ⟨n, hn⟩ : ∃ n, n = L.length := ⟨_, rfl⟩
      rw [← hn] at hzero
      have HN := Lib.hid hn
      have hpk : p ≤ k := by rw [hp]; have := nx_le (List.replicate k x); simpa using this
      have h0 : ¬ k = 0 := by omega
      · have e1 : (n == 0) = false := beq_eq_false_iff_ne.2 (by omega)
        have e2 : (k == 0) = false := beq_eq_false_iff_ne.2 h0
        have e3 : ((n : Int) == 0) = false := beq_eq_false_iff_ne.2 (by omega)
        have e4 : ((k : Int) == 0) = false := beq_eq_false_iff_ne.2 (by omega)
        have hn1 : 1 ≤ n := by omega
        have hk1 : 1 ≤ k := by omega
        clear hzero hL hp hn h0
        go_wp2_with (first
          | (go_at_call 14; refine HC.out.mono ?_; rintro e w2 ⟨lo, lc, rfl, hlcap, hlm, hch, hB2⟩; rw [← HN.out] at hlcap ⊢; have HCH := Lib.hid hch; have HB2 := Lib.hid (HB.out.trans (hB2.mono HB.out.size)); have HRT := Lib.hid (HR.out.below hB2); clear hch hB2)
          | (go_at_call 17; fail))
        unfold maxLen at hlm
        clear HC
        obtain ⟨g, rfl, hcs⟩ := HCH.out.at (by rw [← HN.out]; omega)
        obtain ⟨g0, c0, f1, f2, f3, f4⟩ := hcs 0 (by rw [← HN.out]; omega)
        rw [HSF.out (by omega)] at f1
        have HCS := Lib.hid hcs; have HF1 := Lib.hid f1
        clear hcs f2 f3 f4 f1
        go_loopw [9] (fun i wr => ∃ j q : Nat, 1 ≤ j ∧ j ≤ n ∧ i = .int .i64 j ∧ wr = w2.drewN q) (fun i _ => n - (intOf i).toNat)
        case atStart => exact ⟨1, 0, Nat.le_refl _, hn1, rfl, rfl⟩
        case round =>
          obtain ⟨j, q, hj1, hj2, rfl, hw⟩ := hrel
          have HW := Lib.hid hw
          have hcell : ∀ a, w2.cell? a = wr.cell? a := fun a => by rw [hw]; rfl
          have hf1 := HF1.out
          rw [hcell] at hf1
          have HBW : Hid (Below w.heap.size w wr) := by rw [hw]; exact below_drewN HB2.out q
          by_cases hjn : j < n
          · obtain ⟨gj, cj, h1, h2, h3, h4⟩ := HCS.out j (by rw [← HN.out]; exact hjn)
            obtain ⟨s1, s2⟩ := HSL.out j (by rw [← HN.out]; exact hjn)
            rw [← HN.out] at s2
            obtain ⟨m, hmm⟩ : ∃ m, m = (L.getD j []).length := ⟨_, rfl⟩
            rw [← hmm] at h1 s1 s2
            rw [hcell] at h1
            have d1 : decide (p < m) = false := decide_eq_false (by omega)
            have d1' : decide ((p : Int) < m) = false := decide_eq_false (by omega)
            clear h2 h3 h4 hmm hcell hw
            by_cases hl : j + 1 < n
            · obtain rfl : m = p := s2 hl
              have d2 : decide ((j : Int) < (n : Int) - 1) = true := decide_eq_true (by omega)
              clear s1 s2
              go_wp2
              go_quiet (fail)
              go_wp2
              go_roundw
              case rel => exact ⟨j + 1, q + nq, by omega, by omega, by go_num, by rw [HW.out, World.drewN_drewN]⟩
              case measure => simp [intOf]; omega
            · have d2 : decide ((j : Int) < (n : Int) - 1) = false := decide_eq_false (by omega)
              clear s1 s2
              go_wp2
              go_quiet (fail)
              go_wp2
              go_roundw
              case rel => exact ⟨j + 1, q + nq, by omega, by omega, by go_num, by rw [HW.out, World.drewN_drewN]⟩
              case measure => simp [intOf]; omega
          · obtain rfl : j = n := by omega
            have HNX : Hid (∀ V : World, (∀ a, V.cell? a = wr.cell? a) → Calls Try.prog 17 #[.slice (some ⟨w.heap.size, 0, none⟩) k k] V fun e w' => e = .returned (.int .i64 p) ∧ w' = V) := fun V hV => by
              rw [HPN.out]
              refine Calls.mono ?_ (fun e w' (h : e = .returned (.int .i64 (nx (List.replicate k x))) ∧ V = w') => ⟨h.1, h.2.symm⟩)
              exact next_rd _ k k (List.replicate k x) V (by simp) (by omega) (by
                obtain ⟨b, o, ha, hc⟩ := HRT.out.at (by simp; omega)
                cases ha
                exact .inr ⟨w.heap.size, 0, rfl, fun j hj => by rw [hV, ← hcell]; exact hc j hj⟩) (bts_replicate _ _ hx0 hx1)
            clear hcell hw
            have hj0 : 0 < j := by omega
            go_wp2
            go_still_tail 13, (by kernel_rfl)
            still_call (HNX.out _ (by intro _; rfl))
            repeat still_step
            refine wpStill_nil ?_
            change wpList _ _ _ _ _ wr.drew
            have HBV : Hid (Below w.heap.size w wr.drew) := HBW.out.drew
            generalize wr.drew = V at HBV ⊢
            clear HNX HW
            go_wp2_with (go_at_call 21; refine (wakes4 _).mono ?_; rintro e w4 ⟨rfl, hB4⟩)
            go_ret
            exact ⟨rfl, HBV.out.trans (hB4.mono HBV.out.size)⟩

theorem same_any (a0 a1 : Int) (w : World) (hx0 : 0 ≤ a0) (hx1 : a0 ≤ 255) : Calls Try.prog 9 #[.int .u8 a0, .int .i64 a1] w fun e w' => e = .returned (.bool true) ∧ Below w.heap.size w w' := by
  obtain ⟨N, hN1, hN⟩ := uwrap_at a1 1500 (by omega) (by omega)
  by_cases h0 : N = 0
  · subst h0
    exact same_zero a1 a0 w hN
  · exact same_walk a1 a0 N w hN (by omega) (by omega) hx0 hx1

end Go.Proofs.Ytcldfnnnjmhkjaa
