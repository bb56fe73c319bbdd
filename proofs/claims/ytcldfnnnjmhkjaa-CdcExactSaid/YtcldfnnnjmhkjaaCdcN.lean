/-
  The walk of CdcNext.
-/
import Derived.Test.YtcldfnnnjmhkjaaChunked
namespace Go.Proofs.Ytcldfnnnjmhkjaa
open Go.RowKit
set_option linter.unusedVariables false

/-- The rest is cut into the rest of the chunks: a step. -/
theorem rest_step {zs : List Int} {k at' : Nat} (h : cutL (zs.drop at') = (cutL zs).drop k) (hk : k < (cutL zs).length) :
    at' < zs.length ∧ (cutL zs).getD k [] = (zs.drop at').take (nx (zs.drop at')) ∧ cutL (zs.drop (at' + nx (zs.drop at'))) = (cutL zs).drop (k + 1) := by
  have hlt : at' < zs.length := by
    by_cases g : at' < zs.length
    · exact g
    · rw [List.drop_of_length_le (by omega : zs.length ≤ at'), cutL_nil] at h
      have := congrArg List.length h
      simp at this; omega
  have h2 := cutL_cons (zs.drop at') (by simp; omega)
  rw [h, List.drop_drop] at h2
  have h3 : (cutL zs).drop k = (cutL zs).getD k [] :: (cutL zs).drop (k + 1) := by
    rw [List.drop_eq_getElem_cons hk]; simp [List.getD, hk]
  rw [h3] at h2
  injection h2 with q1 q2
  exact ⟨hlt, q1, q2.symm⟩
theorem rest_end {zs : List Int} {at' : Nat} (h : cutL (zs.drop at') = (cutL zs).drop (cutL zs).length) (ha : at' ≤ zs.length) : at' = zs.length := by
  by_cases g : at' < zs.length
  · rw [cutL_cons (zs.drop at') (by simp; omega), List.drop_length] at h; cases h
  · omega

set_option maxHeartbeats 4000000 in
theorem cdcnext_walk (ao : Option Addr) (len cap : Nat) (zs : List Int) (w : World) (hl : zs.length = len) (hlc : len ≤ cap) (hcm : cap ≤ maxLen) (hm : len ≤ 1500) (hr : Rd w ao zs) (hz : Bts zs) :
    Calls Try.prog 8 #[.slice ao len cap] w fun e w' => e = .returned (.bool true) ∧ Below w.heap.size w w' := by
  have d1 : decide (1500 < (len : Int)) = false := decide_eq_false (by omega)
  have HC := Lib.hid (cut_end ao len cap zs w hl hlc hcm (by omega) hr hz)
  have HR := Lib.hid hr; have HZ := Lib.hid hz; have HL := Lib.hid hl
  unfold maxLen at hcm
  clear hr hz hl
  go_enter Try.func8, Try.ntmps8
  go_wp2_with (first
    | (go_at_call 14; refine HC.out.mono ?_; rintro e w1 ⟨lo, lc, rfl, hlcap, hlm, hch, hB1⟩; have HCH := Lib.hid hch; have HB1 := Lib.hid hB1; clear hch hB1)
    | (go_at_call 17; fail))
  obtain ⟨n, hnn⟩ : ∃ n, n = (cutL zs).length := ⟨_, rfl⟩
  rw [← hnn] at hlcap ⊢
  have HN := Lib.hid hnn
  clear hnn HC
  unfold maxLen at hlm
  have HR1 := Lib.hid (HR.out.below HB1.out)
  go_loop [5, 6] (fun a i => ∃ k at' : Nat, k ≤ n ∧ i = .int .i64 k ∧ a = .int .i64 at' ∧ at' ≤ len ∧ cutL (zs.drop at') = (cutL zs).drop k) (fun _ i => n - (intOf i).toNat)
  case atStart => exact ⟨0, 0, Nat.zero_le _, rfl, rfl, Nat.zero_le _, rfl⟩
  case round =>
    obtain ⟨k, at', hk, rfl, rfl, hat, hcut⟩ := hrel
    by_cases hlt : k < n
    · have hst := rest_step hcut (by rw [← HN.out]; exact hlt)
      obtain ⟨hs1, hs2, hs3⟩ := hst
      rw [HL.out] at hs1
      obtain ⟨g, rfl, hcs⟩ := HCH.out.at (by rw [← HN.out]; omega)
      obtain ⟨g', c', h1, h2, h3, h4⟩ := hcs k (by rw [← HN.out]; exact hlt)
      obtain ⟨b, o, rfl, _⟩ := HR1.out.at (by rw [HL.out]; omega)
      have hdl : (zs.drop at').length = len - at' := by simp; have := HL.out; omega
      have hnp := nx_pos (zs.drop at') (by omega)
      have hnl := nx_le (zs.drop at')
      rw [hdl] at hnl
      have hlen : ((cutL zs).getD k []).length = nx (zs.drop at') := by rw [hs2, List.length_take, hdl]; omega
      rw [hlen] at h1
      have HNX := Lib.hid (next_rd (some ⟨b, o + at', none⟩) (len - at') (cap - at') (zs.drop at') w1 hdl (by omega) (Rd.drop HR1.out at') (HZ.out.drop at'))
      obtain ⟨m, hmm⟩ : ∃ m, m = nx (zs.drop at') := ⟨_, rfl⟩
      rw [← hmm] at HNX h1 hnp hnl
      have HM := Lib.hid hmm; have HS3 := Lib.hid hs3
      have hca : ¬ cap = at' := by omega
      have d2 : decide ((m : Int) < 1) = false := decide_eq_false (by omega)
      clear hcut hs2 hs3 hcs h2 h3 h4 hdl hlen hmm
      go_wp2_with (go_at_call 17; refine HNX.out.mono ?_; rintro e w2 ⟨rfl, rfl⟩)
      go_round
      case rel => exact ⟨k + 1, at' + m, by omega, by go_num, by go_num, by omega, by rw [HM.out]; exact HS3.out⟩
      case measure => simp [intOf]; omega
    · obtain rfl : k = n := by omega
      rw [HN.out] at hcut
      obtain rfl : at' = len := by have := rest_end hcut (by rw [HL.out]; exact hat); rw [this, HL.out]
      clear hcut
      by_cases hca : cap = at'
      · obtain rfl : at' = cap := hca.symm
        go_wp2_with (first
          | (go_at_call 17; refine (next_empty _ _ _).mono ?_; rintro e w2 ⟨rfl, rfl⟩)
          | (go_at_call 21; refine (wakes4 _).mono ?_; rintro e w3 ⟨rfl, hB3⟩))
        all_goals go_ret
        all_goals exact ⟨rfl, HB1.out.trans (hB3.mono HB1.out.size)⟩
      · go_wp2_with (first
          | (go_at_call 17; refine (next_empty _ _ _).mono ?_; rintro e w2 ⟨rfl, rfl⟩)
          | (go_at_call 21; refine (wakes4 _).mono ?_; rintro e w3 ⟨rfl, hB3⟩))
        all_goals go_ret
        all_goals exact ⟨rfl, HB1.out.trans (hB3.mono HB1.out.size)⟩

theorem cdcnext_long (ao : Option Addr) (len cap : Nat) (w : World) (h : 1500 < len) :
    Calls Try.prog 8 #[.slice ao len cap] w fun e w' => e = .returned (.bool true) ∧ Below w.heap.size w w' := by
  have d1 : decide (1500 < (len : Int)) = true := decide_eq_true (by omega)
  go_enter Try.func8, Try.ntmps8
  go_wp2_with fail
  go_ret
  exact ⟨rfl, Below.refl _ _⟩

end Go.Proofs.Ytcldfnnnjmhkjaa
