/-
  The walk of CdcWhole.
-/
import Derived.Test.YtcldfnnnjmhkjaaCdcN
namespace Go.Proofs.Ytcldfnnnjmhkjaa
open Go.RowKit
set_option linter.unusedVariables false

/-- The comparison only reads. -/
theorem bytes_quiet (b1 o1 c1 b2 o2 c2 len : Nat) (zs : List Int) (w : World) (hl : zs.length = len) (hm : len ≤ 9223372036854775807)
    (h1 : ∀ j, j < len → w.cell? ⟨b1, o1 + j, none⟩ = some (.int .u8 (zs.getD j 0))) (h2 : ∀ j, j < len → w.cell? ⟨b2, o2 + j, none⟩ = some (.int .u8 (zs.getD j 0))) :
    Calls Try.prog 20 #[.slice (some ⟨b1, o1, none⟩) len c1, .slice (some ⟨b2, o2, none⟩) len c2] w fun e w' => e = .returned (.bool true) ∧ ∃ m, w' = w.drewN m := by
  have H1 := Lib.hid h1; have H2 := Lib.hid h2; have HL := Lib.hid hl
  clear h1 h2 hl
  go_enter Try.func20, Try.ntmps20
  go_wp2
  go_loopw [5] (fun i wr => ∃ k m : Nat, k ≤ len ∧ i = .int .i64 k ∧ wr = w.drewN m) (fun i _ => len - (intOf i).toNat)
  case atStart => exact ⟨0, 0, Nat.zero_le _, rfl, rfl⟩
  case round =>
    obtain ⟨k, m, hk, rfl, hw⟩ := hrel
    by_cases hlt : k < len
    · obtain ⟨c, hcc⟩ : ∃ c, c = zs.getD k 0 := ⟨_, rfl⟩
      have g1 : wr.cell? ⟨b1, o1 + k, none⟩ = some (.int .u8 c) := by
        have := H1.out k hlt; rw [hw, hcc, ← this]; rfl
      have g2 : wr.cell? ⟨b2, o2 + k, none⟩ = some (.int .u8 c) := by
        have := H2.out k hlt; rw [hw, hcc, ← this]; rfl
      have HW := Lib.hid hw
      clear hcc hw
      go_wp2
      go_quiet (fail)
      go_wp2
      go_roundw
      case rel => exact ⟨k + 1, m + nq, by omega, by go_num, by rw [HW.out, World.drewN_drewN]⟩
      case measure => simp [intOf]; omega
    · go_wp2
      go_ret
      first | exact ⟨rfl, m, rfl⟩ | exact ⟨rfl, m, hw⟩

set_option maxRecDepth 100000 in
set_option maxHeartbeats 4000000 in
theorem whole_walk (ao : Option Addr) (len cap : Nat) (zs : List Int) (w : World) (hl : zs.length = len) (hlc : len ≤ cap) (hcm : cap ≤ maxLen) (hm : len ≤ 1500) (hr : Rd w ao zs) (hz : Bts zs) :
    Calls Try.prog 4 #[.slice ao len cap] w fun e w' => e = .returned (.bool true) ∧ Below w.heap.size w w' := by
  have d1 : decide (1500 < (len : Int)) = false := decide_eq_false (by omega)
  have HC := Lib.hid (cut_end ao len cap zs w hl hlc hcm (by omega) hr hz)
  obtain ⟨n, hnn⟩ : ∃ n, n = (cutL zs).length := ⟨_, rfl⟩
  have h00 : n = 0 ↔ len = 0 := by
    constructor
    · intro h
      by_cases g : 0 < len
      · rw [hnn, cutL_cons zs (by omega)] at h; simp at h
      · omega
    · intro h
      have : zs = [] := List.eq_nil_of_length_eq_zero (by omega)
      rw [hnn, this]; rfl
  have e0 : (n == 0) = (len == 0) := by
    rw [Bool.eq_iff_iff]; simp [h00]
  obtain ⟨z, hz0⟩ : ∃ z, z = (len == 0) := ⟨_, rfl⟩
  have e1 : (n == 0) = z := by rw [e0, hz0]
  have e2 : (len == 0) = z := hz0.symm
  have e3 : ((n : Int) == 0) = z := by rw [← e1, Bool.eq_iff_iff]; simp
  have e4 : ((len : Int) == 0) = z := by rw [← e2, Bool.eq_iff_iff]; simp
  have HR := Lib.hid hr; have HZ := Lib.hid hz; have HL := Lib.hid hl; have HN := Lib.hid hnn
  unfold maxLen at hcm
  clear hr hz hl hnn h00 e0 hz0
  go_enter Try.func4, Try.ntmps4
  go_wp2_with (first
    | (go_at_call 14; refine HC.out.mono ?_; rintro e w1 ⟨lo, lc, rfl, hlcap, hlm, hch, hB1⟩; rw [← HN.out] at hlcap ⊢; unfold maxLen at hlm; have HCH := Lib.hid hch; have HB1 := Lib.hid hB1; clear hch hB1)
    | (go_at_call 20; fail))
  clear HC e1 e2 e3 e4
  have HR1 := Lib.hid (HR.out.below HB1.out)
  go_loopw [5, 6] (fun a i wr => ∃ k at' q : Nat, k ≤ n ∧ i = .int .i64 k ∧ a = .int .i64 at' ∧ at' ≤ len ∧ cutL (zs.drop at') = (cutL zs).drop k ∧ wr = w1.drewN q) (fun _ i _ => n - (intOf i).toNat)
  case atStart => exact ⟨0, 0, 0, Nat.zero_le _, rfl, rfl, Nat.zero_le _, rfl, rfl⟩
  case round =>
    obtain ⟨k, at', q, hk, rfl, rfl, hat, hcut, hw⟩ := hrel
    have HW := Lib.hid hw
    have HBW : Hid (Below w.heap.size w wr) := by rw [hw]; exact below_drewN HB1.out q
    have hcell : ∀ a, w1.cell? a = wr.cell? a := fun a => by rw [hw]; rfl
    by_cases hlt : k < n
    · have hst := rest_step hcut (by rw [← HN.out]; exact hlt)
      obtain ⟨hs1, hs2, hs3⟩ := hst
      rw [HL.out] at hs1
      obtain ⟨g, rfl, hcs⟩ := HCH.out.at (by rw [← HN.out]; omega)
      obtain ⟨g', c', h1, h2, h3, h4⟩ := hcs k (by rw [← HN.out]; exact hlt)
      obtain ⟨b, o, rfl, hbc⟩ := HR1.out.at (by rw [HL.out]; omega)
      have hdl : (zs.drop at').length = len - at' := by simp; have := HL.out; omega
      have hnp := nx_pos (zs.drop at') (by omega)
      have hnl := nx_le (zs.drop at')
      have hn64 := nx_max (zs.drop at')
      have hn8 := nx_min (zs.drop at')
      rw [hdl] at hnl hn8
      have hlen : ((cutL zs).getD k []).length = nx (zs.drop at') := by rw [hs2, List.length_take, hdl]; omega
      obtain ⟨m, hmm⟩ : ∃ m, m = nx (zs.drop at') := ⟨_, rfl⟩
      obtain ⟨d, hd⟩ : ∃ d, d = (cutL zs).getD k [] := ⟨_, rfl⟩
      rw [← hd] at hlen hs2 h1 h2 h4
      rw [hlen, ← hmm, hcell] at h1
      rw [← hmm] at hnp hnl hn64 hn8 hlen hs2 hs3
      have hlast : m < 8 → k + 1 = n := by
        intro h
        have e : at' + m = len := by
          by_cases g : m < len - at'
          · have := hn8 g; omega
          · omega
        rw [e, List.drop_of_length_le (by rw [HL.out]; exact Nat.le_refl _), cutL_nil] at hs3
        have := congrArg List.length hs3
        simp at this
        have := HN.out
        omega
      obtain ⟨b2, o2, hb2, hd1⟩ := h4.at (by omega)
      cases hb2
      have k1 : ∀ j, j < m → wr.cell? ⟨g', 0 + j, none⟩ = some (.int .u8 (d.getD j 0)) := fun j hj => by rw [← hcell]; exact hd1 j (by omega)
      have k2 : ∀ j, j < m → wr.cell? ⟨b, o + at' + j, none⟩ = some (.int .u8 (d.getD j 0)) := fun j hj => by
        rw [← hcell, Nat.add_assoc, hbc _ (by have := HL.out; omega), hs2]
        simp [List.getD, hj]
      have HBQ : Hid (∀ V : World, (∀ a, V.cell? a = wr.cell? a) → Calls Try.prog 20 #[.slice (some ⟨g', 0, none⟩) m c', .slice (some ⟨b, o + at', none⟩) m (cap - at')] V fun e w' => e = .returned (.bool true) ∧ ∃ q, w' = V.drewN q) := fun V hV =>
        bytes_quiet g' 0 c' b (o + at') (cap - at') m d V hlen (by omega) (fun j hj => by rw [hV]; exact k1 j hj) (fun j hj => by rw [hV]; exact k2 j hj)
      have HM := Lib.hid hmm; have HS3 := Lib.hid hs3
      have hca : ¬ cap = at' := by omega
      have d2 : decide ((m : Int) < 1) = false := decide_eq_false (by omega)
      have d3 : decide ((64 : Int) < m) = false := decide_eq_false (by omega)
      have d5 : decide ((len : Int) - at' < m) = false := decide_eq_false (by omega)
      have hb1' : at' + m ≤ cap := by omega
      have hb2' : (at' : Int) + m ≤ cap := by omega
      by_cases h8 : m < 8
      · have hl := hlast h8
        have d4 : decide ((m : Int) < 8) = true := decide_eq_true (by omega)
        have d6 : decide ((k : Int) < (n : Int) - 1) = false := decide_eq_false (by omega)
        clear hcut hs2 hs3 hcs h2 h3 h4 hdl hlen hmm hd hd1 k1 k2 hbc hcell hw hlast h8 hl hn8
        go_wp2
        go_quiet ((go_at_call 20; exact Calls.quiet_of (HBQ.out _ (fun _ => rfl))))
        go_wp2
        go_roundw
        case rel => exact ⟨k + 1, at' + m, q + nq, by omega, by go_num, by go_num, by omega, HS3.out, by rw [HW.out, World.drewN_drewN]⟩
        case measure => simp [intOf]; omega
      · have d4 : decide ((m : Int) < 8) = false := decide_eq_false (by omega)
        clear hcut hs2 hs3 hcs h2 h3 h4 hdl hlen hmm hd hd1 k1 k2 hbc hcell hw hlast h8 hn8
        go_wp2
        go_quiet ((go_at_call 20; exact Calls.quiet_of (HBQ.out _ (fun _ => rfl))))
        go_wp2
        go_roundw
        case rel => exact ⟨k + 1, at' + m, q + nq, by omega, by go_num, by go_num, by omega, HS3.out, by rw [HW.out, World.drewN_drewN]⟩
        case measure => simp [intOf]; omega
    · obtain rfl : k = n := by omega
      rw [HN.out] at hcut
      obtain rfl : at' = len := by have := rest_end hcut (by rw [HL.out]; exact hat); rw [this, HL.out]
      clear hcut hcell hw
      go_wp2_with (first
        | (go_at_call 20; fail)
        | (go_at_call 21; refine (wakes4 _).mono ?_; rintro e w3 ⟨rfl, hB3⟩))
      go_ret
      exact ⟨rfl, HBW.out.trans (hB3.mono HBW.out.size)⟩

theorem whole_long (ao : Option Addr) (len cap : Nat) (w : World) (h : 1500 < len) :
    Calls Try.prog 4 #[.slice ao len cap] w fun e w' => e = .returned (.bool true) ∧ Below w.heap.size w w' := by
  have d1 : decide (1500 < (len : Int)) = true := decide_eq_true (by omega)
  go_enter Try.func4, Try.ntmps4
  go_wp2_with fail
  go_ret
  exact ⟨rfl, Below.refl _ _⟩

end Go.Proofs.Ytcldfnnnjmhkjaa
