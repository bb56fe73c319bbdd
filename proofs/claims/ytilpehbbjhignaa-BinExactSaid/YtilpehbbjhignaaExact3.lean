/-
  The contract of the page's Get.
-/
import Derived.Test.YtilpehbbjhignaaExact2
namespace Go.Proofs.Ytilpehbbjhignaa
open Go.RowKit
set_option linter.unusedVariables false

theorem rget_arg (ao : Option Addr) (len cap : Nat) (at' size : Int) (w : World) (hl : len ≤ maxLen) (h : size < 1 ∨ 7 < size ∨ at' < 0 ∨ (len : Int) < at') :
    Calls Try.prog 15 #[.slice ao len cap, .int .i64 at', .int .i64 size] w fun e w' => e = .returned (.tuple #[.int .i64 0, .int .i64 0, .int .i64 1]) ∧ w = w' := by
  unfold maxLen at hl
  go_enter Try.func15, Try.ntmps15
  go_wp2
  all_goals first | omega | (go_ret3; exact ⟨rfl, rfl⟩)

theorem rget_short (ao : Option Addr) (len cap : Nat) (at' size : Int) (w : World) (hl : len ≤ maxLen) (h1 : 1 ≤ size) (h2 : size ≤ 7) (h3 : 0 ≤ at') (h4 : at' ≤ len) (h5 : (len : Int) - at' < size) :
    Calls Try.prog 15 #[.slice ao len cap, .int .i64 at', .int .i64 size] w fun e w' => e = .returned (.tuple #[.int .i64 0, .int .i64 0, .int .i64 3]) ∧ w = w' := by
  unfold maxLen at hl
  go_enter Try.func15, Try.ntmps15
  go_wp2
  all_goals first | omega | (go_ret3; exact ⟨rfl, rfl⟩)

theorem rget_ok (b o len cap : Nat) (zs : List Int) (at' size : Nat) (w : World) (hl : zs.length = len) (hlc : len ≤ cap) (hm : cap ≤ maxLen) (hc : ∀ j, j < len → w.cell? ⟨b, o + j, none⟩ = some (.int .u8 (zs.getD j 0)))
    (hz : ∀ j, j < zs.length → 0 ≤ zs.getD j 0 ∧ zs.getD j 0 ≤ 255) (h1 : 1 ≤ size) (h2 : size ≤ 7) (h5 : at' + size ≤ len) :
    Calls Try.prog 15 #[.slice (some ⟨b, o, none⟩) len cap, .int .i64 at', .int .i64 size] w fun e w' => e = .returned (.tuple #[.int .i64 (num ((zs.drop at').take size)), .int .i64 (at' + size : Nat), .int .i64 0]) ∧ w = w' := by
  unfold maxLen at hm
  have hcap : ¬ cap = at' := by omega
  go_enter Try.func15, Try.ntmps15
  go_wp2
  obtain ⟨ys, hys⟩ : ∃ ys, ys = (zs.drop at').take size := ⟨_, rfl⟩
  have hyl : ys.length = size := by rw [hys]; simp; omega
  have hyg : ∀ k, k < size → ys.getD k 0 = zs.getD (at' + k) 0 := by intro k hk; rw [hys]; simp [List.getD, hk]
  have hyz : ∀ k, k < ys.length → 0 ≤ ys.getD k 0 ∧ ys.getD k 0 ≤ 255 := by intro k hk; rw [hyg k (by omega)]; exact hz _ (by omega)
  have hyc : ∀ k, k < size → w.cell? ⟨b, o + at' + k, none⟩ = some (.int .u8 (ys.getD k 0)) := by intro k hk; rw [hyg k hk, Nat.add_assoc]; exact hc _ (by omega)
  have HL := Lib.hid hyl; have HG := Lib.hid hyg; have HZ := Lib.hid hyz; have HC := Lib.hid hyc; have HY := Lib.hid hys; have HC0 := Lib.hid hc; have HZ0 := Lib.hid hz
  clear hyl hyg hyz hyc hys hc hz hl
  go_loop [9, 10] (fun n i => ∃ k : Nat, k ≤ size ∧ i = .int .i64 k ∧ n = .int .i64 (num (ys.take k))) (fun _ i => size - (intOf i).toNat)
  case atStart => exact ⟨0, Nat.zero_le _, rfl, rfl⟩
  case round =>
    obtain ⟨k, hk, rfl, rfl⟩ := hrel
    by_cases hlt : k < size
    · have hcell := HC.out k hlt
      rw [Nat.add_assoc] at hcell
      have hbd := HZ.out k (by rw [HL.out]; exact hlt)
      obtain ⟨c, hcc⟩ : ∃ c, c = ys.getD k 0 := ⟨_, rfl⟩
      rw [← hcc] at hcell hbd
      have hnl := num_take_lt ys HZ.out k (by rw [HL.out]; exact hk)
      have hp : 256 ^ k ≤ 256 ^ 6 := Nat.pow_le_pow_right (by decide) (by omega)
      have hnl2 : num (ys.take k) < 281474976710656 := by omega
      have HN := Lib.hid (num_take ys k (by rw [HL.out]; exact hlt))
      rw [← hcc] at HN
      have HCC := Lib.hid hcc
      clear hcc hnl hp
      obtain ⟨n, hn⟩ : ∃ n, n = num (ys.take k) := ⟨_, rfl⟩
      rw [← hn] at hnl2 HN ⊢
      have HNN := Lib.hid hn
      clear hn
      go_wp2
      go_round
      case rel => exact ⟨k + 1, by omega, by go_num, by rw [HN.out, or_shift n c hnl2 hbd.1 hbd.2]; go_num⟩
      case measure => simp [intOf]; omega
    · go_wp2
      go_ret3
      have : k = size := by omega
      subst this
      exact ⟨by rw [← HY.out, List.take_of_length_le (by rw [HL.out]; exact Nat.le_refl _)]; rfl, rfl⟩


theorem rget_r (ao : Option Addr) (len cap : Nat) (zs : List Int) (at' size : Int) (w : World) (hl : zs.length = len) (hlc : len ≤ cap) (hm : cap ≤ maxLen) (hr : Rd w ao zs) (hz : Bts zs) :
    Calls Try.prog 15 #[.slice ao len cap, .int .i64 at', .int .i64 size] w fun e w' => e = .returned (.tuple #[.int .i64 (getS zs at' size).1, .int .i64 (getS zs at' size).2.1, .int .i64 (getS zs at' size).2.2]) ∧ w = w' := by
  by_cases h1 : size < 1 ∨ 7 < size ∨ at' < 0 ∨ (len : Int) < at'
  · have e : getS zs at' size = (0, 0, 1) := by unfold getS; rw [if_pos (by omega)]
    rw [e]
    exact rget_arg ao len cap at' size w (by omega) h1
  · by_cases h2 : (len : Int) - at' < size
    · have e : getS zs at' size = (0, 0, 3) := by unfold getS; rw [if_neg (by omega), if_pos (by omega)]
      rw [e]
      exact rget_short ao len cap at' size w (by omega) (by omega) (by omega) (by omega) (by omega) h2
    · have e : getS zs at' size = (((num ((zs.drop at'.toNat).take size.toNat) : Nat) : Int), at' + size, 0) := by unfold getS; rw [if_neg (by omega), if_neg (by omega)]
      rw [e]
      obtain ⟨s, rfl⟩ := Int.eq_ofNat_of_zero_le (by omega : 0 ≤ size)
      obtain ⟨a, rfl⟩ := Int.eq_ofNat_of_zero_le (by omega : 0 ≤ at')
      obtain ⟨b, o, rfl, hc⟩ := hr.at (by omega)
      exact rget_ok b o len cap zs a s w hl hlc hm (fun j hj => hc j (by omega)) hz (by omega) (by omega) (by omega)

end Go.Proofs.Ytilpehbbjhignaa
