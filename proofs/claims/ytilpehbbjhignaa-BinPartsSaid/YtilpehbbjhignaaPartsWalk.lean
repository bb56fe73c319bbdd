/-
  The walk of BinParts.
-/
import Derived.Test.YtilpehbbjhignaaParts
import Derived.Test.YtilpehbbjhignaaPlain2
import Derived.Test.YtilpehbbjhignaaWakes
import Derived.Test.YtilpehbbjhignaaKeep
import Derived.Test.YtilpehbbjhignaaCat
import Derived.WalkKit
import Derived.WalkSpells
import Derived.WalkSmall
import Derived.Outline
import Derived.Lib.Hide
namespace Go.Proofs.Ytilpehbbjhignaa
open Go.RowKit
set_option linter.unusedVariables false


set_option maxRecDepth 100000 in
set_option maxHeartbeats 4000000 in
theorem parts_some (pb po n ncap : Nat) (A : Nat → Option Addr) (L C : Nat → Nat) (Z : Nat → List Int) (a1 : Int) (w : World) (h0 : 0 < n) (hn : n ≤ 20)
    (hcell : ∀ r, r < n → w.cell? ⟨pb, po + r, none⟩ = some (.slice (A r) (L r) (C r))) (hP : Pts w n A L C Z) :
    Calls Try.prog 8 #[.slice (some ⟨pb, po, none⟩) n ncap, .int .i64 a1] w fun e w' => e = .returned (.bool true) ∧ Below w.heap.size w w' := by
  have HCELL := Lib.hid hcell; have HPT := Lib.hid hP
  have d1 : decide (20 < (n : Int)) = false := by simp; omega
  clear hcell hP
  go_enter Try.func8, Try.ntmps8
  go_wp2_with (first | (go_at_call 16; fail))
  go_loopw [5, 6] (fun v i wr => ∃ k : Nat, k ≤ n ∧ i = .int .i64 k ∧ Below w.heap.size w wr ∧ (∀ r, r < k → L r ≤ 2000) ∧ ∃ ao cap, v = .slice ao (tot L k) cap ∧ Rd wr ao (cat L Z k) ∧ tot L k ≤ cap ∧ cap ≤ 1000000 ∧ (0 < k → ∃ g, ao = some ⟨g, 0, none⟩)) (fun _ i _ => n - (intOf i).toNat)
  case atStart => exact ⟨0, Nat.zero_le _, rfl, Below.refl _ _, fun r hr => by omega, none, 0, rfl, Rd.nil _ _, Nat.le_refl _, by omega, fun h => by omega⟩
  case round =>
    obtain ⟨k, hk, rfl, hB, hL, ao, cap, rfl, hR, hc1, hc2, hg⟩ := hrel
    have htl := tot_le 2000 k hL
    have htb : tot L k ≤ 50000 := Nat.le_trans htl (by have := Nat.mul_le_mul_right (4 + 2000) (Nat.le_trans hk hn); omega)
    clear htl
    by_cases hlt : k < n
    · have hc0 := HCELL.out k hlt
      have hc : wr.cell? ⟨pb, po + k, none⟩ = some (.slice (A k) (L k) (C k)) := by rw [hB.cell (cell_lt hc0), hc0]
      have HB := Lib.hid hB; have HLL := Lib.hid hL; have HR := Lib.hid hR
      clear hc0 hB hL hR hg
      by_cases hl : L k ≤ 2000
      · have hz := HPT.out.len k hlt
        have d2 : decide (2000 < (L k : Int)) = false := by simp; omega
        have HQ := Lib.hid (putPart_ok ao (tot L k) cap (cat L Z k) (A k) (L k) (C k) (Z k) wr (cat_length k (fun r hr => HPT.out.len r (by omega))) (by omega) HR.out hz (by omega) ((HPT.out.rd k hlt).below HB.out) (HPT.out.nil k hlt))
        have HCP := Lib.hid (cell_lt hc)
        clear hz
        go_wp2_with (go_at_call 16; refine HQ.out.mono ?_; rintro e w1 ⟨g, hg, rfl, hb1, hB1⟩; have hc1' : w1.cell? ⟨pb, po + k, none⟩ = some (.slice (A k) (L k) (C k)) := (hB1.cell HCP.out).trans hc; have HB1 := Lib.hid hB1; have HBB1 := Lib.hid hb1; clear hb1 hB1)
        go_roundw
        case rel => exact ⟨k + 1, by omega, by go_num, HB.out.trans (HB1.out.mono HB.out.size), fun r hr => by by_cases e : r = k; (rw [e]; exact hl); exact HLL.out r (by omega), some ⟨g, 0, none⟩, tot L k + 4 + L k, rfl, Rd.block (t := 5) (by rw [cat, ← List.append_assoc]; exact HBB1.out), Nat.le_refl _, by omega, fun _ => ⟨g, rfl⟩⟩
        case measure => simp [intOf]; omega
      · have d2 : decide (2000 < (L k : Int)) = true := by simp; omega
        clear hl
        go_wp2_with (first | (go_at_call 16; fail))
        go_ret
        exact ⟨rfl, HB.out⟩
    · obtain rfl : k = n := by omega
      obtain ⟨wo, rfl⟩ : ∃ wo : World, wo = wr := ⟨_, rfl⟩
      obtain ⟨g, rfl⟩ := hg h0
      have hzl := cat_length (L := L) (Z := Z) k HPT.out.len
      have hzb := cat_bts (L := L) (Z := Z) k HPT.out.bts
      obtain ⟨K, hK1, hK⟩ := uwrap_mod a1 ((tot L k : Int) + 1) (by omega) (by omega)
      have hK2 : K ≤ tot L k := by omega
      have htm := fun r (hr : r ≤ k) => tot_mono (L := L) (r := r) k hr
      have HB := Lib.hid hB; have HLL := Lib.hid hL; have HR := Lib.hid hR; have HZL := Lib.hid hzl; have HZB := Lib.hid hzb; have HTM := Lib.hid htm
      have HT : Hid (∃ T, T = tot L k) := ⟨_, rfl⟩
      have HK3 : Hid (K ≤ tot L k) := hK2
      clear hB hL hR hg hzl hzb htm hlt hK1
      go_wp2_with (first | (go_at_call 18; fail))
      rw [hK]
      clear hK
      go_loopw [10, 11] (fun a i w2 => ∃ r : Nat, r ≤ k ∧ i = .int .i64 r ∧ a = .int .i64 (tot L r) ∧ tot L r ≤ K ∧ Below wo.heap.size wo w2) (fun _ i _ => k - (intOf i).toNat)
      case atStart => exact ⟨0, Nat.zero_le _, rfl, rfl, Nat.zero_le _, Below.refl _ _⟩
      case round =>
        obtain ⟨r, hr, rfl, rfl, hat, hB2⟩ := hrel
        have hlen : ((cat L Z k).take K).length = K := by simp; have := HZL.out; omega
        have hrd : Rd wr (some ⟨g, 0, none⟩) ((cat L Z k).take K) := (HR.out.below hB2).take K
        have hbt : Bts ((cat L Z k).take K) := HZB.out.take K
        by_cases hlt : r < k
        · have hc0 := HCELL.out r hlt
          have hc1' : wo.cell? ⟨pb, po + r, none⟩ = some (.slice (A r) (L r) (C r)) := by rw [HB.out.cell (cell_lt hc0), hc0]
          have hc : wr.cell? ⟨pb, po + r, none⟩ = some (.slice (A r) (L r) (C r)) := by rw [hB2.cell (cell_lt hc1'), hc1']
          have HCP := Lib.hid (cell_lt hc)
          have hl2 : L r ≤ 2000 := HLL.out r hlt
          have hz := HPT.out.len r hlt
          have hra := (((HPT.out.rd r hlt).below HB.out).below hB2)
          have HB2 := Lib.hid hB2
          clear hc0 hc1' hB2
          by_cases hfit : tot L r + 4 + L r ≤ K
          · have HQ := Lib.hid (getPart_ok (some ⟨g, 0, none⟩) K cap ((cat L Z k).take K) (tot L r) wr hlen (by omega) (by unfold maxLen; omega) hrd hbt (by omega) (L r) (cut_num hlt HPT.out.len (by omega) (by omega)) (by omega) hfit)
            rw [cut_part hlt HPT.out.len hfit] at HQ
            have HZ := Lib.hid hz; have HRA := Lib.hid hra
            have d2 : decide (K < tot L r + 4 + L r) = false := by simp; omega
            have d3 : decide ((K : Int) < (tot L r : Int) + 4 + (L r : Int)) = false := by simp; omega
            clear hlen hrd hbt hz hra
            go_wp2_with (first
              | (go_at_call 18; refine HQ.out.mono ?_; rintro e w3 ⟨rfl, hb3, hB3⟩; have hc3 : w3.cell? ⟨pb, po + r, none⟩ = some (.slice (A r) (L r) (C r)) := (hB3.cell HCP.out).trans hc; have HBB3 := Lib.hid hb3; have HB3 := Lib.hid hB3; clear hb3 hB3)
              | (go_at_call 12; refine (bytes_rd _ _ _ _ (L r) (Z r) w3 HZ.out (by omega) (Rd.block HBB3.out) (HRA.out.below HB3.out)).mono ?_; rintro e w4 ⟨rfl, hB4⟩; have hc4 : w4.cell? ⟨pb, po + r, none⟩ = some (.slice (A r) (L r) (C r)) := (hB4.cell (cell_lt hc3)).trans hc3; have HB4 := Lib.hid hB4; clear hB4))
            go_roundw
            case rel => exact ⟨r + 1, by omega, by go_num, by simp only [tot]; go_num, by rw [tot]; omega, (HB2.out.trans (HB3.out.mono HB2.out.size)).trans (HB4.out.mono (HB2.out.trans (HB3.out.mono HB2.out.size)).size)⟩
            case measure => simp [intOf]; omega
          · have d2 : decide (K < tot L r + 4 + L r) = true := by simp; omega
            have d3 : decide ((K : Int) < (tot L r : Int) + 4 + (L r : Int)) = true := by simp; omega
            have HQ : Hid (Calls Try.prog 18 #[.slice (some ⟨g, 0, none⟩) K cap, .int .i64 (tot L r)] wr fun e w' => e = .returned (.tuple #[.slice none 0 0, .int .i64 0, .int .i64 3]) ∧ wr = w') := by
              by_cases h4 : tot L r + 4 ≤ K
              · exact getPart_less (some ⟨g, 0, none⟩) K cap ((cat L Z k).take K) (tot L r) wr hlen (by omega) (by unfold maxLen; omega) hrd hbt h4 (L r) (cut_num hlt HPT.out.len (by omega) h4) (.inr (by omega))
              · exact getPart_short (some ⟨g, 0, none⟩) K cap (tot L r) wr (by unfold maxLen; omega) (by omega) (by omega) (by omega)
            clear hlen hrd hbt hz hra hfit
            go_wp2_with (first
              | (go_at_call 18; refine HQ.out.mono ?_; rintro e w3 ⟨rfl, rfl⟩)
              | (go_at_call 20; refine (wakes_any _).mono ?_; rintro e w4 ⟨rfl, hB4⟩))
            go_ret
            have b3 := HB.out.trans (HB2.out.mono HB.out.size)
            exact ⟨rfl, b3.trans (hB4.mono b3.size)⟩
        · obtain rfl : r = k := by omega
          have HB2 := Lib.hid hB2
          have HQ := Lib.hid (getPart_short (some ⟨g, 0, none⟩) (tot L r) cap (tot L r) wr (by unfold maxLen; omega) (by omega) (by omega) (by omega))
          clear hlen hrd hbt hB2
          go_wp2_with (first
            | (go_at_call 18; refine HQ.out.mono ?_; rintro e w3 ⟨rfl, rfl⟩)
            | (go_at_call 20; refine (wakes_any _).mono ?_; rintro e w4 ⟨rfl, hB4⟩))
          go_ret
          have b3 := HB.out.trans (HB2.out.mono HB.out.size)
          exact ⟨rfl, b3.trans (hB4.mono b3.size)⟩

theorem parts_more (ao : Option Addr) (n ncap : Nat) (a1 : Int) (w : World) (h : 20 < n) :
    Calls Try.prog 8 #[.slice ao n ncap, .int .i64 a1] w fun e w' => e = .returned (.bool true) ∧ Below w.heap.size w w' := by
  have d1 : decide (20 < (n : Int)) = true := by simp; omega
  go_enter Try.func8, Try.ntmps8
  go_wp2_with fail
  go_ret
  exact ⟨rfl, Below.refl _ _⟩

set_option maxRecDepth 100000 in
set_option maxHeartbeats 1000000 in
theorem parts_none (ao : Option Addr) (ncap : Nat) (a1 : Int) (w : World) :
    Calls Try.prog 8 #[.slice ao 0 ncap, .int .i64 a1] w fun e w' => e = .returned (.bool true) ∧ Below w.heap.size w w' := by
  obtain ⟨K, hK1, hK⟩ := uwrap_mod a1 1 (by omega) (by omega)
  obtain rfl : K = 0 := by omega
  have hK' : wrap64 ((IntKind.u64.wrap a1).tmod 1) = 0 := hK
  have HQ := Lib.hid (getPart_short none 0 0 0 w (by unfold maxLen; omega) (by omega) (by omega) (by omega))
  clear hK hK1
  go_enter Try.func8, Try.ntmps8
  go_wp2_with fail
  refine wp_loop_rounds 1 ?_
  rw [rounds_succ]
  go_wp2_with fail
  refine wp_loop_rounds 1 ?_
  rw [rounds_succ]
  go_wp2_with (first
    | (go_at_call 18; refine HQ.out.mono ?_; rintro e w3 ⟨rfl, rfl⟩)
    | (go_at_call 20; refine (wakes_any _).mono ?_; rintro e w4 ⟨rfl, hB4⟩))
  go_ret
  exact ⟨rfl, hB4⟩

end Go.Proofs.Ytilpehbbjhignaa
