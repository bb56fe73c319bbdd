/-
  The walk of CrcBytes.
-/
import Derived.Test.YtilpehbbjhignaaDoorBytes
import Derived.Lib.EndianBits
import Derived.Deep.RegionWith
namespace Go.Proofs.YtilpehbbjhignaaDoor
open Go.RowKit
set_option linter.unusedVariables false

theorem le4_parts (s : Int) (h0 : 0 ≤ s) (h1 : s < 4294967296) : ∃ c0 c1 c2 c3 m1 m2 : Int, s % 256 = c0 ∧ s / 256 % 256 = c1 ∧ s / 65536 % 256 = c2 ∧ s / 16777216 = c3 ∧
    0 ≤ c0 ∧ c0 ≤ 255 ∧ 0 ≤ c1 ∧ c1 ≤ 255 ∧ 0 ≤ c2 ∧ c2 ≤ 255 ∧ 0 ≤ c3 ∧ c3 ≤ 255 ∧
    Go.bits .or .u32 c0 (c1 * 256) = m1 ∧ Go.bits .or .u32 m1 (c2 * 65536) = m2 ∧ Go.bits .or .u32 m2 (c3 * 16777216) = s := by
  refine ⟨_, _, _, _, s % 65536, s % 16777216, rfl, rfl, rfl, rfl, by omega, by omega, by omega, by omega, by omega, by omega, by omega, by omega, ?_, ?_, ?_⟩
  · rw [u32_or8 _ _ (by omega) (by omega) (by omega) (by omega) (by omega)]; omega
  · rw [u32_or16 _ _ (by omega) (by omega) (by omega) (by omega) (by omega)]; omega
  · rw [u32_or24 _ _ (by omega) (by omega) (by omega) (by omega) (by omega)]; omega

theorem sum_nil0 : (sumOf []).toNat = 0 := by decide

theorem sum_zero0 (ao : Option Addr) (cap : Nat) (w : World) :
    Calls Tryd.prog 11 #[.slice ao 0 cap] w fun e w' => e = .returned (.int .u32 0) ∧ w = w' := by
  have h := sum_zero ao cap w
  rw [sum_nil0] at h
  exact h
theorem sum_two0 (w : World) (hT : Tab w) :
    Calls Tryd.prog 11 #[.slice (some ⟨w.heap.size, 0, none⟩) 2 2] (w.alloc (.cells #[.slice none 0 0, .slice none 0 0] 25)) fun e w' => e = .returned (.int .u32 0) ∧ Below w.heap.size w w' := by
  have hp : Part.ok w ⟨none, 0, 0, []⟩ := ⟨Rd.nil _ _, rfl, Bts.nil, Nat.zero_le _, fun _ => rfl⟩
  refine (sum_new w [⟨none, 0, 0, []⟩, ⟨none, 0, 0, []⟩] 2 _ _ rfl rfl rfl (by decide) hT (by
    intro p h
    simp only [List.mem_cons, List.mem_nil_iff, or_false, or_self] at h
    rw [h]; exact hp)).mono ?_
  rintro e w' ⟨rfl, rfl⟩
  exact ⟨rfl, (Below.refl _ _).alloc (Nat.le_refl _) _⟩

theorem cbytes_any (ao : Option Addr) (n cap : Nat) (ps : List Part) (w : World) (hl : ps.length = n) (hm : n ≤ maxLen) (hT : Tab w) (h : Ps w ao ps) :
    Calls Tryd.prog 7 #[.slice ao n cap] w fun e w' => e = .returned (.bool true) ∧ Below w.heap.size w w' := by
  have H8 := Lib.hid (heavy_any ao n cap ps w hl h)
  obtain ⟨s, hs⟩ : ∃ s : Int, s = ((sumOf (flat ps)).toNat : Int) := ⟨_, rfl⟩
  have hlt : 0 ≤ s ∧ s < 4294967296 := by rw [hs]; have := (sumOf (flat ps)).isLt; omega
  obtain ⟨hs0, hs1⟩ := hlt
  have H11 := Lib.hid (sum_any ao n cap ps w hl hm hT h)
  have H12 := Lib.hid (bytes_any ao n cap ps w s hs hl hm hT h)
  rw [← hs] at H11
  obtain ⟨c0, c1, c2, c3, m1, m2, f0, f1, f2, f3, b0, b1, b2, b3, b4, b5, b6, b7, e1, e2, e3⟩ := le4_parts s hs0 hs1
  rw [f0, f1, f2, f3] at H12
  have HT := Lib.hid hT
  clear hl hm hT h hs f0 f1 f2 f3
  go_enter Tryd.func7, Tryd.ntmps7
  go_wp2_with (go_at_call 8; refine H8.out.mono ?_; rintro e w1 ⟨b, rfl, rfl, hb⟩; have HBB := Lib.hid hb; clear hb)
  · go_ret
    exact ⟨rfl, Below.refl _ _⟩
  · go_wp2_with (first
      | (go_at_call_of 11 ao; refine H11.out.mono ?_; rintro e w1 ⟨rfl, rfl⟩)
      | (go_at_call 12; refine H12.out.mono ?_; rintro e w1 ⟨rfl, hB1⟩; have B1 := Lib.hid hB1; clear hB1))
    obtain ⟨W, hW⟩ : ∃ W, W = w1.alloc (Obj.cells #[Value.int IntKind.u8 c0, Value.int IntKind.u8 c1, Value.int IntKind.u8 c2, Value.int IntKind.u8 c3] 29) := ⟨_, rfl⟩
    rw [← hW]
    have BW : Hid (Below w.heap.size w W) := by rw [hW]; exact B1.out.alloc B1.out.size _
    have HZ := Lib.hid (sum_zero0 none 0 W)
    have HN := Lib.hid (sum_two0 W (HT.out.below BW.out))
    have HW := Lib.hid (fun w3 (h : Below W.heap.size W w3) => wakes_any w3 ((HT.out.below BW.out).below h))
    clear hW
    go_wp2_with (first
      | (go_at_call_of 11 (Value.slice none 0 0); refine HZ.out.mono ?_; rintro e w2 ⟨rfl, rfl⟩)
      | (go_at_call 11; refine HN.out.mono ?_; rintro e w2 ⟨rfl, hB2⟩; have B2 := Lib.hid hB2; clear hB2)
      | (go_at_call 17; refine (HW.out _ B2.out).mono ?_; rintro e w3 ⟨rfl, hB3⟩; have B3 := Lib.hid hB3; clear hB3))
    go_ret
    exact ⟨rfl, BW.out.trans ((B2.out.trans (B3.out.mono B2.out.size)).mono BW.out.size)⟩

end Go.Proofs.YtilpehbbjhignaaDoor
