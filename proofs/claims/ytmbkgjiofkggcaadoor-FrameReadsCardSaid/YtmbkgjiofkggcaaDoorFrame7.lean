/-
  Frames: what is tried at each statement's end; FrameLong.
-/
import Derived.Test.YtmbkgjiofkggcaaDoorFrame6
namespace Go.Proofs.YtmbkgjiofkggcaaDoor
open Go.RowKit
set_option linter.unusedVariables false

theorem nok_17 : nok 1 7 := by unfold nok; omega
theorem nok_20 : nok 2 0 := by unfold nok; omega

theorem wakes06 (w : World) (hT : Tab w) : Calls Tryd.prog 24 #[] w fun e w' => e = .returned (.bool true) ∧ Below w.heap.size w w' := by
  have hb := fbytes_any ⟨1, 7, ⟨none, 0, 0, []⟩⟩ w hT ⟨Rd.nil _ _, rfl, Bts.nil, Nat.zero_le _, fun _ => rfl⟩
  have hc : chk 1 7 0 = 0 := chk_of nok_17 (by omega)
  have hb2 : Calls Tryd.prog 17 #[.agg #[.int .i64 1, .int .i64 7, .slice none 0 0]] w (RB w 13 (fr 1 7 [])) := hb.mono fun r w' h => by
    rcases h with h | h
    · exact h.2
    · exact absurd hc h.1
  have HB := Lib.hid hb2
  have HT := Lib.hid hT
  clear hT hb hb2 hc
  go_enter Tryd.func24, Tryd.ntmps24
  go_wp2_with (go_at_call 17; fail)
  refine HB.out.mono ?_
  rintro r w1 ⟨ko, kc, rfl, how, hB1⟩
  have hrd := fread_fr ko 13 kc 1 7 [] w1 (HT.out.below hB1) nok_17 (by simp) Bts.nil how.1 how.2.1 how.2.2.1 how.rd
  have HR := Lib.hid (show Calls Tryd.prog 26 #[.slice ko 13 kc, .int .i64 0] w1 (RF w1 1 7 0 [] 13) from hrd)
  have HB1 := Lib.hid hB1
  clear how hB1 hrd
  go_wp2_with (go_at_call 26; fail)
  refine HR.out.mono ?_
  rintro r w2 ⟨k2, c2, rfl, ho2, hB2⟩
  have HB2 := Lib.hid (HB1.out.trans (hB2.mono HB1.out.size))
  clear ho2 hB2
  go_wp2
  go_ret
  exact ⟨rfl, HB2.out.alloc HB2.out.size _⟩

theorem long_out (a0 : Int) (w : World) (h : a0 < 0 ∨ 1 < a0) : Calls Tryd.prog 6 #[.int .i64 a0] w fun e w' => e = .returned (.bool true) ∧ Below w.heap.size w w' := by
  by_cases h1 : a0 < 0
  · have d1 : decide (a0 < 0) = true := decide_eq_true h1
    go_enter Tryd.func6, Tryd.ntmps6
    go_wp2
    go_ret
    exact ⟨rfl, Below.refl _ _⟩
  · have d1 : decide (a0 < 0) = false := decide_eq_false h1
    have d2 : decide (1 < a0) = true := decide_eq_true (by omega)
    go_enter Tryd.func6, Tryd.ntmps6
    go_wp2
    go_ret
    exact ⟨rfl, Below.refl _ _⟩

theorem zeros_ints (n : Nat) : zeros n = (List.replicate n (0 : Int)).map (Value.int .u8) := by simp [zeros]
theorem bts_zeros (n : Nat) : Bts (List.replicate n (0 : Int)) := fun j hj => by
  simp at hj
  simp [List.getD, hj]

set_option maxHeartbeats 2000000 in
theorem long_in (m : Nat) (w : World) (hT : Tab w) (hm : m ≤ 1) : Calls Tryd.prog 6 #[.int .i64 m] w fun e w' => e = .returned (.bool true) ∧ Below w.heap.size w w' := by
  obtain ⟨i0, hi, hz0, hz1, hz2⟩ := info_parts Tryd.info5
  have HI := Lib.hid (show Tryd.prog.info? 5 = some i0 ∧ i0.zero = some (.int .u8 0) ∧ i0.size = 1 ∧ i0.bytes = 1 from ⟨hi, hz0, hz1, hz2⟩)
  have d1 : decide ((m : Int) < 0) = false := decide_eq_false (by omega)
  have d2 : decide ((1 : Int) < (m : Int)) = false := decide_eq_false (by omega)
  have HT := Lib.hid hT
  clear hi hz0 hz1 hz2 hT
  go_enter Tryd.func6, Tryd.ntmps6
  go_wp2_with (first
    | (at_make; refine wpList_make_full _ rfl (.tmp 16) (.tmp 16) 27 rfl w.heap.size 5 i0 (.int .u8 0) 1 Tryd.underlying27 HI.out.1 HI.out.2.1 HI.out.2.2.1 .i64 .i64 _ _ (8000 + m) rfl rfl (by omega) (by omega) (by rw [HI.out.2.2.2]; omega) (by unfold maxLen; omega) (Nat.le_refl _) ?_; intro w1 hown1 hgrow1; have hb1 := Lib.hid (made_block hown1); have hB1 := Lib.hid (Below.grown (Below.refl _ _) hgrow1 (Nat.le_refl _) (fun k h => by cases h)); clear hown1 hgrow1)
    | (go_at_call 17; fail))
  obtain ⟨N, hN⟩ : ∃ N, N = 8000 + m := ⟨_, rfl⟩
  rw [← hN] at hb1 ⊢
  obtain ⟨z, hz⟩ : ∃ z, z = List.replicate N (0 : Int) := ⟨_, rfl⟩
  have hzl : z.length = N := by rw [hz]; simp
  have hzb : Bts z := by rw [hz]; exact bts_zeros N
  have hrd1 : Rd w1 (some ⟨w.heap.size, 0, none⟩) z := by
    have := hb1.out
    rw [zeros_ints, ← hz] at this
    exact Rd.block this
  obtain ⟨W1, hW1⟩ : ∃ W1, W1 = w1.alloc (.cells #[.int .i64 2, .int .i64 0, .slice (some ⟨w.heap.size, 0, none⟩) N N] 29) := ⟨_, rfl⟩
  have hbx : W1.heap[w1.heap.size]? = some (.cells #[.int .i64 2, .int .i64 0, .slice (some ⟨w.heap.size, 0, none⟩) N N] 29) := by rw [hW1]; exact heap_alloc_new _ _
  have hBW : Below w1.heap.size w1 W1 := by rw [hW1]; exact (Below.refl _ _).alloc (Nat.le_refl _) _
  have HB1 : Hid (Below w.heap.size w W1) := hB1.out.trans (hBW.mono hB1.out.size)
  have hok : Part.ok W1 ⟨some ⟨w.heap.size, 0, none⟩, N, N, z⟩ := ⟨hrd1.below hBW, hzl, hzb, by show N ≤ maxLen; unfold maxLen; omega, fun h => by cases h⟩
  have hby := fbytes_any ⟨2, 0, ⟨some ⟨w.heap.size, 0, none⟩, N, N, z⟩⟩ W1 (HT.out.below HB1.out) hok
  rw [← hW1]
  have HBX := Lib.hid hbx; have HZL := Lib.hid hzl; have HZB := Lib.hid hzb; have HN := Lib.hid hN
  rcases Nat.lt_or_ge 0 m with hm0 | hm0
  · have hc : chk 2 0 N = 2 := by unfold chk; rw [if_pos nok_20, if_neg (by omega)]
    have hby2 : Calls Tryd.prog 17 #[.agg #[.int .i64 2, .int .i64 0, .slice (some ⟨w.heap.size, 0, none⟩) N N]] W1 fun e w' => e = .returned (.tuple #[.slice none 0 0, .int .i64 2]) ∧ Below W1.heap.size W1 w' := hby.mono fun r w' h => by
      rcases h with h | h
      · have := h.1.symm.trans hc; omega
      · have h2 := h.2
        simp only at h2
        rw [hc] at h2
        exact h2
    have hck : ∀ V, Calls Tryd.prog 18 #[.agg #[.int .i64 2, .int .i64 0, .slice (some ⟨w.heap.size, 0, none⟩) N N]] V fun e w' => e = .returned (.int .i64 2) ∧ Below V.heap.size V w' := fun V => by
      have := fcheck_any ⟨2, 0, ⟨some ⟨w.heap.size, 0, none⟩, N, N, z⟩⟩ V
      simp only at this
      rw [hc] at this
      exact this
    have HBY := Lib.hid hby2; have HCK := Lib.hid hck
    have d3 : decide ((0 : Int) < (m : Int)) = true := decide_eq_true (by omega)
    have d3' : decide (0 < m) = true := decide_eq_true (by omega)
    clear hby hby2 hck hc hok hW1 hbx hBW hrd1 hz hzl hzb hN hb1 hB1 hm0
    refine HBY.out.mono ?_
    rintro r w2 ⟨rfl, hB2⟩
    have HB2 : Hid (Below w.heap.size w w2) := HB1.out.trans (hB2.mono HB1.out.size)
    have hb2 : w2.heap[w1.heap.size]? = some (.cells #[.int .i64 2, .int .i64 0, .slice (some ⟨w.heap.size, 0, none⟩) N N] 29) := by rw [hB2.block _ (Array.getElem?_eq_some_iff.1 HBX.out).1]; exact HBX.out
    have a0 : w2.cell? ⟨w1.heap.size, 0, none⟩ = some (.int .i64 2) := by simp [World.cell?, hb2]
    have a1 : w2.cell? ⟨w1.heap.size, 1, none⟩ = some (.int .i64 0) := by simp [World.cell?, hb2]
    have a2 : w2.cell? ⟨w1.heap.size, 2, none⟩ = some (.slice (some ⟨w.heap.size, 0, none⟩) N N) := by simp [World.cell?, hb2]
    clear hB2 hb2
    go_wp2_with (go_at_call 18; fail)
    refine (HCK.out w2).mono ?_
    rintro r w3 ⟨rfl, hB3⟩
    have HB3 : Hid (Below w.heap.size w w3) := HB2.out.trans (hB3.mono HB2.out.size)
    have HWK := Lib.hid (wakes06 w3 (HT.out.below HB3.out))
    clear hB3 a0 a1 a2
    go_wp2_with (go_at_call 24; refine HWK.out.mono ?_; rintro r w8 ⟨rfl, hB8⟩; have HB8 : Hid (Below w.heap.size w w8) := HB3.out.trans (hB8.mono HB3.out.size); clear hB8)
    go_ret
    exact ⟨rfl, HB8.out⟩
  · have hn8 : N = 8000 := by omega
    have hc : chk 2 0 N = 0 := by unfold chk; rw [if_pos nok_20, if_pos (by omega)]
    have hby2 : Calls Tryd.prog 17 #[.agg #[.int .i64 2, .int .i64 0, .slice (some ⟨w.heap.size, 0, none⟩) N N]] W1 (RB W1 (13 + N) (fr 2 0 z)) := hby.mono fun r w' h => by
      rcases h with h | h
      · exact h.2
      · exact absurd hc h.1
    have HBY := Lib.hid hby2
    have d3 : decide ((0 : Int) < (m : Int)) = false := decide_eq_false (by omega)
    have d3' : decide (0 < m) = false := decide_eq_false (by omega)
    have d4' : (N == 8000) = true := beq_iff_eq.2 hn8
    have d4 : ((N : Int) == 8000) = true := beq_iff_eq.2 (by omega)
    have HN8 := Lib.hid hn8
    clear hby hby2 hc hok hW1 hbx hBW hrd1 hz hzl hzb hN hb1 hB1 hm0 hn8
    refine HBY.out.mono ?_
    rintro r w2 ⟨ko, kc, rfl, ho2, hB2⟩
    have HB2 : Hid (Below w.heap.size w w2) := HB1.out.trans (hB2.mono HB1.out.size)
    have hrd := fread_fr ko (13 + N) kc 2 0 z w2 (HT.out.below HB2.out) nok_20 (by rw [HZL.out, HN8.out]; omega) HZB.out ho2.1 ho2.2.1 ho2.2.2.1 ho2.rd
    rw [HZL.out] at hrd
    have HRD := Lib.hid hrd
    clear hrd ho2 hB2
    go_wp2_with (go_at_call 26; fail)
    refine HRD.out.mono ?_
    rintro r w3 ⟨k3, c3, rfl, ho3, hB3⟩
    have HB3 : Hid (Below w.heap.size w w3) := HB2.out.trans (hB3.mono HB2.out.size)
    have HB4 : Hid (Below w.heap.size w (w3.alloc (.cells #[.int .i64 2, .int .i64 0, .slice k3 N c3] 29))) := HB3.out.alloc HB3.out.size _
    have HWK := Lib.hid (wakes06 _ (HT.out.below HB4.out))
    clear hB3 ho3
    go_wp2_with (go_at_call 24; refine HWK.out.mono ?_; rintro r w8 ⟨rfl, hB8⟩; have HB8 : Hid (Below w.heap.size w w8) := HB4.out.trans (hB8.mono HB4.out.size); clear hB8)
    go_ret
    exact ⟨rfl, HB8.out⟩

theorem long_any (a0 : Int) (w : World) (hT : Tab w) : Calls Tryd.prog 6 #[.int .i64 a0] w fun e w' => e = .returned (.bool true) ∧ Below w.heap.size w w' := by
  by_cases h : a0 < 0 ∨ 1 < a0
  · exact long_out a0 w h
  · obtain ⟨m, rfl⟩ := Int.eq_ofNat_of_zero_le (by omega : 0 ≤ a0)
    exact long_in m w hT (by omega)

end Go.Proofs.YtmbkgjiofkggcaaDoor
