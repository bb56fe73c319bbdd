/-
  The walk of CrcParts.
-/
import Derived.Test.YtilpehbbjhignaaDoorSums
import Derived.Test.YtilpehbbjhignaaDoorLin
import Derived.Test.YtilpehbbjhignaaDoorUnlike
import Derived.Test.YtilpehbbjhignaaDoorBytes
import Derived.Deep.RegionHeld3
namespace Go.Proofs.YtilpehbbjhignaaDoor
open Go.RowKit
set_option linter.unusedVariables false

set_option maxRecDepth 100000 in
set_option maxHeartbeats 400000 in
theorem parts_walk (ao : Option Addr) (n cap : Nat) (ps : List Part) (a1 : Int) (w : World) (hl : ps.length = n) (hm : n ≤ maxLen) (hT : Tab w) (h : Ps w ao ps) :
    Calls Tryd.prog 4 #[.slice ao n cap, .int .i64 a1] w fun e w' => e = .returned (.bool true) ∧ Below w.heap.size w w' := by
  have H8 := Lib.hid (heavy_any ao n cap ps w hl h)
  have HT := Lib.hid hT; have HP := Lib.hid h; have HL := Lib.hid hl; have HM := Lib.hid hm
  clear hl hm hT h
  go_enter Tryd.func4, Tryd.ntmps4
  go_wp2_with (go_at_call 8; refine H8.out.mono ?_; rintro e w1 ⟨b, rfl, rfl, hb⟩; have HBB := Lib.hid hb; clear hb)
  · go_ret
    exact ⟨rfl, Below.refl _ _⟩
  · obtain ⟨hn20, h300⟩ := HBB.out (by assumption)
    have HF := Lib.hid (flat_any ao n cap ps w HL.out hn20 HP.out h300)
    have hZb : Bts (flat ps) := flat_bts ps (fun p hp => (HP.out.mem p hp).bts)
    have hN : (flat ps).length ≤ 6000 := by
      have := flat_len ps 300 (fun r hr => by rw [(HP.out.mem _ (List.getElem_mem hr)).len]; exact h300 r hr) ps.length (Nat.le_refl _)
      rw [List.take_of_length_le (Nat.le_refl _)] at this
      have := HL.out
      omega
    have HS0 := Lib.hid (fun w1 (hB : Below w.heap.size w w1) => sum_any ao n cap ps w1 HL.out HM.out (HT.out.below hB) (HP.out.below hB))
    obtain ⟨Z, hZ⟩ : ∃ Z, Z = flat ps := ⟨_, rfl⟩
    rw [← hZ] at HF hZb hN HS0
    obtain ⟨N, hNN⟩ : ∃ N, N = Z.length := ⟨_, rfl⟩
    rw [← hNN] at HF hN
    obtain ⟨s, hs⟩ : ∃ s : Int, s = ((sumOf Z).toNat : Int) := ⟨_, rfl⟩
    rw [← hs] at HS0
    obtain ⟨T, hT2, hT1⟩ := uwrap_at a1 ((N : Int) + 1) (by omega) (by omega)
    have HT1 := Lib.hid hT1; have HS := Lib.hid hs; have HNN := Lib.hid hNN; have HZB := Lib.hid hZb
    have hTN : T ≤ N := by omega
    clear h300 hZ hNN hs hT1 hT2 hZb HBB HL HM HP H8
    go_wp2_with (go_at_call 10; refine HF.out.mono ?_; rintro e w2 ⟨ko, kc, rfl, how, hB2⟩; have HOW := Lib.hid how; have HB2 := Lib.hid hB2; clear how hB2)
    try rw [HT1.out]
    refine (HS0.out _ HB2.out).mono ?_
    rintro e w3 ⟨rfl, rfl⟩
    have hcase : (N = 0 ∧ ko = none ∧ kc = 0) ∨ ∃ g, ko = some ⟨g, 0, none⟩ := by
      rcases HOW.out.2.2.2.2 with ⟨q, hn⟩ | ⟨g, c, cur, q, _⟩
      · simp only [Value.slice.injEq] at q; exact .inl ⟨hn, q.1, q.2.2⟩
      · simp only [Value.slice.injEq] at q; exact .inr ⟨g, q.1⟩
    have HBY := Lib.hid (bytes_any (some ⟨w2.heap.size, 0, none⟩) 1 1 [⟨ko, N, kc, Z⟩] (w2.alloc (.cells #[.slice ko N kc] 25)) s (by rw [HS.out, flat_one]) rfl (by decide) ((HT.out.below HB2.out).below ((Below.refl _ _).alloc (Nat.le_refl _) _)) (ps_new w2 [⟨ko, N, kc, Z⟩] 25 (fun r hr => by
      match r, hr with
      | 0, _ => exact HOW.out.part HZB.out)))
    have hs0 : 0 ≤ s ∧ s < 4294967296 := by rw [HS.out]; have := (sumOf Z).isLt; omega
    obtain ⟨hs0, hs1⟩ := hs0
    go_wp2_with (go_at_call 12; refine HBY.out.mono ?_; rintro e w4 ⟨rfl, hB4⟩; have HB4 := Lib.hid hB4; clear hB4)
    obtain ⟨W, hW⟩ : ∃ W, W = w4.alloc (Obj.cells #[Value.int .u8 (s % 256), Value.int .u8 (s / 256 % 256), Value.int .u8 (s / 65536 % 256), Value.int .u8 (s / 16777216)] 29) := ⟨_, rfl⟩
    have hba : Below w2.heap.size w2 (w2.alloc (.cells #[.slice ko N kc] 25)) := (Below.refl _ _).alloc (Nat.le_refl _) _
    have hb4 : Below w2.heap.size w2 w4 := hba.trans (HB4.out.mono hba.size)
    have hbW : Below w4.heap.size w4 W := by rw [hW]; exact (Below.refl _ _).alloc (Nat.le_refl _) _
    have hb2W := hb4.trans (hbW.mono hb4.size)
    have HBW := Lib.hid (HB2.out.trans (hb2W.mono HB2.out.size))
    have hTW := HT.out.below HBW.out
    have hpZ : Part.ok W ⟨ko, N, kc, Z⟩ := (HOW.out.part HZB.out).below hb2W
    have hp4 : Part.ok W ⟨some ⟨w4.heap.size, 0, none⟩, 4, 4, l4 s⟩ := by
      rw [hW]
      have e : s = ((sumOf Z).toNat : Int) := HS.out
      have := part_new w4 (l4 s) 29 (0, 0) (by rw [e]; exact bts_l4 _ (sumOf Z).isLt) (by simp [l4, maxLen])
      exact this
    rw [← hW]
    have HPZ := Lib.hid hpZ; have HP4 := Lib.hid hp4; have HTW := Lib.hid hTW
    have HSW := Lib.hid (show w4.heap.size + 1 = W.heap.size by rw [hW]; exact (World.size_alloc ..).symm)
    clear hW hba hb4 hbW hb2W hTW hpZ hp4 HB4 HBY HS0 HF
    obtain ⟨W1, hW1⟩ : ∃ W1, W1 = W.alloc (.cells #[.slice ko N kc] 25) := ⟨_, rfl⟩
    have hb1 : Below W.heap.size W W1 := by rw [hW1]; exact (Below.refl _ _).alloc (Nat.le_refl _) _
    have hz1 : W.heap.size + 1 = W1.heap.size := by rw [hW1]; exact (World.size_alloc ..).symm
    have HA := Lib.hid (sum_side W [⟨ko, N, kc, Z⟩] 1 W.heap.size _ s (by rw [HS.out, flat_one]) rfl rfl rfl (by decide) HTW.out (by intro p hp; simp only [List.mem_cons, List.mem_nil_iff, or_false] at hp; rw [hp]; exact HPZ.out))
    have hres : sumOf (Z ++ l4 s) = 558161692#32 := by
      have := sum_res Z
      rw [← HS.out] at this
      exact BitVec.eq_of_toNat_eq (by rw [this]; rfl)
    have HRES := Lib.hid hres
    clear hres
    rcases hcase with ⟨rfl, rfl, rfl⟩ | ⟨g, rfl⟩
    · obtain rfl : T = 0 := by omega
      have hZ0 : Z = [] := List.eq_nil_of_length_eq_zero HNN.out.symm
      subst hZ0
      have hT1 := HTW.out.below hb1
      have HB := Lib.hid (sum_side W1 [⟨none, 0, 0, []⟩, ⟨none, 0, 0, []⟩, ⟨none, 0, 0, []⟩] 3 (W.heap.size + 1) _ s (by rw [HS.out]; simp [flat]) rfl rfl hz1 (by decide) hT1 (by
        intro p hp
        simp only [List.mem_cons, List.mem_nil_iff, or_false, or_self] at hp
        rw [hp]; exact Part.ok.empty _ _ _ (fun _ => rfl)))
      obtain ⟨W2, hW2⟩ : ∃ W2, W2 = W1.alloc (.cells (([⟨none, 0, 0, []⟩, ⟨none, 0, 0, []⟩, ⟨none, 0, 0, []⟩] : List Part).map Part.v).toArray 25) := ⟨_, rfl⟩
      have hb2 : Below W1.heap.size W1 W2 := by rw [hW2]; exact (Below.refl _ _).alloc (Nat.le_refl _) _
      have hz2 : W.heap.size + 1 + 1 = W2.heap.size := by rw [hW2, hz1]; exact (World.size_alloc ..).symm
      have HC := Lib.hid (sum_side W2 [⟨none, 0, 0, []⟩, ⟨some ⟨w4.heap.size, 0, none⟩, 4, 4, l4 s⟩] 2 (W.heap.size + 1 + 1) _ 558161692 (by show _ = _; rw [show flat [⟨none, 0, 0, []⟩, ⟨some ⟨w4.heap.size, 0, none⟩, 4, 4, l4 s⟩] = [] ++ l4 s by simp [flat], HRES.out]; rfl) rfl rfl hz2 (by decide) (hT1.below hb2) (by
        intro p hp
        simp only [List.mem_cons, List.mem_nil_iff, or_false] at hp
        rcases hp with rfl | rfl
        · exact Part.ok.empty _ _ _ (fun _ => rfl)
        · exact (HP4.out.below hb1).below hb2))
      obtain ⟨W3, hW3⟩ : ∃ W3, W3 = W2.alloc (.cells (([⟨none, 0, 0, []⟩, ⟨some ⟨w4.heap.size, 0, none⟩, 4, 4, l4 s⟩] : List Part).map Part.v).toArray 25) := ⟨_, rfl⟩
      have hb3 : Below W2.heap.size W2 W3 := by rw [hW3]; exact (Below.refl _ _).alloc (Nat.le_refl _) _
      have hb12 := hb1.trans (hb2.mono hb1.size)
      have HB3 := Lib.hid (hb12.trans (hb3.mono hb12.size))
      have HWK := Lib.hid (fun V (hV : ∀ a, V.cell? a = W3.cell? a) => wakes_any V ((HTW.out.below HB3.out).congr hV))
      simp only [List.map_cons, List.map_nil, Part.v] at hW2 hW3 HB HC
      clear hb1 hz1 hT1 hb2 hz2 hb3 hb12
      rw [hW1] at HB hW2
      rw [hW2] at HC hW3
      rw [hW3] at HWK HB3
      clear hW1 hW2 hW3 W1 W2 W3
      go_wp2
      go_region_held3 (fun _ => True) (trivial) (first | (go_at_call 11; (with_reducible refine (HA.out _ ?_).mono ?_); (intro _; rfl); rintro e w5 ⟨rfl, rfl⟩) | (go_at_call 11; (with_reducible refine (HB.out _ ?_).mono ?_); (intro _; rfl); rintro e w5 ⟨rfl, rfl⟩) | (go_at_call 11; (with_reducible refine (HC.out _ ?_).mono ?_); (intro _; rfl); rintro e w5 ⟨rfl, rfl⟩) | (go_at_call 17; (with_reducible refine (HWK.out _ ?_).mono ?_); (intro _; rfl); rintro e w5 ⟨rfl, hB5⟩; have HB5 := Lib.hid hB5; clear hB5))
      go_wp2
      go_ret
      exact ⟨rfl, HBW.out.trans (((HB3.out.drew).trans (HB5.out.mono HB3.out.drew.size)).mono HBW.out.size)⟩
    · have hNc : N ≤ kc := HOW.out.2.1
      have hck : kc ≤ 2 ^ 63 - 1 := by have := HOW.out.2.2.1; unfold maxLen at this; exact this
      have hT1 := HTW.out.below hb1
      have HB := Lib.hid (sum_side W1 [⟨some ⟨g, 0, none⟩, T, kc, Z.take T⟩, ⟨none, 0, 0, []⟩, ⟨if kc = T then some ⟨g, 0, none⟩ else some ⟨g, T, none⟩, N - T, kc - T, Z.drop T⟩] 3 (W.heap.size + 1) _ s (by rw [HS.out]; simp [flat]) rfl rfl hz1 (by decide) hT1 (by
        intro p hp
        simp only [List.mem_cons, List.mem_nil_iff, or_false] at hp
        rcases hp with rfl | rfl | rfl
        · exact (HPZ.out.below hb1).take T hTN
        · exact Part.ok.empty _ _ _ (fun _ => rfl)
        · exact (HPZ.out.below hb1).rest hTN hNc))
      obtain ⟨W2, hW2⟩ : ∃ W2, W2 = W1.alloc (.cells ([⟨some ⟨g, 0, none⟩, T, kc, Z.take T⟩, ⟨none, 0, 0, []⟩, ⟨if kc = T then some ⟨g, 0, none⟩ else some ⟨g, T, none⟩, N - T, kc - T, Z.drop T⟩].map Part.v).toArray 25) := ⟨_, rfl⟩
      have hb2 : Below W1.heap.size W1 W2 := by rw [hW2]; exact (Below.refl _ _).alloc (Nat.le_refl _) _
      have hz2 : W.heap.size + 1 + 1 = W2.heap.size := by rw [hW2, hz1]; exact (World.size_alloc ..).symm
      have HC := Lib.hid (sum_side W2 [⟨some ⟨g, 0, none⟩, N, kc, Z⟩, ⟨some ⟨w4.heap.size, 0, none⟩, 4, 4, l4 s⟩] 2 (W.heap.size + 1 + 1) _ 558161692 (by show _ = _; rw [show flat [⟨some ⟨g, 0, none⟩, N, kc, Z⟩, ⟨some ⟨w4.heap.size, 0, none⟩, 4, 4, l4 s⟩] = Z ++ l4 s by simp [flat], HRES.out]; rfl) rfl rfl hz2 (by decide) (hT1.below hb2) (by
        intro p hp
        simp only [List.mem_cons, List.mem_nil_iff, or_false] at hp
        rcases hp with rfl | rfl
        · exact (HPZ.out.below hb1).below hb2
        · exact (HP4.out.below hb1).below hb2))
      obtain ⟨W3, hW3⟩ : ∃ W3, W3 = W2.alloc (.cells ([⟨some ⟨g, 0, none⟩, N, kc, Z⟩, ⟨some ⟨w4.heap.size, 0, none⟩, 4, 4, l4 s⟩].map Part.v).toArray 25) := ⟨_, rfl⟩
      have hb3 : Below W2.heap.size W2 W3 := by rw [hW3]; exact (Below.refl _ _).alloc (Nat.le_refl _) _
      have hb12 := hb1.trans (hb2.mono hb1.size)
      have HB3 := Lib.hid (hb12.trans (hb3.mono hb12.size))
      have HWK := Lib.hid (fun V (hV : ∀ a, V.cell? a = W3.cell? a) => wakes_any V ((HTW.out.below HB3.out).congr hV))
      simp only [List.map_cons, List.map_nil, Part.v] at hW2 hW3 HB HC
      have k1 : (T : Int) ≤ N := by omega
      have k2 : (N : Int) ≤ kc := by omega
      have k4 : (0 : Int) ≤ T := by omega
      have k5 : (T : Int) ≤ kc := by omega
      have k6 : T ≤ kc := by omega
      clear hb1 hz1 hT1 hb2 hz2 hb3 hb12
      rw [hW1] at HB hW2
      rw [hW2] at HC hW3
      rw [hW3] at HWK HB3
      clear hW1 hW2 hW3 W1 W2 W3
      by_cases hTk : kc = T
      · subst hTk
        obtain rfl : N = kc := by omega
        simp only [if_true, Nat.sub_self] at HB HC HWK HB3
        go_wp2
        go_region_held3 (fun _ => True) (trivial) (first | (go_at_call 11; (with_reducible refine (HA.out _ ?_).mono ?_); (intro _; rfl); rintro e w5 ⟨rfl, rfl⟩) | (go_at_call 11; (with_reducible refine (HB.out _ ?_).mono ?_); (intro _; rfl); rintro e w5 ⟨rfl, rfl⟩) | (go_at_call 11; (with_reducible refine (HC.out _ ?_).mono ?_); (intro _; rfl); rintro e w5 ⟨rfl, rfl⟩) | (go_at_call 17; (with_reducible refine (HWK.out _ ?_).mono ?_); (intro _; rfl); rintro e w5 ⟨rfl, hB5⟩; have HB5 := Lib.hid hB5; clear hB5))
        go_wp2
        go_ret
        exact ⟨rfl, HBW.out.trans (((HB3.out.drew).trans (HB5.out.mono HB3.out.drew.size)).mono HBW.out.size)⟩
      · simp only [if_neg hTk] at HB HC HWK HB3
        go_wp2
        go_region_held3 (fun _ => True) (trivial) (first | (go_at_call 11; (with_reducible refine (HA.out _ ?_).mono ?_); (intro _; rfl); rintro e w5 ⟨rfl, rfl⟩) | (go_at_call 11; (with_reducible refine (HB.out _ ?_).mono ?_); (intro _; rfl); rintro e w5 ⟨rfl, rfl⟩) | (go_at_call 11; (with_reducible refine (HC.out _ ?_).mono ?_); (intro _; rfl); rintro e w5 ⟨rfl, rfl⟩) | (go_at_call 17; (with_reducible refine (HWK.out _ ?_).mono ?_); (intro _; rfl); rintro e w5 ⟨rfl, hB5⟩; have HB5 := Lib.hid hB5; clear hB5))
        go_wp2
        go_ret
        exact ⟨rfl, HBW.out.trans (((HB3.out.drew).trans (HB5.out.mono HB3.out.drew.size)).mono HBW.out.size)⟩
end Go.Proofs.YtilpehbbjhignaaDoor
