/-
  FrameParts: the walk.
-/
import Derived.Test.YtmbkgjiofkggcaaDoorFP1
namespace Go.Proofs.YtmbkgjiofkggcaaDoor
open Go.RowKit
set_option linter.unusedVariables false

set_option maxRecDepth 100000 in
set_option maxHeartbeats 40000000 in
theorem fparts_any (k s k2 s2 : Int) (da da2 : Option Addr) (dn dc dn2 dc2 : Nat) (z z2 : List Int) (w : World) (hT : Tab w) (ha : Part.ok w ⟨da, dn, dc, z⟩) (hb : Part.ok w ⟨da2, dn2, dc2, z2⟩) :
    Calls Tryd.prog 8 #[.agg #[.int .i64 k, .int .i64 s, .slice da dn dc], .agg #[.int .i64 k2, .int .i64 s2, .slice da2 dn2 dc2]] w fun e w' => e = .returned (.bool true) ∧ Below w.heap.size w w' := by
  obtain ⟨W1, hW1⟩ : ∃ W1, W1 = (w.alloc (.cells #[.int .i64 k, .int .i64 s, .slice da dn dc] 29)).alloc (.cells #[.int .i64 k2, .int .i64 s2, .slice da2 dn2 dc2] 29) := ⟨_, rfl⟩
  have hB1 : Below w.heap.size w W1 := by rw [hW1]; exact ((Below.refl _ _).alloc (Nat.le_refl _) _).alloc (by simp) _
  obtain ⟨gA, hgA⟩ : ∃ gA, gA = w.heap.size := ⟨_, rfl⟩
  have hX1 : Blk W1 gA 29 [.int .i64 k, .int .i64 s, .slice da dn dc] := by rw [hW1, hgA]; exact (Blk.new w [.int .i64 k, .int .i64 s, .slice da dn dc] 29).alloc _
  have hY1 : Blk W1 (gA + 1) 29 [.int .i64 k2, .int .i64 s2, .slice da2 dn2 dc2] := by
    have := Blk.new (w.alloc (.cells #[.int .i64 k, .int .i64 s, .slice da dn dc] 29)) [.int .i64 k2, .int .i64 s2, .slice da2 dn2 dc2] 29
    rw [hW1, hgA]; simpa using this
  obtain ⟨W2, hW2⟩ : ∃ W2, W2 = W1.alloc (.cells #[.int .i64 k, .int .i64 s, .slice da dn dc, .int .i64 k2, .int .i64 s2, .slice da2 dn2 dc2] 29) := ⟨_, rfl⟩
  have hb12 : Below W1.heap.size W1 W2 := by rw [hW2]; exact (Below.refl _ _).alloc (Nat.le_refl _) _
  have hsz : W1.heap.size = gA + 1 + 1 := by rw [hW1, hgA]; simp
  have hhv : Calls Tryd.prog 14 #[.slice (some ⟨gA + 1 + 1, 0, none⟩) 2 2] W2 fun e w' => (e = .returned (.bool true) ∨ (e = .returned (.bool false) ∧ dn ≤ 400 ∧ dn2 ≤ 400)) ∧ w' = W2 := by
    rw [hW2, ← hsz]
    refine (heavy_any (some ⟨W1.heap.size, 0, none⟩) 2 2 [⟨k, s, ⟨da, dn, dc, z⟩⟩, ⟨k2, s2, ⟨da2, dn2, dc2, z2⟩⟩] _ rfl (by decide) (rs_new2 W1 ⟨k, s, ⟨da, dn, dc, z⟩⟩ ⟨k2, s2, ⟨da2, dn2, dc2, z2⟩⟩ (ha.below hB1) (hb.below hB1))).mono ?_
    rintro e w' ⟨h, rfl⟩
    refine ⟨?_, rfl⟩
    rcases h with h | ⟨h, _, h4⟩
    · exact .inl h
    · exact .inr ⟨h, h4 0 (by simp), h4 1 (by simp)⟩
  have HHV := Lib.hid hhv
  have HB2 := Lib.hid (hB1.trans (hb12.mono hB1.size)); have HX2 := Lib.hid (hX1.below hb12); have HY2 := Lib.hid (hY1.below hb12)
  rw [hW1] at hW2
  subst hgA
  have HW2 := Lib.hid hW2; have HT := Lib.hid hT; have HA := Lib.hid ha; have HBB := Lib.hid hb
  clear hW1 hB1 hX1 hY1 hW2 hb12 hT ha hb hsz hhv W1
  go_enter Tryd.func8, Tryd.ntmps8
  go_wp2_with (go_at_call 14; fail)
  rw [← HW2.out]
  refine HHV.out.mono ?_
  rintro e w' ⟨rfl | ⟨rfl, h4, h42⟩, rfl⟩
  · go_wp2
    go_ret
    exact ⟨rfl, HB2.out⟩
  have c0 : w'.cell? ⟨w.heap.size, 0, none⟩ = some (.int .i64 k) := HX2.out.cell (j := 0) (by simp)
  have c1 : w'.cell? ⟨w.heap.size, 1, none⟩ = some (.int .i64 s) := HX2.out.cell (j := 1) (by simp)
  have c2 : w'.cell? ⟨w.heap.size, 2, none⟩ = some (.slice da dn dc) := HX2.out.cell (j := 2) (by simp)
  have hfa := fbytes_any ⟨k, s, ⟨da, dn, dc, z⟩⟩ w' (HT.out.below HB2.out) (HA.out.below HB2.out)
  have hfb := fun V (hV : Below w'.heap.size w' V) => fbytes_any ⟨k2, s2, ⟨da2, dn2, dc2, z2⟩⟩ V (HT.out.below (HB2.out.trans (hV.mono HB2.out.size))) (HBB.out.below (HB2.out.trans (hV.mono HB2.out.size)))
  obtain ⟨M, hM⟩ : ∃ M, M = 13 + dn := ⟨_, rfl⟩
  obtain ⟨M2, hM2⟩ : ∃ M2, M2 = 13 + dn2 := ⟨_, rfl⟩
  obtain ⟨E1, hE1⟩ : ∃ E1, E1 = chk k s dn := ⟨_, rfl⟩
  obtain ⟨E2, hE2⟩ : ∃ E2, E2 = chk k2 s2 dn2 := ⟨_, rfl⟩
  obtain ⟨X, hX⟩ : ∃ X, X = fr k s z := ⟨_, rfl⟩
  obtain ⟨Y, hY⟩ : ∃ Y, Y = fr k2 s2 z2 := ⟨_, rfl⟩
  simp only at hfa hfb
  rw [← hM, ← hE1, ← hX] at hfa
  rw [← hM2, ← hE2, ← hY] at hfb
  change Calls Tryd.prog 17 #[.agg #[.int .i64 k, .int .i64 s, .slice da dn dc]] w' _ at hfa
  change ∀ V, Below w'.heap.size w' V → Calls Tryd.prog 17 #[.agg #[.int .i64 k2, .int .i64 s2, .slice da2 dn2 dc2]] V _ at hfb
  have HFA := Lib.hid hfa; have HFB := Lib.hid hfb
  have HM := Lib.hid hM; have HM2 := Lib.hid hM2; have HE1 := Lib.hid hE1; have HE2 := Lib.hid hE2; have HX := Lib.hid hX; have HY := Lib.hid hY
  clear hfa hfb hM hM2 hE1 hE2 hX hY HHV HW2
  go_wp2_with (go_at_call 17; fail)
  refine HFA.out.mono ?_
  rintro e w3 hw3
  obtain ⟨v5, v6, rfl, hB3, hx⟩ : ∃ v5 v6, e = .returned (.tuple #[v5, .int .i64 v6]) ∧ Below w'.heap.size w' w3 ∧ ((v6 = 0 ∧ E1 = 0 ∧ ∃ g kc, v5 = .slice (some ⟨g, 0, none⟩) M kc ∧ Ow w3 w'.heap.size (some ⟨g, 0, none⟩) M kc X) ∨ (v6 ≠ 0 ∧ v5 = .slice none 0 0)) := by
    rcases hw3 with ⟨h0, ko, kc, rfl, how, hB⟩ | ⟨h0, rfl, hB⟩
    · obtain ⟨g, rfl, _⟩ := how.at (by have := HM.out; omega)
      exact ⟨_, _, rfl, hB, .inl ⟨rfl, h0, g, kc, rfl, how⟩⟩
    · exact ⟨_, _, rfl, hB, .inr ⟨h0, rfl⟩⟩
  have HB3 := Lib.hid hB3
  have HX3 := Lib.hid (HX2.out.below hB3); have HY3 := Lib.hid (HY2.out.below hB3)
  have c0 : w3.cell? ⟨w.heap.size + 1, 0, none⟩ = some (.int .i64 k2) := HY3.out.cell (j := 0) (by simp)
  have c1 : w3.cell? ⟨w.heap.size + 1, 1, none⟩ = some (.int .i64 s2) := HY3.out.cell (j := 1) (by simp)
  have c2 : w3.cell? ⟨w.heap.size + 1, 2, none⟩ = some (.slice da2 dn2 dc2) := HY3.out.cell (j := 2) (by simp)
  clear hB3 hw3
  go_wp2_with (go_at_call 17; fail)
  refine (HFB.out _ HB3.out).mono ?_
  rintro e w4 hw4
  obtain ⟨v7, v8, rfl, hB4, hy⟩ : ∃ v7 v8, e = .returned (.tuple #[v7, .int .i64 v8]) ∧ Below w3.heap.size w3 w4 ∧ ((v8 = 0 ∧ E2 = 0 ∧ ∃ g kc, v7 = .slice (some ⟨g, 0, none⟩) M2 kc ∧ Ow w4 w3.heap.size (some ⟨g, 0, none⟩) M2 kc Y) ∨ (v8 ≠ 0 ∧ v7 = .slice none 0 0)) := by
    rcases hw4 with ⟨h0, ko, kc, rfl, how, hB⟩ | ⟨h0, rfl, hB⟩
    · obtain ⟨g, rfl, _⟩ := how.at (by have := HM2.out; omega)
      exact ⟨_, _, rfl, hB, .inl ⟨rfl, h0, g, kc, rfl, how⟩⟩
    · exact ⟨_, _, rfl, hB, .inr ⟨h0, rfl⟩⟩
  have HB4 : Hid (Below w.heap.size w w4) := HB2.out.trans ((HB3.out.trans (hB4.mono HB3.out.size)).mono HB2.out.size)
  have HX4 := Lib.hid (HX3.out.below hB4); have HY4 := Lib.hid (HY3.out.below hB4)
  have HB34 := Lib.hid hB4
  have HWK := Lib.hid (wakes06 w4 (HT.out.below HB4.out))
  clear hB4 hw4 HX3 HY3 HX2 HY2 HFA HFB
  rcases hx with ⟨rfl, he1, gx, xc, rfl, hox⟩ | ⟨hn6, rfl⟩
  · rcases hy with ⟨rfl, he2, gy, yc, rfl, hoy⟩ | ⟨hn8, rfl⟩
    · obtain ⟨hnk, _⟩ := chk_ok (HE1.out.symm.trans he1)
      obtain ⟨hnk2, _⟩ := chk_ok (HE2.out.symm.trans he2)
      have hzl : z.length = dn := HA.out.len
      have hzl2 : z2.length = dn2 := HBB.out.len
      have hq := fr_same k s k2 s2 z z2 hnk hnk2 (by omega) (by omega)
      rw [← HX.out, ← HY.out] at hq
      obtain ⟨q, hqq⟩ : ∃ q, q = decide (X = Y) := ⟨_, rfl⟩
      have hox4 := hox.below HB34.out
      have hpx : Part.ok w4 ⟨some ⟨gx, 0, none⟩, M, xc, X⟩ := hox4.part (by rw [HX.out]; exact fr_bts _ _ _ HA.out.bts)
      have hpy : Part.ok w4 ⟨some ⟨gy, 0, none⟩, M2, yc, Y⟩ := hoy.part (by rw [HY.out]; exact fr_bts _ _ _ HBB.out.bts)
      have hK : ∀ f : Nat → Value, f 2 = .pointer (some ⟨w.heap.size, 0, none⟩) → f 3 = .pointer (some ⟨w.heap.size + 1, 0, none⟩) → f 5 = .slice (some ⟨gx, 0, none⟩) M xc → f 7 = .slice (some ⟨gy, 0, none⟩) M2 yc →
          pgK f w4 (some ⟨gx, 0, none⟩) (some ⟨gy, 0, none⟩) M xc M2 yc k s k2 s2 da da2 dn dc dn2 dc2 w.heap.size (w.heap.size + 1) q := fun f f2 f3 f5 f7 =>
        ⟨HT.out.below HB4.out, f2, f3, f5, f7, fun V hV => (HX4.out.below hV).cell (j := 0) (by simp), fun V hV => (HX4.out.below hV).cell (j := 1) (by simp), fun V hV => (HX4.out.below hV).cell (j := 2) (by simp),
          fun V hV => (HY4.out.below hV).cell (j := 0) (by simp), fun V hV => (HY4.out.below hV).cell (j := 1) (by simp), fun V hV => (HY4.out.below hV).cell (j := 2) (by simp),
          by have := HM.out; simp; omega, by omega,
          fun V hV => (bytes_cmp (some ⟨gx, 0, none⟩) (some ⟨gy, 0, none⟩) M M2 xc yc X Y V hpx.len hpy.len hpx.small (hpx.below hV).rd (hpy.below hV).rd).mono (by rintro e w' ⟨rfl, q', rfl⟩; exact ⟨by rw [hqq], below_drewN' _ _ _⟩),
          fun V hV => by
            have := keep_rec ⟨k, s, ⟨da, dn, dc, z⟩⟩ ⟨k2, s2, ⟨da2, dn2, dc2, z2⟩⟩ V (HA.out.below (HB4.out.trans (hV.mono HB4.out.size))) (HBB.out.below (HB4.out.trans (hV.mono HB4.out.size)))
            simp only [← hq, ← hqq] at this
            exact this⟩
      have HK := Lib.hid hK; have HOX := Lib.hid hox4; have HNK := Lib.hid hnk; have HZL := Lib.hid hzl; have HPX := Lib.hid hpx
      clear hK hq hqq hpy hoy hox hox4 hnk hnk2 hzl hzl2 he1 he2 hpx
      go_wp2
      refine pgbegin rfl (HK.out _ rfl rfl rfl rfl) ?_
      intro v w5 hB5 h15
      have HX5 := Lib.hid (HX4.out.below hB5)
      have HP5 := Lib.hid (HPX.out.below hB5)
      have HB5 := Lib.hid (HB4.out.trans (hB5.mono HB4.out.size))
      have H15 := Lib.hid h15
      clear hB5 h15 HK
      unfold pgF
      rw [H15.out]
      have hM13 : 13 ≤ M := by have := HM.out; omega
      have hMx : M ≤ xc := HOX.out.2.1
      have hs0 := fun V => cutx9 gx M xc (by omega) V
      have c2 : w5.cell? ⟨w.heap.size, 2, none⟩ = some (.slice da dn dc) := HX5.out.cell (j := 2) (by simp)
      obtain ⟨sm, hsm⟩ : ∃ sm, sm = ((sumOf (fhead k s dn ++ z)).toNat : Int) := ⟨_, rfl⟩
      have hpar := fr_parts k s z
      rw [← HX.out, HZL.out, ← hsm] at hpar
      obtain ⟨hp9, hp13, hpz⟩ := hpar
      have hq9 : Part.ok w5 ⟨some ⟨gx, 0, none⟩, 9, xc, fhead k s dn⟩ := ⟨by rw [← hp9]; exact HP5.out.rd.take 9, fhead_len _ _ _, fhead_bts _ _ _, by unfold maxLen; show 9 ≤ _; omega, fun h => by cases h⟩
      have hq10 : Part.ok w5 ⟨da, dn, dc, z⟩ := HA.out.below HB5.out
      have hby := fun (V : World) (G : Nat) (hV : Below w5.heap.size w5 V) (hp : Ps V (some ⟨G, 0, none⟩) [⟨some ⟨gx, 0, none⟩, 9, xc, fhead k s dn⟩, ⟨da, dn, dc, z⟩]) =>
        bytes_any (some ⟨G, 0, none⟩) 2 2 [⟨some ⟨gx, 0, none⟩, 9, xc, fhead k s dn⟩, ⟨da, dn, dc, z⟩] V sm (by rw [hsm]; simp [flat]) rfl (by decide) (HT.out.below (HB5.out.trans (hV.mono HB5.out.size))) hp
      have HBY := Lib.hid hby; have HQ9 := Lib.hid hq9; have HQ10 := Lib.hid hq10; have HP13 := Lib.hid hp13; have HPZ := Lib.hid hpz; have HSM := Lib.hid hsm
      clear hby hq9 hq10 hp13 hpz hp9 hsm
      obtain ⟨hx0, y1, y2, y3, y4, e1, e2, e3, e4, b1, b2, b3, b4, hys⟩ := fr_nums k s z HNK.out
      rw [← HX.out] at hx0 e1 e2 e3 e4
      have hcx : ∀ V, Below w5.heap.size w5 V → ∀ j, j < M → V.cell? ⟨gx, j, none⟩ = some (.int .u8 (X.getD j 0)) := fun V hV j hj => by
        obtain ⟨b, o, e, hc⟩ := (HP5.out.below hV).rd.at (by have := HP5.out.len; simp only at this ⊢; omega)
        cases e
        have := hc j (by have := HP5.out.len; simp only at this ⊢; omega)
        rwa [Nat.zero_add] at this
      have HCX := Lib.hid hcx; have HX0 := Lib.hid hx0; have HE := Lib.hid (And.intro e1 (And.intro e2 (And.intro e3 e4))); have HB4Y := Lib.hid (And.intro b1 (And.intro b2 (And.intro b3 b4))); have HYS := Lib.hid hys
      have HCELL := Lib.hid (fun V (hV : Below w5.heap.size w5 V) => (show V.cell? ⟨w.heap.size, 2, none⟩ = some (.slice da dn dc) from (HX5.out.below hV).cell (j := 2) (by simp)))
      have HBa := Lib.hid (((Below.refl w5.heap.size w5).alloc (Nat.le_refl _) (.cells #[.slice (some ⟨gx, 0, none⟩) 9 xc, .slice da dn dc] 27)).drew)
      have HBb := Lib.hid ((((Below.refl w5.heap.size w5).alloc (Nat.le_refl _) (.cells #[.slice (some ⟨gx, 0, none⟩) 9 xc, .slice da dn dc] 27)).alloc (by simp) (.cells #[.int .u8 0, .int .u8 0, .int .u8 0, .int .u8 0] 51)).drew)
      have HBc := Lib.hid ((((Below.refl w5.heap.size w5).alloc (Nat.le_refl _) (.cells #[.int .u8 0, .int .u8 0, .int .u8 0, .int .u8 0] 51)).alloc (by simp) (.cells #[.slice (some ⟨gx, 0, none⟩) 9 xc, .slice da dn dc] 27)).drew)
      have hpn := fun (V : World) (h9 : Part.ok V ⟨some ⟨gx, 0, none⟩, 9, xc, fhead k s dn⟩) (h10 : Part.ok V ⟨da, dn, dc, z⟩) => ps_new V [⟨some ⟨gx, 0, none⟩, 9, xc, fhead k s dn⟩, ⟨da, dn, dc, z⟩] 27 (fun r hr => by
        match r, hr with
        | 0, _ => exact h9
        | 1, _ => exact h10)
      have hz1 : Below w5.heap.size w5 (w5.alloc (.cells #[.int .u8 0, .int .u8 0, .int .u8 0, .int .u8 0] 51)) := (Below.refl _ _).alloc (Nat.le_refl _) _
      have HPa : Hid (Ps (w5.alloc (.cells #[.slice (some ⟨gx, 0, none⟩) 9 xc, .slice da dn dc] 27)).drew (some ⟨w5.heap.size, 0, none⟩) [⟨some ⟨gx, 0, none⟩, 9, xc, fhead k s dn⟩, ⟨da, dn, dc, z⟩]) := (hpn w5 HQ9.out HQ10.out).below (Below.refl _ _).drew
      have HPb : Hid (Ps ((w5.alloc (.cells #[.slice (some ⟨gx, 0, none⟩) 9 xc, .slice da dn dc] 27)).alloc (.cells #[.int .u8 0, .int .u8 0, .int .u8 0, .int .u8 0] 51)).drew (some ⟨w5.heap.size, 0, none⟩) [⟨some ⟨gx, 0, none⟩, 9, xc, fhead k s dn⟩, ⟨da, dn, dc, z⟩]) := (hpn w5 HQ9.out HQ10.out).below ((Below.refl _ _).alloc (Nat.le_refl _) _).drew
      have HPc : Hid (Ps ((w5.alloc (.cells #[.int .u8 0, .int .u8 0, .int .u8 0, .int .u8 0] 51)).alloc (.cells #[.slice (some ⟨gx, 0, none⟩) 9 xc, .slice da dn dc] 27)).drew (some ⟨w5.heap.size + 1, 0, none⟩) [⟨some ⟨gx, 0, none⟩, 9, xc, fhead k s dn⟩, ⟨da, dn, dc, z⟩]) := by
        have := (hpn _ (HQ9.out.below hz1) (HQ10.out.below hz1)).below (Below.refl _ _).drew
        rw [World.size_alloc] at this
        exact this
      have HZb : Hid (Blk ((w5.alloc (.cells #[.slice (some ⟨gx, 0, none⟩) 9 xc, .slice da dn dc] 27)).alloc (.cells #[.int .u8 0, .int .u8 0, .int .u8 0, .int .u8 0] 51)).drew (w5.heap.size + 1) 51 [.int .u8 0, .int .u8 0, .int .u8 0, .int .u8 0]) := by
        have := Blk.new (w5.alloc (.cells #[.slice (some ⟨gx, 0, none⟩) 9 xc, .slice da dn dc] 27)) [.int .u8 0, .int .u8 0, .int .u8 0, .int .u8 0] 51
        rw [World.size_alloc] at this
        exact this.drew
      have HZc : Hid (Blk ((w5.alloc (.cells #[.int .u8 0, .int .u8 0, .int .u8 0, .int .u8 0] 51)).alloc (.cells #[.slice (some ⟨gx, 0, none⟩) 9 xc, .slice da dn dc] 27)).drew w5.heap.size 51 [.int .u8 0, .int .u8 0, .int .u8 0, .int .u8 0]) :=
        ((Blk.new w5 [.int .u8 0, .int .u8 0, .int .u8 0, .int .u8 0] 51).alloc _).drew
      have hm4 : M ≤ 100000 := by have := HM.out; omega
      have HKT : Hid (∀ (f : Nat → Value) (V : World), Below w5.heap.size w5 V → f 5 = .slice (some ⟨gx, 0, none⟩) M xc → ptK f V gx M xc y1 y2 y3 y4) := fun f V hV f5 =>
        have c := fun V' (hV' : Below V.heap.size V V') => HCX.out V' (hV.trans (hV'.mono hV.size))
        ⟨HT.out.below (HB5.out.trans (hV.mono HB5.out.size)), f5, fun V' hV' => by rw [← HE.out.1]; exact c V' hV' 1 (by omega), fun V' hV' => by rw [← HE.out.2.1]; exact c V' hV' 2 (by omega), fun V' hV' => by rw [← HE.out.2.2.1]; exact c V' hV' 3 (by omega), fun V' hV' => by rw [← HE.out.2.2.2]; exact c V' hV' 4 (by omega),
          b1, b2, b3, b4, hM13, hm4, i64_or 24 _ _ (by omega) (by omega) (by omega) (by omega) (by omega) (by omega), i64_or 16 _ _ (by omega) (by omega) (by omega) (by omega) (by omega) (by omega), i64_or 8 _ _ (by omega) (by omega) (by omega) (by omega) (by omega) (by omega)⟩
      have HKE : Hid (∀ (f : Nat → Value) (gC : Nat) (V : World), Below w5.heap.size w5 V → Blk V gC 51 [.int .u8 (sm % 256), .int .u8 (sm / 256 % 256), .int .u8 (sm / 65536 % 256), .int .u8 (sm / 16777216)] → f 2 = .pointer (some ⟨w.heap.size, 0, none⟩) → f 5 = .slice (some ⟨gx, 0, none⟩) M xc → f 9 = .pointer (some ⟨gC, 0, none⟩) → f 10 = .int .i64 s →
          peK f V gx M xc w.heap.size gC k s da (some ⟨gx, 9, none⟩) (if xc = 13 then some ⟨gx, 0, none⟩ else some ⟨gx, 13, none⟩) dn dc 4 (xc - 9) (M - 13) (xc - 13)) := fun f gC V hV hC f2 f5 f9 f10 =>
        ⟨HT.out.below (HB5.out.trans (hV.mono HB5.out.size)), f2, f5, f9, f10, fun V' hV' => ((HX5.out.below hV).below hV').cell (j := 0) (by simp), fun V' hV' => ((HX5.out.below hV).below hV').cell (j := 1) (by simp), fun V' hV' => ((HX5.out.below hV).below hV').cell (j := 2) (by simp),
          fun V' hV' => by have := HCX.out V' (hV.trans (hV'.mono hV.size)) 0 (by omega); rw [HX0.out] at this; exact this,
          by have := HNK.out; unfold nok at this; omega, hM13, hm4, fun V => cutx913 gx M xc (by omega) V, fun V => cutx13 gx M xc hM13 hMx V, fun V => cut51 V gC,
          fun V' hV' => (bytes_cmp (some ⟨gx, 9, none⟩) (some ⟨gC, 0, none⟩) 4 4 (xc - 9) 4 (l4 sm) (l4 sm) V' rfl rfl (by decide)
            (by have := Rd.drop (((HP5.out.below hV).below hV').rd.take 13) 9
                rw [HP13.out] at this
                simpa using this) (Rd.block (zs := l4 sm) (hC.below hV'))).mono (by rintro e w' ⟨rfl, q', rfl⟩; exact ⟨by simp, below_drewN' _ _ _⟩),
          fun V' hV' => (bytes_cmp (if xc = 13 then some ⟨gx, 0, none⟩ else some ⟨gx, 13, none⟩) da (M - 13) dn (xc - 13) dc z z V' (by rw [HZL.out, HM.out]; omega) HZL.out (by unfold maxLen; omega)
            (by by_cases e : xc = 13
                · have : z = [] := List.eq_nil_of_length_eq_zero (by rw [HZL.out]; have := HM.out; omega)
                  exact .inl this
                · rw [if_neg e]
                  have := Rd.drop ((HP5.out.below hV).below hV').rd 13
                  rw [HPZ.out] at this
                  simpa using this) (HQ10.out.below (hV.trans (hV'.mono hV.size))).rd).mono (by rintro e w' ⟨rfl, q', rfl⟩; exact ⟨by simp, below_drewN' _ _ _⟩)⟩
      clear hx0 e1 e2 e3 e4 b1 b2 b3 b4 hys hcx hpn hz1
      go_wp2
      go_region_held3 (fun V => V.cell? ⟨w.heap.size, 2, none⟩ = some (.slice da dn dc)) ((refine HCELL.out _ ?_; first
          | exact (Below.refl _ _).drew
          | exact HBa.out | exact HBb.out | exact HBc.out
          | exact ((Below.refl _ _).alloc (Nat.le_refl _) _).drew
          | exact HB6.out | exact HB6.out.drew | exact HB6.out.alloc HB6.out.size _
          | exact below4 HB6.out _ (by omega) _ _ _ _))
        ((go_at_call 32; first
          | ((with_reducible refine (HBY.out _ _ HBa.out HPa.out).mono ?_); rintro e w6 ⟨rfl, hB6⟩; have HB6 : Hid (Below w5.heap.size w5 w6) := HBa.out.trans (hB6.mono HBa.out.size); clear hB6)
          | ((with_reducible refine (HBY.out _ _ HBb.out HPb.out).mono ?_); rintro e w6 ⟨rfl, hB6⟩; have HB6 : Hid (Below w5.heap.size w5 w6) := HBb.out.trans (hB6.mono HBb.out.size); have HK6 := Lib.hid (HZb.out.below hB6); have z0 : w6.cell? ⟨w5.heap.size + 1, 0, none⟩ = some (.int .u8 0) := HK6.out.cell (j := 0) (by simp); have z1 : w6.cell? ⟨w5.heap.size + 1, 1, none⟩ = some (.int .u8 0) := HK6.out.cell (j := 1) (by simp); have z2 : w6.cell? ⟨w5.heap.size + 1, 2, none⟩ = some (.int .u8 0) := HK6.out.cell (j := 2) (by simp); have z3 : w6.cell? ⟨w5.heap.size + 1, 3, none⟩ = some (.int .u8 0) := HK6.out.cell (j := 3) (by simp); have r0 := HK6.out.free (j := 0); have r1 := HK6.out.free (j := 1); have r2 := HK6.out.free (j := 2); have r3 := HK6.out.free (j := 3); clear hB6)
          | ((with_reducible refine (HBY.out _ _ HBc.out HPc.out).mono ?_); rintro e w6 ⟨rfl, hB6⟩; have HB6 : Hid (Below w5.heap.size w5 w6) := HBc.out.trans (hB6.mono HBc.out.size); have HK6 := Lib.hid (HZc.out.below hB6); have z0 : w6.cell? ⟨w5.heap.size, 0, none⟩ = some (.int .u8 0) := HK6.out.cell (j := 0) (by simp); have z1 : w6.cell? ⟨w5.heap.size, 1, none⟩ = some (.int .u8 0) := HK6.out.cell (j := 1) (by simp); have z2 : w6.cell? ⟨w5.heap.size, 2, none⟩ = some (.int .u8 0) := HK6.out.cell (j := 2) (by simp); have z3 : w6.cell? ⟨w5.heap.size, 3, none⟩ = some (.int .u8 0) := HK6.out.cell (j := 3) (by simp); have r0 := HK6.out.free (j := 0); have r1 := HK6.out.free (j := 1); have r2 := HK6.out.free (j := 2); have r3 := HK6.out.free (j := 3); clear hB6)))
      all_goals
        go_wp2
        have HBW : Hid (∀ u0 u1 u2 u3 : Value, Below w5.heap.size w5 (w6.alloc (.cells #[u0, u1, u2, u3] 51)) ∧ Below w5.heap.size w5 ((((w6.setCell ⟨w5.heap.size, 0, none⟩ u0).setCell ⟨w5.heap.size, 1, none⟩ u1).setCell ⟨w5.heap.size, 2, none⟩ u2).setCell ⟨w5.heap.size, 3, none⟩ u3) ∧ Below w5.heap.size w5 ((((w6.setCell ⟨w5.heap.size + 1, 0, none⟩ u0).setCell ⟨w5.heap.size + 1, 1, none⟩ u1).setCell ⟨w5.heap.size + 1, 2, none⟩ u2).setCell ⟨w5.heap.size + 1, 3, none⟩ u3)) := fun u0 u1 u2 u3 =>
          ⟨HB6.out.alloc HB6.out.size _, below4 HB6.out _ (Nat.le_refl _) _ _ _ _, below4 HB6.out _ (Nat.le_succ _) _ _ _ _⟩
        first
          | (refine ptbegin rfl (HKT.out _ _ (by with_reducible exact (HBW.out _ _ _ _).1) rfl) ?_
             intro v w9 hB9 h22
             have HB9 : Hid (Below w5.heap.size w5 w9) := (HBW.out _ _ _ _).1.trans (hB9.mono (HBW.out _ _ _ _).1.size)
             have HC9 := Lib.hid (Blk.below (Blk.new w6 [.int .u8 (sm % 256), .int .u8 (sm / 256 % 256), .int .u8 (sm / 65536 % 256), .int .u8 (sm / 16777216)] 51) hB9))
          | (refine ptbegin rfl (HKT.out _ _ (by with_reducible exact (HBW.out _ _ _ _).2.1) rfl) ?_
             intro v w9 hB9 h22
             have HB9 : Hid (Below w5.heap.size w5 w9) := (HBW.out _ _ _ _).2.1.trans (hB9.mono (HBW.out _ _ _ _).2.1.size)
             have HC9 := Lib.hid (Blk.below (blk4 HK6.out (.int .u8 (sm % 256)) (.int .u8 (sm / 256 % 256)) (.int .u8 (sm / 65536 % 256)) (.int .u8 (sm / 16777216))) hB9))
          | (refine ptbegin rfl (HKT.out _ _ (by with_reducible exact (HBW.out _ _ _ _).2.2) rfl) ?_
             intro v w9 hB9 h22
             have HB9 : Hid (Below w5.heap.size w5 w9) := (HBW.out _ _ _ _).2.2.trans (hB9.mono (HBW.out _ _ _ _).2.2.size)
             have HC9 := Lib.hid (Blk.below (blk4 HK6.out (.int .u8 (sm % 256)) (.int .u8 (sm / 256 % 256)) (.int .u8 (sm / 65536 % 256)) (.int .u8 (sm / 16777216))) hB9))
        rw [HYS.out] at h22
        have H22 := Lib.hid h22
        unfold ptF
        rw [H22.out]
        clear h22 hB9 HBW
        go_wp2
        refine pebegin rfl (HKE.out _ _ _ HB9.out HC9.out rfl rfl rfl rfl) ?_
        intro v w10 hB10 h29
        have HB10 : Hid (Below w.heap.size w w10) := HB5.out.trans ((HB9.out.trans (hB10.mono HB9.out.size)).mono HB5.out.size)
        have H29 := Lib.hid h29
        clear hB10 h29
        unfold peF
        rw [H29.out]
        go_wp2
        go_ret
        exact ⟨rfl, HB10.out⟩
    · have d1 : (v8 != 0) = true := by simpa using hn8
      have d2 : (v8 == 0) = false := by simpa using hn8
      clear hox
      go_wp2_with (go_at_call 24; refine HWK.out.mono ?_; rintro r w8 ⟨rfl, hB8⟩; have HB8 : Hid (Below w.heap.size w w8) := HB4.out.trans (hB8.mono HB4.out.size); clear hB8)
      go_ret
      exact ⟨rfl, HB8.out⟩
  · have d1 : (v6 != 0) = true := by simpa using hn6
    have d2 : (v6 == 0) = false := by simpa using hn6
    rcases hy with ⟨rfl, he2, gy, yc, rfl, hoy⟩ | ⟨hn8, rfl⟩
    · clear hoy
      go_wp2_with (go_at_call 24; refine HWK.out.mono ?_; rintro r w8 ⟨rfl, hB8⟩; have HB8 : Hid (Below w.heap.size w w8) := HB4.out.trans (hB8.mono HB4.out.size); clear hB8)
      go_ret
      exact ⟨rfl, HB8.out⟩
    · have d3 : (v8 != 0) = true := by simpa using hn8
      have d4 : (v8 == 0) = false := by simpa using hn8
      go_wp2_with (go_at_call 24; refine HWK.out.mono ?_; rintro r w8 ⟨rfl, hB8⟩; have HB8 : Hid (Below w.heap.size w w8) := HB4.out.trans (hB8.mono HB4.out.size); clear hB8)
      go_ret
      exact ⟨rfl, HB8.out⟩
end Go.Proofs.YtmbkgjiofkggcaaDoor
