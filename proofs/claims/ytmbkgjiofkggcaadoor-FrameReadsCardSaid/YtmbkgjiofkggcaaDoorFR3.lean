/-
  The document's ReadFrame, where the bytes suffice.
-/
import Derived.Test.YtmbkgjiofkggcaaDoorFR1
import Derived.Test.YtmbkgjiofkggcaaDoorFR2
import Derived.Test.YtmbkgjiofkggcaaDoorFP1
import Derived.Deep.Cut
namespace Go.Proofs.YtmbkgjiofkggcaaDoor
open Go.RowKit
set_option linter.unusedVariables false

theorem cells3f {w : World} {g T : Nat} {v0 v1 v2 : Value} (h : w.heap[g]? = some (.cells #[v0, v1, v2] T (0, 0))) : w.cell? ⟨g, 0, none⟩ = some v0 ∧ w.cell? ⟨g, 1, none⟩ = some v1 ∧ w.cell? ⟨g, 2, none⟩ = some v2 ∧ ∀ j, w.frozen? ⟨g, j, none⟩ = false :=
  ⟨by simp [World.cell?, h], by simp [World.cell?, h], by simp [World.cell?, h], fun j => by simp [World.frozen?, h]⟩
theorem store3 {w : World} {g T : Nat} {v0 v1 v2 : Value} (h : w.heap[g]? = some (.cells #[v0, v1, v2] T (0, 0))) (u0 u1 u2 : Value) : (((w.setCell ⟨g, 0, none⟩ u0).setCell ⟨g, 1, none⟩ u1).setCell ⟨g, 2, none⟩ u2).heap[g]? = some (.cells #[u0, u1, u2] T (0, 0)) := by
  have b2 := Go.Joins.block_setCell (i := 2) (Go.Joins.block_setCell (i := 1) (Go.Joins.block_setCell (i := 0) h u0) u1) u2
  simpa using b2
theorem ow_heap {w : World} {base n kc g : Nat} {ko : Option Addr} {z : List Int} (h : Ow w base ko n kc z) (e : ko = some ⟨g, 0, none⟩) : ∃ cur, w.heap[g]? = some (.cells cur 5 (0, 0)) := by
  rcases h.2.2.2.2 with ⟨q, _⟩ | ⟨g', cap, cur, q, _, hh, _⟩
  · simp only [Value.slice.injEq] at q; rw [q.1] at e; cases e
  · simp only [Value.slice.injEq] at q
    rw [q.1] at e
    simp only [Option.some.injEq, Addr.mk.injEq, and_true] at e
    subst e
    exact ⟨cur, hh⟩
theorem below3 {B g : Nat} {a w : World} (h : Below B a w) (hg : B ≤ g) (u0 u1 u2 : Value) : Below B a (((w.setCell ⟨g, 0, none⟩ u0).setCell ⟨g, 1, none⟩ u1).setCell ⟨g, 2, none⟩ u2) := ((h.setCell hg u0).setCell hg u1).setCell hg u2
set_option maxHeartbeats 4000000 in
theorem rread_full (b o len cap a : Nat) (zs : List Int) (w : World) (hl : zs.length = len) (hlc : len ≤ cap) (hm : len ≤ 1000000000) (hcm : cap ≤ maxLen) (hr : Rd w (some ⟨b, o, none⟩) zs) (hz : Bts zs) (h : a + 13 ≤ len) :
    Calls Tryd.prog 27 #[.slice (some ⟨b, o, none⟩) len cap, .int .i64 (a : Int)] w (FRD w zs a) := by
  have d1 : decide ((a : Int) < 0) = false := decide_eq_false (by omega)
  have d2 : decide ((len : Int) < (a : Int)) = false := decide_eq_false (by omega)
  have d2' : decide (len < a) = false := decide_eq_false (by omega)
  have d3 : decide ((len : Int) - (a : Int) < 13) = false := decide_eq_false (by omega)
  unfold maxLen at hcm
  have i1 : (0 : Int) ≤ (a : Int) := by omega
  have i2 : (a : Int) < (len : Int) := by omega
  have i3 : (0 : Int) ≤ (a : Int) + 1 := by omega
  have i4 : (a : Int) + 1 ≤ (a : Int) + 5 := by omega
  have i5 : (a : Int) + 5 ≤ (cap : Int) := by omega
  have hca : ¬ cap = a + 1 := by omega
  obtain ⟨W0, hW0⟩ : ∃ W0, W0 = w.alloc (.cells #[.int .i64 0, .int .i64 0, .slice none 0 0] 29) := ⟨_, rfl⟩
  have hB0 : Below w.heap.size w W0 := by rw [hW0]; exact (Below.refl _ _).alloc (Nat.le_refl _) _
  obtain ⟨c, hc⟩ : ∃ c, c = zs.getD a 0 := ⟨_, rfl⟩
  have hcell : ∀ V, Below w.heap.size w V → V.cell? ⟨b, o + a, none⟩ = some (.int .u8 c) := fun V hV => by
    obtain ⟨b', o', e, hcc⟩ := (hr.below hV).at (by omega)
    cases e
    rw [hc]; exact hcc a (by omega)
  have hnum := fun V (hV : Below w.heap.size w V) => rnum1_ok b (o + (a + 1)) (((a : Int) + 5).toNat - (a + 1)) (cap - (a + 1)) ((zs.drop (a + 1)).take 4) V (by rw [List.length_take, List.length_drop]; omega) (by omega) (by unfold maxLen; omega) (fun j hj => by
    obtain ⟨b', o', e, hcc⟩ := (hr.below hV).at (by omega)
    cases e
    have := hcc (a + 1 + j) (by omega)
    rw [show o + (a + 1) + j = o + (a + 1 + j) by omega, this]
    simp [List.getD, show j < 4 by omega, List.getElem?_drop]) ((hz.drop _).take _) (by omega)
  have hnum2 := fun V (hV : Below w.heap.size w V) => rnum1_ok b (o + (a + 5)) 4 (cap - (a + 5)) ((zs.drop (a + 5)).take 4) V (by rw [List.length_take, List.length_drop]; omega) (by omega) (by unfold maxLen; omega) (fun j hj => by
    obtain ⟨b', o', e, hcc⟩ := (hr.below hV).at (by omega)
    cases e
    have := hcc (a + 5 + j) (by omega)
    rw [show o + (a + 5) + j = o + (a + 5 + j) by omega, this]
    simp [List.getD, show j < 4 by omega, List.getElem?_drop]) ((hz.drop _).take _) (by omega)
  have HNN := Lib.hid hnum2
  clear hnum2
  have HCB := Lib.hid (show 0 ≤ c ∧ c ≤ 255 by rw [hc]; exact hz a (by omega))
  have hck : c = rk (zs.drop a) := by
    have h1 : (zs.drop a).getD 0 0 = c := by rw [hc]; simp [List.getD, List.getElem?_drop]
    have h2 := hz a (by omega)
    rw [← hc] at h2
    unfold rk
    rw [num_take _ 0 (by rw [List.length_drop]; omega), h1]
    simp [num]; omega
  have HCK := Lib.hid hck
  clear hck
  have HC := Lib.hid hcell; have HN := Lib.hid hnum; have HW0 := Lib.hid hW0; have HB0 := Lib.hid hB0; have HL := Lib.hid hl; have HR := Lib.hid hr; have HZ := Lib.hid hz
  clear hcell hnum hW0 hB0 hl hr hz hc
  go_enter Tryd.func27, Tryd.ntmps27
  go_wp2
  rw [← HW0.out]
  have i6 : (a : Int) + 5 ≤ (len : Int) := by omega
  have hwr1 : IntKind.i64.wrap ((a : Int) + 1) = (a : Int) + 1 := i64w _ (by omega) (by omega)
  have hwr5 : IntKind.i64.wrap ((a : Int) + 5) = (a : Int) + 5 := i64w _ (by omega) (by omega)
  have hcb : 0 ≤ c ∧ c ≤ 255 := HCB.out
  obtain ⟨hc0, hc1⟩ := hcb
  have hwc : IntKind.i64.wrap c = c := i64w _ (by omega) (by omega)
  go_region_held3 (fun V => V.cell? ⟨b, o + a, none⟩ = some (.int .u8 c)) ((refine HC.out _ ?_; first | exact HB0.out | exact HB0.out.drew | exact (HB0.out.alloc HB0.out.size _).drew | exact HB0.out.alloc HB0.out.size _))
    ((go_at_call 48; first
      | ((with_reducible refine (HN.out W0.drew HB0.out.drew).mono ?_); rintro e w1 ⟨rfl, rfl⟩)
      | ((with_reducible refine (HN.out _ (HB0.out.alloc HB0.out.size (.cells #[.int .i64 0, .int .i64 0, .slice none 0 0] 29)).drew).mono ?_); rintro e w1 ⟨rfl, rfl⟩)
      | (trace_state; fail)))
  all_goals
    obtain ⟨s0, hs0⟩ : ∃ s0 : Int, s0 = ((num ((zs.drop (a + 1)).take 4) : Nat) : Int) := ⟨_, rfl⟩
    rw [← hs0]
    first
      | (obtain ⟨W1, hW1⟩ : ∃ W1, W1 = (W0.alloc (.cells #[.int .i64 c, .int .i64 s0, .slice none 0 0] 29)).drew := ⟨_, rfl⟩
         rw [← hW1]
         have hb1 : Below W0.heap.size W0 W1 := by rw [hW1]; exact ((Below.refl _ _).alloc (Nat.le_refl _) _).drew
         have hk1 : Blk W1 W0.heap.size 29 [.int .i64 c, .int .i64 s0, .slice none 0 0] := by rw [hW1]; exact Blk.new W0 [.int .i64 c, .int .i64 s0, .slice none 0 0] 29)
    have HB1 : Hid (Below w.heap.size w W1) := HB0.out.trans (hb1.mono HB0.out.size)
    have hx1 : W1.heap[w.heap.size]? = some (.cells #[.int .i64 0, .int .i64 0, .slice none 0 0] 29 (0, 0)) := by rw [hb1.block _ (by rw [HW0.out]; simp), HW0.out]; exact heap_alloc_new _ _
    have HX1 := Lib.hid hx1; have HK1 := Lib.hid hk1; have HS0 := Lib.hid hs0
    have HN2 := Lib.hid (HNN.out W1 HB1.out)
    obtain ⟨n, hn⟩ : ∃ n, n = num ((zs.drop (a + 5)).take 4) := ⟨_, rfl⟩
    rw [← hn] at HN2
    have HNE := Lib.hid hn
    clear hb1 hk1 hs0 hW1 hn hx1
    have j3 : (0 : Int) ≤ (a : Int) + 5 := by omega
    have j4 : (a : Int) + 5 ≤ (a : Int) + 9 := by omega
    have j5 : (a : Int) + 9 ≤ (cap : Int) := by omega
    have j6 : ¬ cap = a + 5 := by omega
    have HX : Hid (W1.heap[w.heap.size]? = some (.cells #[.int .i64 0, .int .i64 0, .slice none 0 0] 29 (0, 0))) := HX1.out
    have HY : Hid (W1.heap[W0.heap.size]? = some (.cells #[.int .i64 c, .int .i64 s0, .slice none 0 0] 29 (0, 0))) := HK1.out
    obtain ⟨ys, hys⟩ : ∃ ys, ys = zs.drop a := ⟨_, rfl⟩
    have hyl : ys.length = len - a := by rw [hys, List.length_drop, HL.out]
    have hyk : c = rk ys := HCK.out.trans (by rw [hys])
    have hysq : s0 = rs' ys := by rw [HS0.out, hys]; unfold rs'; rw [List.drop_drop]
    have hyn : n = rn ys := by rw [HNE.out, hys]; unfold rn; rw [List.drop_drop]
    have HYS := Lib.hid hys; have HYL := Lib.hid hyl; have HYK := Lib.hid hyk; have HYQ := Lib.hid hysq; have HYN := Lib.hid hyn
    clear hys hyl hyk hysq hyn HN HNN HS0
    go_upto_region 6 with (fail)
    go_wp2_with (go_at_call 48; fail)
    refine HN2.out.mono ?_
    rintro e w2 ⟨rfl, rfl⟩
    have HBV := HB1
    by_cases hbig : 8000 < n
    · have q1 : decide ((8000 : Int) < (n : Int)) = true := decide_eq_true (by omega)
      have q1' : decide (8000 < n) = true := decide_eq_true hbig
      have HE : Hid (rer (zs.drop a) = 3) := by
        show rer (zs.drop a) = 3
        rw [← HYS.out]; unfold rer
        rw [if_neg (by rw [HYL.out]; omega), if_pos (.inr (.inl (by rw [← HYN.out]; exact hbig)))]
      clear hbig
      have HX3 := Lib.hid (store3 HX.out (.int .i64 0) (.int .i64 0) (.slice none 0 0))
      obtain ⟨x0, x1, x2, xf⟩ := cells3f HX.out
      obtain ⟨f0, f1, f2, _⟩ := cells3f HX3.out
      go_wp2
      refine bodyPost_ret (v := .tuple #[.agg #[.int .i64 0, .int .i64 0, .slice none 0 0], .int .i64 0, .int .i64 3]) (by simp [results, Tryd.results27, go_sem, f0, f1, f2]) rfl ?_
      have he := HE.out
      refine .inr (.inr ⟨by rw [HL.out]; omega, by rw [Int.toNat_natCast, he]; decide, by rw [Int.toNat_natCast, he], ?_⟩)
      first | exact HBV.out | exact below3 HBV.out (Nat.le_refl _) _ _ _
    have q1 : decide ((8000 : Int) < (n : Int)) = false := decide_eq_false (by omega)
    have q1' : decide (8000 < n) = false := decide_eq_false hbig
    by_cases hsh : len < a + 13 + n
    · have q2 : decide ((len : Int) - (a : Int) - 13 < (n : Int)) = true := decide_eq_true (by omega)
      have HE : Hid (rer (zs.drop a) = 3) := by
        show rer (zs.drop a) = 3
        rw [← HYS.out]; unfold rer
        rw [if_neg (by rw [HYL.out]; omega), if_pos (.inr (.inr (by rw [← HYN.out, HYL.out]; omega)))]
      clear hsh hbig
      have HX3 := Lib.hid (store3 HX.out (.int .i64 0) (.int .i64 0) (.slice none 0 0))
      obtain ⟨x0, x1, x2, xf⟩ := cells3f HX.out
      obtain ⟨f0, f1, f2, _⟩ := cells3f HX3.out
      go_wp2
      refine bodyPost_ret (v := .tuple #[.agg #[.int .i64 0, .int .i64 0, .slice none 0 0], .int .i64 0, .int .i64 3]) (by simp [results, Tryd.results27, go_sem, f0, f1, f2]) rfl ?_
      have he := HE.out
      refine .inr (.inr ⟨by rw [HL.out]; omega, by rw [Int.toNat_natCast, he]; decide, by rw [Int.toNat_natCast, he], ?_⟩)
      first | exact HBV.out | exact below3 HBV.out (Nat.le_refl _) _ _ _
    have q2 : decide ((len : Int) - (a : Int) - 13 < (n : Int)) = false := decide_eq_false (by omega)
    have hrc := rrec_any ⟨c, s0, ⟨none, 0, 0, []⟩⟩ W1
    by_cases hnk : nok c s0
    · rw [show chk c s0 0 = 0 by unfold chk; rw [if_pos hnk, if_pos (by decide)]] at hrc
      have HRC := Lib.hid hrc; have HNK := Lib.hid hnk
      have hzl : ((zs.drop (a + 13)).take n).length = n := by rw [List.length_take, List.length_drop, HL.out]; omega
      obtain ⟨z, hz⟩ : ∃ z, z = (zs.drop (a + 13)).take n := ⟨_, rfl⟩
      rw [← hz] at hzl
      have hyz : z = rz ys := by rw [hz, HYS.out]; unfold rz; rw [List.drop_drop, ← HYS.out, ← HYN.out]
      have hzb : Bts z := by rw [hz]; exact (HZ.out.drop _).take _
      have HZL := Lib.hid hzl; have HYZ := Lib.hid hyz; have HZB := Lib.hid hzb; have HZZ := Lib.hid hz
      obtain ⟨y0, y1, y2, _⟩ := cells3f HY.out
      clear hrc hnk hzl hyz hzb hz
      go_wp2_with (go_at_call 16; fail)
      refine HRC.out.mono ?_
      rintro e w2 ⟨rfl, hB2⟩
      have HX2 : Hid (w2.heap[w.heap.size]? = some (.cells #[.int .i64 0, .int .i64 0, .slice none 0 0] 29 (0, 0))) := by
        show w2.heap[w.heap.size]? = _
        rw [hB2.block _ (Array.getElem?_eq_some_iff.1 HX.out).1]; exact HX.out
      have HY2 : Hid (w2.heap[W0.heap.size]? = some (.cells #[.int .i64 c, .int .i64 s0, .slice none 0 0] 29 (0, 0))) := by
        show w2.heap[W0.heap.size]? = _
        rw [hB2.block _ (Array.getElem?_eq_some_iff.1 HY.out).1]; exact HY.out
      have HBV2 := Lib.hid (HBV.out.trans (hB2.mono HBV.out.size))
      clear HX HY HBV hB2 y0 y1 y2 HK1 HX1
      have HX := HX2; have HY := HY2; have HBV := HBV2
      have w13 : IntKind.i64.wrap ((a : Int) + 13) = (a : Int) + 13 := i64w _ (by omega) (by omega)
      have w13n : IntKind.i64.wrap ((a : Int) + 13 + (n : Int)) = (a : Int) + 13 + (n : Int) := i64w _ (by omega) (by omega)
      have k1 : (0 : Int) ≤ (a : Int) + 13 := by omega
      have k2 : (a : Int) + 13 ≤ (a : Int) + 13 + (n : Int) := by omega
      have k3 : (a : Int) + 13 + (n : Int) ≤ (cap : Int) := by omega
      have k4 : (a : Int) ≤ (a : Int) + 13 + (n : Int) := by omega
      have k5 : ¬ cap = a := by omega
      have htw : ∀ V, Below w.heap.size w V → ∃ q cc, q = (if cap = a + 13 then o else o + (a + 13)) ∧ cc = (if cap = a + 13 then 0 else cap - (a + 13)) ∧ Calls Tryd.prog 25 #[.slice (some ⟨b, q, none⟩) n cc] V (R1 V n z) := fun V hV => by
        by_cases hcp : cap = a + 13
        · have hn0 : n = 0 := by omega
          have hz0 : z = [] := List.eq_nil_of_length_eq_zero (by rw [HZL.out]; exact hn0)
          rw [if_pos hcp]
          exact ⟨_, _, rfl, rfl, twin_any _ _ _ _ V HZL.out (by omega) (by rw [hz0]; exact Rd.nil _ _) (fun h => by cases h)⟩
        · rw [if_neg hcp]
          exact ⟨_, _, rfl, rfl, twin_any _ _ _ _ V HZL.out (by omega) (by rw [HZZ.out]; exact ((HR.out.below hV).drop _).take _) (fun h => by cases h)⟩
      obtain ⟨sb, hsb⟩ : ∃ sb : Bool, sb = decide (fr c s0 z = ys.take (13 + n)) := ⟨_, rfl⟩
      have HSB := Lib.hid hsb
      obtain ⟨y0, y1, y2, yf⟩ := cells3f HY.out
      obtain ⟨qq, cc, hqq, hcc, hcall⟩ := htw w2 HBV.out
      have HTW := Lib.hid hcall
      by_cases hcp : cap = a + 13
      · rw [if_pos hcp] at hqq hcc
        rw [hqq, hcc] at HTW
        have hn0 : n = 0 := by omega
        clear htw hcall hsb hqq hcc
        subst hn0
        have k6 : (a : Int) ≤ (a : Int) + 13 := by omega
        have k7 : a ≤ a + 13 := by omega
        have k8 : IntKind.i64.wrap ((a : Int) + 13 + 0) = (a : Int) + 13 := by rw [Int.add_zero]; exact w13
        go_wp2_with (go_at_call 25; fail)
        refine HTW.out.mono ?_
        rintro e w3 ⟨ka, kc, rfl, ho3, hB3⟩
        have hxl := (Array.getElem?_eq_some_iff.1 HX.out).1
        have hyl := (Array.getElem?_eq_some_iff.1 HY.out).1
        have u0 : w3.heap[w.heap.size]? = some (.cells #[.int .i64 0, .int .i64 0, .slice none 0 0] 29 (0, 0)) := by rw [hB3.block _ hxl]; exact HX.out
        have u1 : w3.heap[W0.heap.size]? = some (.cells #[.int .i64 c, .int .i64 s0, .slice none 0 0] 29 (0, 0)) := by rw [hB3.block _ hyl]; exact HY.out
        have hb3 : Below w.heap.size w w3 := HBV.out.trans (hB3.mono HBV.out.size)
        have hne : w.heap.size ≠ W0.heap.size := by rw [HW0.out]; simp
        obtain ⟨W4, hW4⟩ : ∃ W4, W4 = w3.setCell ⟨W0.heap.size, 2, none⟩ (.slice ka 0 kc) := ⟨_, rfl⟩
        have v1 : W4.heap[W0.heap.size]? = some (.cells #[.int .i64 c, .int .i64 s0, .slice ka 0 kc] 29 (0, 0)) := by
          have := Go.Joins.block_setCell (i := 2) u1 (.slice ka 0 kc)
          rw [hW4]; simpa using this
        have v0 : W4.heap[w.heap.size]? = some (.cells #[.int .i64 0, .int .i64 0, .slice none 0 0] 29 (0, 0)) := by rw [hW4, set_far _ _ _ _ _ hne]; exact u0
        have b4 : Below w.heap.size w W4 := by rw [hW4]; exact hb3.setCell HB0.out.size _
        have hlow : Ow w3 w.heap.size ka 0 kc z := ho3.base HBV.out.size
        have hlow4 : Ow W4 w.heap.size ka 0 kc z := by
          rw [hW4]
          exact hlow.heap fun g e => set_far _ _ _ _ _ (by
            have := own_ge ho3.2.2.2 g (by rw [e]; rfl)
            omega)
        have o4 : Part.ok W4 ⟨ka, 0, kc, z⟩ := hlow4.part HZB.out
        have hcel : ∀ V, Below W4.heap.size W4 V → V.cell? ⟨W0.heap.size, 0, none⟩ = some (.int .i64 c) ∧ V.cell? ⟨W0.heap.size, 1, none⟩ = some (.int .i64 s0) ∧ V.cell? ⟨W0.heap.size, 2, none⟩ = some (.slice ka 0 kc) := fun V hV => by
          have : V.heap[W0.heap.size]? = some (.cells #[.int .i64 c, .int .i64 s0, .slice ka 0 kc] 29 (0, 0)) := by rw [hV.block _ (Array.getElem?_eq_some_iff.1 v1).1]; exact v1
          obtain ⟨e0, e1, e2, _⟩ := cells3f this
          exact ⟨e0, e1, e2⟩
        have hfr : ∀ V, Below W4.heap.size W4 V → Calls Tryd.prog 20 #[.agg #[.int .i64 c, .int .i64 s0, .slice ka 0 kc]] V (R1 V (13 + 0) (fr c s0 z)) := fun V hV =>
          rframe_ok ⟨c, s0, ⟨ka, 0, kc, z⟩⟩ V HNK.out (by show 0 ≤ 8000; omega) (o4.below hV)
        have hbc : ∀ V kf cf m1 m2 c2, Below W4.heap.size W4 V → Ow V W4.heap.size kf (13 + 0) cf (fr c s0 z) → m1 = 13 + 0 → m2 = 13 + 0 → Calls Tryd.prog 19 #[.slice kf m1 cf, .slice (some ⟨b, o + a, none⟩) m2 c2] V fun e w' => e = .returned (.bool sb) ∧ Below V.heap.size V w' := fun V kf cf m1 m2 c2 hV hO e1 e2 => by
          subst e1; subst e2
          have h1 := bytes_cmp kf (some ⟨b, o + a, none⟩) (13 + 0) (13 + 0) cf c2 (fr c s0 z) (ys.take (13 + 0)) V hO.1 (by rw [List.length_take, HYL.out]; omega) (by unfold maxLen; omega) hO.rd (by rw [HYS.out]; exact ((HR.out.below (b4.trans (hV.mono b4.size))).drop _).take _)
          rw [← HSB.out] at h1
          exact h1.mono fun e w' ⟨he, q, hq⟩ => ⟨he, by rw [hq]; exact below_drewN (Below.refl _ _) q⟩
        have HCEL := Lib.hid hcel; have HFR := Lib.hid hfr; have HBC := Lib.hid hbc; have V0 := Lib.hid v0; have V1 := Lib.hid v1; have B4 := Lib.hid b4; have HW4 := Lib.hid hW4; have OL := Lib.hid hlow4
        clear yf y0 y1 y2 HX HY HTW
        obtain ⟨y0, y1, y2, yf⟩ := cells3f u1
        clear ho3 hB3 hxl hyl u0 u1 hb3 hne v1 v0 b4 o4 hlow hlow4 hcel hfr hbc hW4
        go_upto_region 10 with (fail)
        rw [← HW4.out]
        clear y0 y1 y2 yf
        have HBR : Hid (Below W4.heap.size W4 W4.drew) := (Below.refl _ _).drew
        go_region_held3 (fun V => V.cell? ⟨W0.heap.size, 0, none⟩ = some (.int .i64 c) ∧ V.cell? ⟨W0.heap.size, 1, none⟩ = some (.int .i64 s0) ∧ V.cell? ⟨W0.heap.size, 2, none⟩ = some (.slice ka 0 kc)) (exact HCEL.out _ HBR.out)
          ((first
            | (go_at_call 20; (with_reducible refine (HFR.out _ HBR.out).mono ?_); rintro e w5 ⟨kf, cf, rfl, hof, hBn⟩; have HBN := Lib.hid (HBR.out.trans (hBn.mono HBR.out.size)); have HOF := Lib.hid (hof.base HBR.out.size); clear HBR hBn hof; have HBR := Lib.hid HBN.out; clear HBN)
            | (go_at_call 19; (with_reducible refine (HBC.out _ _ _ _ _ _ HBR.out HOF.out (by omega) (by omega)).mono ?_); rintro e w6 ⟨rfl, hBn⟩; have HBN := Lib.hid (HBR.out.trans (hBn.mono HBR.out.size)); clear HBR hBn; have HBR := Lib.hid HBN.out; clear HBN)))
        rename_i hheld
        clear hheld
        obtain ⟨WN, hWN⟩ : ∃ WN, WN = w6 := ⟨_, rfl⟩
        rw [← hWN] at HBR ⊢
        have t0 : WN.heap[w.heap.size]? = some (.cells #[.int .i64 0, .int .i64 0, .slice none 0 0] 29 (0, 0)) := by rw [HBR.out.block _ (Array.getElem?_eq_some_iff.1 V0.out).1]; exact V0.out
        have t1 : WN.heap[W0.heap.size]? = some (.cells #[.int .i64 c, .int .i64 s0, .slice ka 0 kc] 29 (0, 0)) := by rw [HBR.out.block _ (Array.getElem?_eq_some_iff.1 V1.out).1]; exact V1.out
        have HB7 := Lib.hid (B4.out.trans (HBR.out.mono B4.out.size)); have OL7 := Lib.hid (OL.out.below HBR.out); have HT0 := Lib.hid t0
        clear HCEL HFR HBC hWN
        obtain ⟨x0, x1, x2, xf⟩ := cells3f t0
        obtain ⟨y0, y1, y2, _⟩ := cells3f t1
        have hyl' : 13 + rn ys ≤ ys.length := by have := HYN.out; rw [HYL.out]; omega
        have hfb := frame_back ys (by rw [HYS.out]; exact HZ.out.drop _) hyl'
        have hnk := HNK.out
        rw [HYK.out, HYQ.out] at hnk
        have hrer : rer ys = if sb = true then 0 else 4 := by
          have h2 := HSB.out
          rw [HYK.out, HYQ.out, HYZ.out, HYN.out] at h2
          unfold rer
          rw [if_neg (by omega), if_neg (by
            rintro (h | h | h)
            · exact h hnk
            · have := HYN.out; omega
            · omega)]
          by_cases he : fr (rk ys) (rs' ys) (rz ys) = ys.take (13 + rn ys)
          · rw [if_pos (hfb.1 he), h2, decide_eq_true he, if_pos rfl]
          · rw [if_neg (fun hh => he (hfb.2 hh)), h2, decide_eq_false he]; rfl
        have HRER := Lib.hid hrer
        clear hfb hnk hrer hyl' t0 t1
        cases sb with
        | true =>
          have HX3 := Lib.hid (store3 HT0.out (.int .i64 c) (.int .i64 s0) (.slice ka 0 kc))
          obtain ⟨f0, f1, f2, _⟩ := cells3f HX3.out
          have hof : Ow (((WN.setCell ⟨w.heap.size, 0, none⟩ (.int .i64 c)).setCell ⟨w.heap.size, 1, none⟩ (.int .i64 s0)).setCell ⟨w.heap.size, 2, none⟩ (.slice ka 0 kc)) w.heap.size ka 0 kc z := OL7.out.heap fun g e => by
            have hg : g ≠ w.heap.size := by
              rintro rfl
              obtain ⟨cur, hcur⟩ := ow_heap OL7.out e
              rw [HT0.out] at hcur
              simp only [Option.some.injEq, Obj.cells.injEq] at hcur
              exact absurd hcur.2.1 (by decide)
            rw [set_far _ _ _ _ _ hg, set_far _ _ _ _ _ hg, set_far _ _ _ _ _ hg]
          have HOF2 := Lib.hid hof
          clear hof
          go_wp2
          refine bodyPost_ret (v := .tuple #[.agg #[.int .i64 c, .int .i64 s0, .slice ka 0 kc], .int .i64 ((a : Int) + 13 + 0), .int .i64 0]) (by simp [results, Tryd.results27, go_sem, f0, f1, f2]) rfl ?_
          refine .inr (.inl ⟨by rw [HL.out]; omega, ?_, ?_⟩)
          · rw [Int.toNat_natCast, ← HYS.out, HRER.out]; rfl
          · rw [Int.toNat_natCast, ← HYS.out, ← HYK.out, ← HYQ.out, ← HYZ.out, ← HYN.out]
            exact ⟨ka, kc, rfl, HOF2.out, below3 HB7.out (Nat.le_refl _) _ _ _⟩
        | false =>
          have HX3 := Lib.hid (store3 HT0.out (.int .i64 0) (.int .i64 0) (.slice none 0 0))
          obtain ⟨f0, f1, f2, _⟩ := cells3f HX3.out
          go_wp2
          refine bodyPost_ret (v := .tuple #[.agg #[.int .i64 0, .int .i64 0, .slice none 0 0], .int .i64 0, .int .i64 4]) (by simp [results, Tryd.results27, go_sem, f0, f1, f2]) rfl ?_
          have he : rer ys = 4 := by rw [HRER.out]; rfl
          refine .inr (.inr ⟨by rw [HL.out]; omega, by rw [Int.toNat_natCast, ← HYS.out, he]; decide, by rw [Int.toNat_natCast, ← HYS.out, he], ?_⟩)
          first | exact HB7.out | exact below3 HB7.out (Nat.le_refl _) _ _ _
      · rw [if_neg hcp] at hqq hcc
        rw [hqq, hcc] at HTW
        clear htw hcall hsb hqq hcc
        go_wp2_with (go_at_call 25; fail)
        refine HTW.out.mono ?_
        rintro e w3 ⟨ka, kc, rfl, ho3, hB3⟩
        have hxl := (Array.getElem?_eq_some_iff.1 HX.out).1
        have hyl := (Array.getElem?_eq_some_iff.1 HY.out).1
        have u0 : w3.heap[w.heap.size]? = some (.cells #[.int .i64 0, .int .i64 0, .slice none 0 0] 29 (0, 0)) := by rw [hB3.block _ hxl]; exact HX.out
        have u1 : w3.heap[W0.heap.size]? = some (.cells #[.int .i64 c, .int .i64 s0, .slice none 0 0] 29 (0, 0)) := by rw [hB3.block _ hyl]; exact HY.out
        have hb3 : Below w.heap.size w w3 := HBV.out.trans (hB3.mono HBV.out.size)
        have hne : w.heap.size ≠ W0.heap.size := by rw [HW0.out]; simp
        obtain ⟨W4, hW4⟩ : ∃ W4, W4 = w3.setCell ⟨W0.heap.size, 2, none⟩ (.slice ka n kc) := ⟨_, rfl⟩
        have v1 : W4.heap[W0.heap.size]? = some (.cells #[.int .i64 c, .int .i64 s0, .slice ka n kc] 29 (0, 0)) := by
          have := Go.Joins.block_setCell (i := 2) u1 (.slice ka n kc)
          rw [hW4]; simpa using this
        have v0 : W4.heap[w.heap.size]? = some (.cells #[.int .i64 0, .int .i64 0, .slice none 0 0] 29 (0, 0)) := by rw [hW4, set_far _ _ _ _ _ hne]; exact u0
        have b4 : Below w.heap.size w W4 := by rw [hW4]; exact hb3.setCell HB0.out.size _
        have hlow : Ow w3 w.heap.size ka n kc z := ho3.base HBV.out.size
        have hlow4 : Ow W4 w.heap.size ka n kc z := by
          rw [hW4]
          exact hlow.heap fun g e => set_far _ _ _ _ _ (by
            have := own_ge ho3.2.2.2 g (by rw [e]; rfl)
            omega)
        have o4 : Part.ok W4 ⟨ka, n, kc, z⟩ := hlow4.part HZB.out
        have hcel : ∀ V, Below W4.heap.size W4 V → V.cell? ⟨W0.heap.size, 0, none⟩ = some (.int .i64 c) ∧ V.cell? ⟨W0.heap.size, 1, none⟩ = some (.int .i64 s0) ∧ V.cell? ⟨W0.heap.size, 2, none⟩ = some (.slice ka n kc) := fun V hV => by
          have : V.heap[W0.heap.size]? = some (.cells #[.int .i64 c, .int .i64 s0, .slice ka n kc] 29 (0, 0)) := by rw [hV.block _ (Array.getElem?_eq_some_iff.1 v1).1]; exact v1
          obtain ⟨e0, e1, e2, _⟩ := cells3f this
          exact ⟨e0, e1, e2⟩
        have hfr : ∀ V, Below W4.heap.size W4 V → Calls Tryd.prog 20 #[.agg #[.int .i64 c, .int .i64 s0, .slice ka n kc]] V (R1 V (13 + n) (fr c s0 z)) := fun V hV =>
          rframe_ok ⟨c, s0, ⟨ka, n, kc, z⟩⟩ V HNK.out (by show n ≤ 8000; omega) (o4.below hV)
        have hbc : ∀ V kf cf m1 m2 c2, Below W4.heap.size W4 V → Ow V W4.heap.size kf (13 + n) cf (fr c s0 z) → m1 = 13 + n → m2 = 13 + n → Calls Tryd.prog 19 #[.slice kf m1 cf, .slice (some ⟨b, o + a, none⟩) m2 c2] V fun e w' => e = .returned (.bool sb) ∧ Below V.heap.size V w' := fun V kf cf m1 m2 c2 hV hO e1 e2 => by
          subst e1; subst e2
          have h1 := bytes_cmp kf (some ⟨b, o + a, none⟩) (13 + n) (13 + n) cf c2 (fr c s0 z) (ys.take (13 + n)) V hO.1 (by rw [List.length_take, HYL.out]; omega) (by unfold maxLen; omega) hO.rd (by rw [HYS.out]; exact ((HR.out.below (b4.trans (hV.mono b4.size))).drop _).take _)
          rw [← HSB.out] at h1
          exact h1.mono fun e w' ⟨he, q, hq⟩ => ⟨he, by rw [hq]; exact below_drewN (Below.refl _ _) q⟩
        have HCEL := Lib.hid hcel; have HFR := Lib.hid hfr; have HBC := Lib.hid hbc; have V0 := Lib.hid v0; have V1 := Lib.hid v1; have B4 := Lib.hid b4; have HW4 := Lib.hid hW4; have OL := Lib.hid hlow4
        clear yf y0 y1 y2 HX HY HTW
        obtain ⟨y0, y1, y2, yf⟩ := cells3f u1
        clear ho3 hB3 hxl hyl u0 u1 hb3 hne v1 v0 b4 o4 hlow hlow4 hcel hfr hbc hW4
        go_upto_region 10 with (fail)
        rw [← HW4.out]
        clear y0 y1 y2 yf
        have HBR : Hid (Below W4.heap.size W4 W4.drew) := (Below.refl _ _).drew
        go_region_held3 (fun V => V.cell? ⟨W0.heap.size, 0, none⟩ = some (.int .i64 c) ∧ V.cell? ⟨W0.heap.size, 1, none⟩ = some (.int .i64 s0) ∧ V.cell? ⟨W0.heap.size, 2, none⟩ = some (.slice ka n kc)) (exact HCEL.out _ HBR.out)
          ((first
            | (go_at_call 20; (with_reducible refine (HFR.out _ HBR.out).mono ?_); rintro e w5 ⟨kf, cf, rfl, hof, hBn⟩; have HBN := Lib.hid (HBR.out.trans (hBn.mono HBR.out.size)); have HOF := Lib.hid (hof.base HBR.out.size); clear HBR hBn hof; have HBR := Lib.hid HBN.out; clear HBN)
            | (go_at_call 19; (with_reducible refine (HBC.out _ _ _ _ _ _ HBR.out HOF.out (by omega) (by omega)).mono ?_); rintro e w6 ⟨rfl, hBn⟩; have HBN := Lib.hid (HBR.out.trans (hBn.mono HBR.out.size)); clear HBR hBn; have HBR := Lib.hid HBN.out; clear HBN)))
        rename_i hheld
        clear hheld
        obtain ⟨WN, hWN⟩ : ∃ WN, WN = w6 := ⟨_, rfl⟩
        rw [← hWN] at HBR ⊢
        have t0 : WN.heap[w.heap.size]? = some (.cells #[.int .i64 0, .int .i64 0, .slice none 0 0] 29 (0, 0)) := by rw [HBR.out.block _ (Array.getElem?_eq_some_iff.1 V0.out).1]; exact V0.out
        have t1 : WN.heap[W0.heap.size]? = some (.cells #[.int .i64 c, .int .i64 s0, .slice ka n kc] 29 (0, 0)) := by rw [HBR.out.block _ (Array.getElem?_eq_some_iff.1 V1.out).1]; exact V1.out
        have HB7 := Lib.hid (B4.out.trans (HBR.out.mono B4.out.size)); have OL7 := Lib.hid (OL.out.below HBR.out); have HT0 := Lib.hid t0
        clear HCEL HFR HBC hWN
        obtain ⟨x0, x1, x2, xf⟩ := cells3f t0
        obtain ⟨y0, y1, y2, _⟩ := cells3f t1
        have hyl' : 13 + rn ys ≤ ys.length := by have := HYN.out; rw [HYL.out]; omega
        have hfb := frame_back ys (by rw [HYS.out]; exact HZ.out.drop _) hyl'
        have hnk := HNK.out
        rw [HYK.out, HYQ.out] at hnk
        have hrer : rer ys = if sb = true then 0 else 4 := by
          have h2 := HSB.out
          rw [HYK.out, HYQ.out, HYZ.out, HYN.out] at h2
          unfold rer
          rw [if_neg (by omega), if_neg (by
            rintro (h | h | h)
            · exact h hnk
            · have := HYN.out; omega
            · omega)]
          by_cases he : fr (rk ys) (rs' ys) (rz ys) = ys.take (13 + rn ys)
          · rw [if_pos (hfb.1 he), h2, decide_eq_true he, if_pos rfl]
          · rw [if_neg (fun hh => he (hfb.2 hh)), h2, decide_eq_false he]; rfl
        have HRER := Lib.hid hrer
        clear hfb hnk hrer hyl' t0 t1
        cases sb with
        | true =>
          have HX3 := Lib.hid (store3 HT0.out (.int .i64 c) (.int .i64 s0) (.slice ka n kc))
          obtain ⟨f0, f1, f2, _⟩ := cells3f HX3.out
          have hof : Ow (((WN.setCell ⟨w.heap.size, 0, none⟩ (.int .i64 c)).setCell ⟨w.heap.size, 1, none⟩ (.int .i64 s0)).setCell ⟨w.heap.size, 2, none⟩ (.slice ka n kc)) w.heap.size ka n kc z := OL7.out.heap fun g e => by
            have hg : g ≠ w.heap.size := by
              rintro rfl
              obtain ⟨cur, hcur⟩ := ow_heap OL7.out e
              rw [HT0.out] at hcur
              simp only [Option.some.injEq, Obj.cells.injEq] at hcur
              exact absurd hcur.2.1 (by decide)
            rw [set_far _ _ _ _ _ hg, set_far _ _ _ _ _ hg, set_far _ _ _ _ _ hg]
          have HOF2 := Lib.hid hof
          clear hof
          go_wp2
          refine bodyPost_ret (v := .tuple #[.agg #[.int .i64 c, .int .i64 s0, .slice ka n kc], .int .i64 ((a : Int) + 13 + n), .int .i64 0]) (by simp [results, Tryd.results27, go_sem, f0, f1, f2]) rfl ?_
          refine .inr (.inl ⟨by rw [HL.out]; omega, ?_, ?_⟩)
          · rw [Int.toNat_natCast, ← HYS.out, HRER.out]; rfl
          · rw [Int.toNat_natCast, ← HYS.out, ← HYK.out, ← HYQ.out, ← HYZ.out, ← HYN.out]
            exact ⟨ka, kc, rfl, HOF2.out, below3 HB7.out (Nat.le_refl _) _ _ _⟩
        | false =>
          have HX3 := Lib.hid (store3 HT0.out (.int .i64 0) (.int .i64 0) (.slice none 0 0))
          obtain ⟨f0, f1, f2, _⟩ := cells3f HX3.out
          go_wp2
          refine bodyPost_ret (v := .tuple #[.agg #[.int .i64 0, .int .i64 0, .slice none 0 0], .int .i64 0, .int .i64 4]) (by simp [results, Tryd.results27, go_sem, f0, f1, f2]) rfl ?_
          have he : rer ys = 4 := by rw [HRER.out]; rfl
          refine .inr (.inr ⟨by rw [HL.out]; omega, by rw [Int.toNat_natCast, ← HYS.out, he]; decide, by rw [Int.toNat_natCast, ← HYS.out, he], ?_⟩)
          first | exact HB7.out | exact below3 HB7.out (Nat.le_refl _) _ _ _
    · rw [show chk c s0 0 = 1 from if_neg hnk] at hrc
      have HRC := Lib.hid hrc
      have HE : Hid (rer (zs.drop a) = 3) := by
        show rer (zs.drop a) = 3
        rw [← HYS.out]; unfold rer
        rw [if_neg (by rw [HYL.out]; omega), if_pos (.inl (by rw [← HYK.out, ← HYQ.out]; exact hnk))]
      obtain ⟨y0, y1, y2, _⟩ := cells3f HY.out
      clear hrc hnk hsh hbig
      go_wp2_with (go_at_call 16; fail)
      refine HRC.out.mono ?_
      rintro e w2 ⟨rfl, hB2⟩
      have HX2 : Hid (w2.heap[w.heap.size]? = some (.cells #[.int .i64 0, .int .i64 0, .slice none 0 0] 29 (0, 0))) := by
        show w2.heap[w.heap.size]? = _
        rw [hB2.block _ (Array.getElem?_eq_some_iff.1 HX.out).1]; exact HX.out
      have HBV2 := Lib.hid (HBV.out.trans (hB2.mono HBV.out.size))
      clear HX HBV hB2 y0 y1 y2
      have HX := HX2; have HBV := HBV2
      have HX3 := Lib.hid (store3 HX.out (.int .i64 0) (.int .i64 0) (.slice none 0 0))
      obtain ⟨x0, x1, x2, xf⟩ := cells3f HX.out
      obtain ⟨f0, f1, f2, _⟩ := cells3f HX3.out
      go_wp2
      refine bodyPost_ret (v := .tuple #[.agg #[.int .i64 0, .int .i64 0, .slice none 0 0], .int .i64 0, .int .i64 3]) (by simp [results, Tryd.results27, go_sem, f0, f1, f2]) rfl ?_
      have he := HE.out
      refine .inr (.inr ⟨by rw [HL.out]; omega, by rw [Int.toNat_natCast, he]; decide, by rw [Int.toNat_natCast, he], ?_⟩)
      first | exact HBV.out | exact below3 HBV.out (Nat.le_refl _) _ _ _
end Go.Proofs.YtmbkgjiofkggcaaDoor
