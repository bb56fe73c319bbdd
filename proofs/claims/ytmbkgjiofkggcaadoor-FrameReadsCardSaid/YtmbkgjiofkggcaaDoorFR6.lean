/-
  The walk of FrameReads.
-/
import Derived.Test.YtmbkgjiofkggcaaDoorFR5
import Derived.Test.YtmbkgjiofkggcaaDoorFE
namespace Go.Proofs.YtmbkgjiofkggcaaDoor
open Go.RowKit
set_option linter.unusedVariables false

/-- What is read at at'. -/
def fval (zs : List Int) (at' : Int) : Int × Int × List Int × Int × Int :=
  if at' < 0 ∨ (zs.length : Int) < at' then (0, 0, [], 0, 1) else if rer (zs.drop at'.toNat) = 0 then (rk (zs.drop at'.toNat), rs' (zs.drop at'.toNat), rz (zs.drop at'.toNat), at' + 13 + rn (zs.drop at'.toNat), 0) else (0, 0, [], 0, rer (zs.drop at'.toNat))
theorem FRD.val {w w' : World} {zs : List Int} {at' : Int} {r : Ending} (h : FRD w zs at' r w') {k s : Int} {z : List Int} {nx er : Int} (hv : (k, s, z, nx, er) = fval zs at') :
    ∃ ko kc, r = .returned (.tuple #[.agg #[.int .i64 k, .int .i64 s, .slice ko z.length kc], .int .i64 nx, .int .i64 er]) ∧ Ow w' w.heap.size ko z.length kc z ∧ Below w.heap.size w w' := by
  unfold fval at hv
  rcases h with ⟨h1, h2, h3⟩ | ⟨h1, h0, ko, kc, h2, ho, h3⟩ | ⟨h1, h0, h2, h3⟩
  · rw [if_pos h1] at hv
    simp only [Prod.mk.injEq] at hv
    obtain ⟨rfl, rfl, rfl, rfl, rfl⟩ := hv
    exact ⟨none, 0, h2, ⟨rfl, Nat.le_refl _, Nat.zero_le _, World.ownsRow_nil _ _ _ _⟩, h3⟩
  · rw [if_neg h1, if_pos h0] at hv
    simp only [Prod.mk.injEq] at hv
    obtain ⟨rfl, rfl, rfl, rfl, rfl⟩ := hv
    have hl := ho.1
    exact ⟨ko, kc, by rw [hl]; exact h2, by rw [hl]; exact ho, h3⟩
  · rw [if_neg h1, if_neg h0] at hv
    simp only [Prod.mk.injEq] at hv
    obtain ⟨rfl, rfl, rfl, rfl, rfl⟩ := hv
    exact ⟨none, 0, h2, ⟨rfl, Nat.le_refl _, Nat.zero_le _, World.ownsRow_nil _ _ _ _⟩, h3⟩
theorem fval_bts {zs : List Int} {at' : Int} (hz : Bts zs) {k s : Int} {z : List Int} {nx er : Int} (hv : (k, s, z, nx, er) = fval zs at') : Bts z := by
  unfold fval at hv
  by_cases h1 : at' < 0 ∨ (zs.length : Int) < at'
  · rw [if_pos h1] at hv; simp only [Prod.mk.injEq] at hv; rw [hv.2.2.1]; exact Bts.nil
  · rw [if_neg h1] at hv
    by_cases h0 : rer (zs.drop at'.toNat) = 0
    · rw [if_pos h0] at hv; simp only [Prod.mk.injEq] at hv; rw [hv.2.2.1]; exact ((hz.drop _).drop _).take _
    · rw [if_neg h0] at hv; simp only [Prod.mk.injEq] at hv; rw [hv.2.2.1]; exact Bts.nil
/-- What both Splits leave. -/
def SP (w : World) (zs : List Int) (e : Ending) (w' : World) : Prop :=
  ∃ ks er rs ko kc, Spl zs ks er ∧ e = .returned (.tuple #[.slice ko rs.length kc, .int .i64 er]) ∧ Rs w' ko rs ∧ rs.length ≤ maxLen ∧ rs.map Rec.key = (if er = 0 then ks else []) ∧ Below w.heap.size w w'
theorem SP.of {w w' : World} {zs : List Int} {e : Ending} (h : ∃ ks er, Spl zs ks er ∧
      ((er = 0 ∧ ∃ rs ko kc, e = .returned (.tuple #[.slice ko rs.length kc, .int .i64 0]) ∧ ORs w' w.heap.size ko rs.length kc rs ∧ rs.map Rec.key = ks ∧ Below w.heap.size w w') ∨
       (er ≠ 0 ∧ e = .returned (.tuple #[.slice none 0 0, .int .i64 er]) ∧ Below w.heap.size w w'))) : SP w zs e w' := by
  obtain ⟨ks, er, hs, ⟨rfl, rs, ko, kc, he, ho, hk, hB⟩ | ⟨h0, he, hB⟩⟩ := h
  · exact ⟨ks, 0, rs, ko, kc, hs, he, ho.rs, Nat.le_trans ho.2.1 ho.2.2.1, by rw [if_pos rfl]; exact hk, hB⟩
  · exact ⟨ks, er, [], none, 0, hs, he, .inl rfl, Nat.zero_le _, by rw [if_neg h0]; rfl, hB⟩

set_option maxRecDepth 100000 in
set_option maxHeartbeats 4000000 in
theorem reads_walk (ao : Option Addr) (len cap : Nat) (zs : List Int) (at' : Int) (w : World) (hT : Tab w) (hl : zs.length = len) (hlc : len ≤ cap) (hcm : cap ≤ maxLen) (hr : Rd w ao zs) (hz : Bts zs) (hn : ao = none → cap = 0) :
    Calls Tryd.prog 4 #[.slice ao len cap, .int .i64 at'] w fun e w' => e = .returned (.bool true) ∧ Below w.heap.size w w' := by
  by_cases h4 : 4000 < len
  · have d1 : decide ((4000 : Int) < (len : Int)) = true := decide_eq_true (by omega)
    have d1' : decide (4000 < len) = true := decide_eq_true h4
    clear hT hl hlc hcm hr hz hn
    go_enter Tryd.func4, Tryd.ntmps4
    go_wp2
    go_ret
    exact ⟨rfl, Below.refl _ _⟩
  have d1 : decide ((4000 : Int) < (len : Int)) = false := decide_eq_false (by omega)
  have d1' : decide (4000 < len) = false := decide_eq_false h4
  obtain ⟨⟨k, s, z, nx, er⟩, hv⟩ : ∃ v, v = fval zs at' := ⟨_, rfl⟩
  have HZB := Lib.hid (fval_bts hz hv)
  have HV := Lib.hid hv; have HT := Lib.hid hT; have HL := Lib.hid hl; have HLC := Lib.hid hlc; have HCM := Lib.hid hcm; have HR := Lib.hid hr; have HZ := Lib.hid hz; have HN := Lib.hid hn; have H4 := Lib.hid h4
  clear hv hT hl hlc hcm hr hz hn h4
  go_enter Tryd.func4, Tryd.ntmps4
  go_wp2_with (go_at_call 25; fail)
  refine (twin_any ao len cap zs w HL.out (by have := H4.out; omega) HR.out HN.out).mono ?_
  rintro e w1 ⟨k1, c1, rfl, ho1, hB1⟩
  have HO1 := Lib.hid ho1; have HB1 := Lib.hid hB1; have HT1 := Lib.hid (HT.out.below hB1)
  clear ho1 hB1
  go_wp2_with (go_at_call 26; fail)
  refine (fread_any k1 len c1 zs at' w1 HT1.out HL.out HO1.out.2.1 (by have := H4.out; omega) HO1.out.2.2.1 HO1.out.rd HZ.out).mono ?_
  intro e w2 h
  obtain ⟨k2, c2, rfl, ho2, hB2⟩ := h.val HV.out
  obtain ⟨W2, hW2⟩ : ∃ W, W = w2.alloc (.cells #[.int .i64 k, .int .i64 s, .slice k2 z.length c2] 29) := ⟨_, rfl⟩
  obtain ⟨g6, hg6⟩ : ∃ g, g = w2.heap.size := ⟨_, rfl⟩
  have hb2 : Below w2.heap.size w2 W2 := by rw [hW2]; exact (Below.refl _ _).alloc (Nat.le_refl _) _
  have v6 : W2.heap[g6]? = some (.cells #[.int .i64 k, .int .i64 s, .slice k2 z.length c2] 29 (0, 0)) := by rw [hW2, hg6]; exact heap_alloc_new _ _
  have hb12 : Below w1.heap.size w1 W2 := hB2.trans (hb2.mono hB2.size)
  have HO2 := Lib.hid (ho2.below hb2); have HB12 := Lib.hid hb12; have V6 := Lib.hid v6; have HW := Lib.hid hW2; have HGG := Lib.hid hg6
  have HB02 := Lib.hid (HB1.out.trans (hb12.mono HB1.out.size))
  clear h ho2 hB2 hb2 v6 hb12 hW2 hg6
  go_wp2_with (go_at_call 27; fail)
  rw [← HW.out, ← HGG.out]
  clear HW HGG
  refine (rread_all ao len cap zs at' W2 HL.out HLC.out (by have := H4.out; omega) HCM.out (HR.out.below HB02.out) HZ.out).mono ?_
  intro e w3 h
  obtain ⟨k3, c3, rfl, ho3, hB3⟩ := h.val HV.out
  obtain ⟨W3, hW3⟩ : ∃ W, W = w3.alloc (.cells #[.int .i64 k, .int .i64 s, .slice k3 z.length c3] 29) := ⟨_, rfl⟩
  obtain ⟨g9, hg9⟩ : ∃ g, g = w3.heap.size := ⟨_, rfl⟩
  have hb3 : Below w3.heap.size w3 W3 := by rw [hW3]; exact (Below.refl _ _).alloc (Nat.le_refl _) _
  have v9 : W3.heap[g9]? = some (.cells #[.int .i64 k, .int .i64 s, .slice k3 z.length c3] 29 (0, 0)) := by rw [hW3, hg9]; exact heap_alloc_new _ _
  have hb23 : Below W2.heap.size W2 W3 := hB3.trans (hb3.mono hB3.size)
  have v6' : W3.heap[g6]? = some (.cells #[.int .i64 k, .int .i64 s, .slice k2 z.length c2] 29 (0, 0)) := by rw [hb23.block _ (Array.getElem?_eq_some_iff.1 V6.out).1]; exact V6.out
  have P2 := Lib.hid ((HO2.out.below hb23).part HZB.out); have P3 := Lib.hid ((ho3.below hb3).part HZB.out)
  have HO2' := Lib.hid (HO2.out.below hb23)
  have HB13 := Lib.hid (HB12.out.trans (hb23.mono HB12.out.size)); have V6' := Lib.hid v6'; have V9 := Lib.hid v9; have HW := Lib.hid hW3; have HGG := Lib.hid hg9
  obtain ⟨x0, x1, x2, _⟩ := cells3f v6'
  obtain ⟨y0, y1, y2, _⟩ := cells3f v9
  rw [HW.out] at x0 x1 x2 y0 y1 y2
  rw [hg9] at y0 y1 y2
  clear h ho3 hB3 hb3 v9 hb23 v6' hW3 hg9 V6 HO2
  have q1 : (er != er) = false := by simp
  have q2 : (nx != nx) = false := by simp
  go_wp2_with (go_at_call 28; fail)
  rw [← HW.out, ← HGG.out]
  clear x0 x1 x2 y0 y1 y2
  have hkr := keep_rec ⟨k, s, ⟨k2, z.length, c2, z⟩⟩ ⟨k, s, ⟨k3, z.length, c3, z⟩⟩ W3 P2.out P3.out
  rw [decide_eq_true ⟨rfl, rfl, rfl⟩] at hkr
  refine hkr.mono ?_
  clear hkr
  rintro e w4 ⟨rfl, hB4⟩
  have v6 : w4.heap[g6]? = some (.cells #[.int .i64 k, .int .i64 s, .slice k2 z.length c2] 29 (0, 0)) := by rw [hB4.block _ (Array.getElem?_eq_some_iff.1 V6'.out).1]; exact V6'.out
  obtain ⟨x0, x1, x2, _⟩ := cells3f v6
  have HO4 := Lib.hid (HO2'.out.below hB4); have HB14 := Lib.hid (HB13.out.trans (hB4.mono HB13.out.size))
  clear hB4 v6 HW HGG V6' V9 P2 P3 HO2' HB13
  go_wp2_with (go_at_call 29; fail)
  refine (spoilb_any w1.heap.size k2 z.length c2 w4 (Nat.le_trans HO4.out.2.1 HO4.out.2.2.1) HO4.out.u8).mono ?_
  rintro e w5 ⟨rfl, hS⟩
  have HB15 := Lib.hid (HB14.out.trans hS.1)
  clear hS x0 x1 x2 HO4 HB14
  go_wp2_with (go_at_call 30; fail)
  refine (split_any k1 len c1 zs w5 (HT1.out.below HB15.out) HL.out HO1.out.2.1 (by have := H4.out; omega) HO1.out.2.2.1 (HO1.out.below HB15.out).rd HZ.out).mono ?_
  intro e w6 h
  obtain ⟨ks, ea, rsa, ka, ca, hs1, rfl, hr1, hm1, hk1, hB6⟩ := SP.of h
  have HS1 := Lib.hid hs1; have HR1 := Lib.hid hr1; have HM1 := Lib.hid hm1; have HK1 := Lib.hid hk1; have HB16 := Lib.hid (HB15.out.trans (hB6.mono HB15.out.size))
  clear h hs1 hr1 hm1 hk1 hB6
  go_wp2_with (go_at_call 31; fail)
  have hb06 := HB1.out.trans (HB16.out.mono HB1.out.size)
  refine (rsplit_any ao len cap zs w6 HL.out HLC.out (by have := H4.out; omega) HCM.out (HR.out.below hb06) HZ.out).mono ?_
  intro e w7 h
  obtain ⟨ks', eb, rsb, kb, cb, hs2, rfl, hr2, hm2, hk2, hB7⟩ := SP.of h
  obtain rfl : ea = eb := HS1.out.err hs2
  have hkk : rsa.map Rec.key = rsb.map Rec.key := by
    rw [HK1.out, hk2]
    by_cases h0 : ea = 0
    · rw [if_pos h0, if_pos h0, (HS1.out.same hs2 h0).1]
    · rw [if_neg h0, if_neg h0]
  have HB17 := Lib.hid (HB16.out.trans (hB7.mono HB16.out.size))
  have hkr := keep_recs ka kb rsa.length rsb.length ca cb rsa rsb w7 rfl rfl HM1.out (HR1.out.below hB7) hr2
  rw [decide_eq_true hkk] at hkr
  have HKR := Lib.hid hkr
  clear h hs2 hr2 hm2 hk2 hB7 hkk hkr hb06 q1 q2
  go_wp2_with (go_at_call 23; fail)
  refine HKR.out.mono ?_
  rintro e w8 ⟨rfl, hB8⟩
  have HB18 := Lib.hid (HB17.out.trans (hB8.mono HB17.out.size))
  clear hB8
  go_wp2_with (go_at_call 19; fail)
  have hb08 := HB1.out.trans (HB18.out.mono HB1.out.size)
  have hbc := bytes_cmp k1 ao len len c1 cap zs zs w8 HL.out HL.out (Nat.le_trans HLC.out HCM.out) (HO1.out.below HB18.out).rd (HR.out.below hb08)
  rw [decide_eq_true rfl] at hbc
  refine hbc.mono ?_
  clear hbc hb08
  rintro e w9 ⟨rfl, q, hq⟩
  have HB19 : Hid (Below w1.heap.size w1 w9) := by
    show Below w1.heap.size w1 w9
    rw [hq]; exact below_drewN HB18.out q
  clear hq
  go_wp2_with (go_at_call 24; fail)
  refine (wakes06 w9 (HT1.out.below HB19.out)).mono ?_
  rintro e w10 ⟨rfl, hB10⟩
  have HB20 := Lib.hid (HB19.out.trans (hB10.mono HB19.out.size))
  clear hB10
  go_wp2
  go_ret
  exact ⟨rfl, HB1.out.trans (HB20.out.mono HB1.out.size)⟩
end Go.Proofs.YtmbkgjiofkggcaaDoor
