/-
  DriveOver: the walk.
-/
import Derived.Test.YtmcbmemgeegodaaDr7
import Derived.IntWalk
namespace Go.Proofs.Ytmcbmemgeegodaa
open Go.RowKit
set_option linter.unusedVariables false

theorem writeK_ok {p : Int} {ks : List Key} {k : Nat} {z : List Int} (hk : k ≤ ks.length) (hp : (k : Int) ≠ p) (h1 : 1 ≤ z.length) (h2 : z.length ≤ 256) : writeK p ks k z = (0, p, ks.take k ++ [(1, z, false)]) := by
  have hc : ce p ks.length k z.length = 0 := by unfold ce; rw [if_neg (by omega), if_neg (by omega), if_neg hp]
  unfold writeK
  rw [if_pos hc, Int.toNat_natCast]
theorem writeK_full {p : Int} {ks : List Key} {k : Nat} {z : List Int} (hk : k ≤ ks.length) (hp : (k : Int) = p) (h1 : 1 ≤ z.length) (h2 : z.length ≤ 256) : writeK p ks k z = (7, 0, []) := by
  have hc : ce p ks.length k z.length = 7 := by unfold ce; rw [if_neg (by omega), if_neg (by omega), if_pos hp]
  unfold writeK
  rw [hc]; rfl
theorem loc_first (p : Int) (ks : List Key) (a k : Nat) (hk : k ≤ ks.length) (hm : marks ks = 0) : TD.loc ⟨p, ks, a⟩ false 0 k = (0, k) := by
  unfold TD.loc
  simp only [Bool.false_eq_true, if_false, Int.toNat_zero, fileC_zero, Int.toNat_natCast, Nat.zero_add]
  rw [if_neg (by omega), if_neg (by decide), if_neg (by omega), if_neg (by rw [mkd_none _ _ _ hm]; decide)]
theorem wri_full (p : Int) (ks : List Key) (k : Nat) (z : List Int) (hk : k ≤ ks.length) (hp : (k : Int) = p) (h1 : 1 ≤ z.length) (h2 : z.length ≤ 256) : TD.wri ⟨p, ks, k⟩ PP.new z = (7, ⟨p, ks, k⟩, PP.new) := by
  unfold TD.wri
  rw [if_neg (show ¬ PP.new.off = true by decide)]
  simp only
  rw [writeK_full hk hp h1 h2, if_pos (by decide)]
theorem wri_ok (p : Int) (ks : List Key) (k : Nat) (z : List Int) (hk : k ≤ ks.length) (hp : (k : Int) ≠ p) (h1 : 1 ≤ z.length) (h2 : z.length ≤ 256) : TD.wri ⟨p, ks, k⟩ PP.new z = (0, ⟨p, ks.take k ++ [(1, z, false)], k + 1⟩, PP.new) := by
  unfold TD.wri
  rw [if_neg (show ¬ PP.new.off = true by decide)]
  simp only
  rw [writeK_ok hk hp h1 h2, if_neg (show ¬ (0 : Int) ≠ 0 by decide), if_pos (show PP.new.spent = true by decide)]
  rfl

set_option maxRecDepth 100000 in
set_option maxHeartbeats 8000000 in
theorem over_walk (t : Tap) (p : Int) (d : Part) (w : World) (h : t.ok w) (hd : d.ok w) : Calls Try.prog 7 #[.agg #[.int .i64 t.p, .slice t.a t.n t.c], .int .i64 p, .slice d.a d.l d.c] w fun e w' => e = .returned (.bool true) ∧ Below w.heap.size w w' := by
  have hm := Nat.le_trans h.room h.cm
  unfold maxLen at hm
  obtain ⟨W0, hW0⟩ : ∃ W0, W0 = w.alloc (.cells #[.int .i64 t.p, .slice t.a t.n t.c] 24) := ⟨_, rfl⟩
  have hB0 : Below w.heap.size w W0 := by rw [hW0]; exact (Below.refl _ _).alloc (Nat.le_refl _) _
  have hx : W0.heap[w.heap.size]? = some (.cells #[.int .i64 t.p, .slice t.a t.n t.c] 24 (0, 0)) := by rw [hW0]; exact new_cell _ _ _
  have hV : ∀ V, Below W0.heap.size W0 V → t.ok V ∧ d.ok V := fun V hV => ⟨(h.below hB0).below hV, (hd.below hB0).below hV⟩
  have hhe := fun V (hb : Below W0.heap.size W0 V) => heavy_any t V (hV V hb).1
  have hrm := fun V (hb : Below W0.heap.size W0 V) => refmed_any t V (hV V hb).1
  have HHE := Lib.hid hhe; have HRM := Lib.hid hrm; have HB0 := Lib.hid hB0; have HX := Lib.hid hx; have HW0 := Lib.hid hW0; have HV := Lib.hid hV
  have hdl := hd.len
  have hds := hd.small
  unfold maxLen at hds
  have HDL := Lib.hid hdl
  clear hhe hrm hB0 hx hV hdl
  obtain ⟨x0, x1, _⟩ := cells2 HX.out
  rw [hW0] at x0 x1
  clear hW0
  obtain ⟨da, dl, dc, dz⟩ := d
  simp only at hds HDL ⊢
  go_enter Try.func7, Try.ntmps7
  go_wp2_with (go_at_call 8; fail)
  rw [← HW0.out]
  refine (HHE.out W0 (Below.refl _ _)).mono ?_
  rintro e w1 ⟨he, hB1⟩
  clear x0 x1
  obtain ⟨x0, x1, _⟩ := cells2 (cells2at HX.out hB1)
  have HB1 := Lib.hid hB1
  clear hB1
  rcases he with rfl | ⟨rfl, h80, h300⟩
  · go_wp2
    go_ret
    exact ⟨rfl, HB0.out.trans (HB1.out.mono HB0.out.size)⟩
  clear h300
  have hr := HRM.out w1 HB1.out
  cases hg : goodK t.p t.ks with
  | false =>
    rw [hg] at hr
    have HR := Lib.hid hr
    clear hr hg
    go_wp2_with (go_at_call 14; refine HR.out.mono ?_; rintro e w2 ⟨rfl, hB2⟩; have HB2 := Lib.hid hB2; clear hB2)
    go_ret
    exact ⟨rfl, HB0.out.trans ((HB1.out.trans (HB2.out.mono HB1.out.size)).mono HB0.out.size)⟩
  | true =>
    rw [hg] at hr
    have HR := Lib.hid hr
    have HG := Lib.hid hg
    clear hr
    go_wp2_with (go_at_call 14; fail)
    refine HR.out.mono ?_
    rintro e w2 ⟨rfl, hB2⟩
    have HB2 := Lib.hid (HB1.out.trans (hB2.mono HB1.out.size))
    clear hB2 x0 x1 HR
    obtain ⟨x0, x1, _⟩ := cells2 (cells2at HX.out HB2.out)
    by_cases hl1 : dl < 1
    · have e1 : decide ((dl : Int) < 1) = true := decide_eq_true (by omega)
      have e1' : decide (dl < 1) = true := decide_eq_true hl1
      go_wp2
      go_ret
      exact ⟨rfl, HB0.out.trans (HB2.out.mono HB0.out.size)⟩
    have e1 : decide ((dl : Int) < 1) = false := decide_eq_false (by omega)
    have e1' : decide (dl < 1) = false := decide_eq_false hl1
    by_cases hl2 : 256 < dl
    · have e2 : decide ((256 : Int) < (dl : Int)) = true := decide_eq_true (by omega)
      have e2' : decide (256 < dl) = true := decide_eq_true hl2
      go_wp2
      go_ret
      exact ⟨rfl, HB0.out.trans (HB2.out.mono HB0.out.size)⟩
    have e2 : decide ((256 : Int) < (dl : Int)) = false := decide_eq_false (by omega)
    have e2' : decide (256 < dl) = false := decide_eq_false hl2
    have hfi := files_any t w2 (HV.out _ HB2.out).1 hg
    obtain ⟨mk, hmk⟩ : ∃ mk, mk = marks t.ks := ⟨_, rfl⟩
    rw [← hmk] at hfi
    have hzl1 : 1 ≤ dz.length := by rw [HDL.out]; omega
    have hzl2 : dz.length ≤ 256 := by rw [HDL.out]; omega
    obtain ⟨s1, s2, s3, s4, s5, _⟩ := (HV.out W0 (Below.refl _ _)).1.sizes hg
    have HFI := Lib.hid hfi; have HMK := Lib.hid hmk
    have HZ1 := Lib.hid hzl1; have HZ2 := Lib.hid hzl2
    clear hfi hg hmk hzl1 hzl2
    by_cases hmk0 : 0 < mk
    · have e3 : decide ((0 : Int) < (mk : Int)) = true := decide_eq_true (by omega)
      have e3' : decide (0 < mk) = true := decide_eq_true hmk0
      go_wp2_with (go_at_call 41; refine HFI.out.mono ?_; rintro e w3 ⟨rfl, hB3⟩; have HB3 := Lib.hid hB3; clear hB3)
      go_ret
      exact ⟨rfl, HB0.out.trans ((HB2.out.trans (HB3.out.mono HB2.out.size)).mono HB0.out.size)⟩
    obtain rfl : mk = 0 := by omega
    clear hmk0
    go_wp2_with (go_at_call 41; fail)
    refine HFI.out.mono ?_
    rintro e W2 ⟨rfl, hB3⟩
    have HB3 := Lib.hid (HB2.out.trans (hB3.mono HB2.out.size))
    clear hB3 x0 x1 HFI e1 e1' e2 e2'
    have HN := Lib.hid (pnew W2)
    go_wp2_with (go_at_call 10; fail)
    refine HN.out.mono ?_
    rintro e w3 ⟨rfl, hp3, hB⟩
    have HBP := Lib.hid (HB3.out.trans (hB.mono HB3.out.size))
    have hnw := dnew_good W2.heap.size W2.heap.size w3.heap.size PP.new t w3 (HV.out _ HBP.out).1 HG.out hp3 (Nat.le_refl _)
    have HBW := Lib.hid hB; have HNW := Lib.hid hnw
    clear hnw hB hp3 HN
    obtain ⟨x0, x1, _⟩ := cells2 (cells2at HX.out HBP.out)
    go_wp2_with (go_at_call 13; fail)
    refine HNW.out.mono ?_
    rintro e w4 ⟨g, rfl, hgg, hs4, hB4⟩
    clear x0 x1 HNW hgg
    obtain ⟨K, hK1, hK2⟩ := uwrap_at p ((t.n : Int) + 1) (by omega) (by omega)
    have hKn : K ≤ t.n := by omega
    have HB4 := Lib.hid (HBP.out.trans (hB4.mono HBP.out.size))
    have hlo := dlocate hs4 0 K (by decide) (by omega)
    rw [show PP.off PP.new = false from rfl, loc_first t.p t.ks 0 K (by omega) HMK.out.symm] at hlo
    simp only at hlo
    have HLO := Lib.hid hlo
    obtain ⟨x0, x1, _⟩ := cells2 (cells2at HX.out HB4.out)
    clear hlo hs4 hB4 hK1
    have hKk : K ≤ t.ks.length := by omega
    have HKK := Lib.hid hKk
    clear hKk
    go_wp2_with (go_at_call 25; fail)
    rw [hK2]
    clear hK2
    refine HLO.out.mono ?_
    rintro e w5 ⟨rfl, hs5⟩
    have hb25 : Below W2.heap.size W2 w5 := HBW.out.trans hs5.bel
    have hwr := dwrite ⟨da, dl, dc, dz⟩ hs5 (fun V hb _ => (HV.out V (HB3.out.trans ((hb25.trans hb).mono HB3.out.size))).2)
    have HB5 := Lib.hid (HB3.out.trans (hb25.mono HB3.out.size))
    clear hb25 hs5 HLO x0 x1
    obtain ⟨x0, x1, _⟩ := cells2 (cells2at HX.out HB5.out)
    by_cases hKp : (K : Int) = t.p
    · have d1 : ((K : Int) == t.p) = true := beq_iff_eq.2 hKp
      simp only [wri_full t.p t.ks K dz HKK.out hKp HZ1.out HZ2.out] at hwr
      have HWR := Lib.hid hwr
      clear hwr hKp
      go_wp2_with (go_at_call 34; fail)
      refine HWR.out.mono ?_
      rintro e w6 ⟨rfl, hs6⟩
      have hb26 : Below W2.heap.size W2 w6 := HBW.out.trans hs6.bel
      have HB6 := Lib.hid (HB3.out.trans (hb26.mono HB3.out.size))
      have HDM := Lib.hid (dmed hs6)
      clear hs6 hb26 x0 x1 HWR
      go_wp2_with (go_at_call 36; fail)
      refine HDM.out.mono ?_
      rintro e w7 ⟨ko, n, kc, cs, rfl, hO7, hk7, hB7⟩
      obtain ⟨V7, hV7⟩ : ∃ V7, V7 = w7.alloc (.cells #[.int .i64 t.p, .slice ko n kc] 24) := ⟨_, rfl⟩
      have hal : Below w7.heap.size w7 V7 := by rw [hV7]; exact (Below.refl _ _).alloc (Nat.le_refl _) _
      have hy : V7.heap[w7.heap.size]? = some (.cells #[.int .i64 t.p, .slice ko n kc] 24 (0, 0)) := by rw [hV7]; exact new_cell _ _ _
      have hB07 : Below W0.heap.size W0 V7 := HB6.out.trans ((hB7.trans (hal.mono hB7.size)).mono HB6.out.size)
      have hkm := keep_med ⟨t.p, ko, n, kc, cs⟩ t V7 ((hO7.below hal).tap t.p) (HV.out V7 hB07).1
      rw [decide_eq_true (show (Tap.mk t.p ko n kc cs).p = t.p ∧ Tap.ks ⟨t.p, ko, n, kc, cs⟩ = t.ks from ⟨rfl, hk7⟩)] at hkm
      obtain ⟨x0, x1, _⟩ := cells2 (cells2at HX.out hB07)
      obtain ⟨y0, y1, _⟩ := cells2 hy
      rw [hV7] at x0 x1 y0 y1
      have HKM := Lib.hid hkm; have HB7 := Lib.hid hB07; have HV7 := Lib.hid hV7
      clear hkm hB07 hV7 hal hy hO7 hk7 hB7 HDM
      have hwk := fun V => wakes12 V
      have HWK := Lib.hid hwk
      clear hwk
      go_wp2_with (first
        | (go_at_call 39; rw [← HV7.out]; refine HKM.out.mono ?_; rintro e w8 ⟨rfl, hB8⟩; have HB8 := Lib.hid (HB7.out.trans (hB8.mono HB7.out.size)); clear hB8)
        | (go_at_call 15; refine (HWK.out _).mono ?_; rintro e w9 ⟨rfl, hB9⟩; have HB9 := Lib.hid (HB8.out.trans (hB9.mono HB8.out.size)); clear hB9))
      go_ret
      exact ⟨rfl, HB0.out.trans (HB9.out.mono HB0.out.size)⟩
    · have d1 : ((K : Int) == t.p) = false := beq_eq_false_iff_ne.2 hKp
      simp only [wri_ok t.p t.ks K dz HKK.out hKp HZ1.out HZ2.out] at hwr
      have hwm := fun V (hb : Below W0.heap.size W0 V) => write_any t K ⟨da, dl, dc, dz⟩ V (HV.out V hb).1 HG.out (HV.out V hb).2
      simp only [writeK_ok HKK.out hKp HZ1.out HZ2.out] at hwm
      have HWR := Lib.hid hwr; have HWM := Lib.hid hwm
      have hnl : (t.ks.take K ++ [(1, dz, false)]).length = K + 1 := by rw [List.length_append, List.length_take, Nat.min_eq_left HKK.out]; rfl
      have HNL := Lib.hid hnl
      clear hwr hwm hKp hnl
      go_wp2_with (go_at_call 34; fail)
      refine HWR.out.mono ?_
      rintro e w6 ⟨rfl, hs6⟩
      have hb26 : Below W2.heap.size W2 w6 := HBW.out.trans hs6.bel
      have HB6 := Lib.hid (HB3.out.trans (hb26.mono HB3.out.size))
      have HDM := Lib.hid (dmed hs6); have HS6 := Lib.hid hs6
      clear hs6 hb26 x0 x1 HWR
      go_wp2_with (go_at_call 36; fail)
      refine HDM.out.mono ?_
      rintro e w7 ⟨ko, n, kc, cs, rfl, hO7, hk7, hB7⟩
      obtain rfl : n = K + 1 := by rw [← HNL.out, ← hk7, keys_len, hO7.len]
      obtain ⟨V7, hV7⟩ : ∃ V7, V7 = w7.alloc (.cells #[.int .i64 t.p, .slice ko (K + 1) kc] 24) := ⟨_, rfl⟩
      have hal : Below w7.heap.size w7 V7 := by rw [hV7]; exact (Below.refl _ _).alloc (Nat.le_refl _) _
      have hy : V7.heap[w7.heap.size]? = some (.cells #[.int .i64 t.p, .slice ko (K + 1) kc] 24 (0, 0)) := by rw [hV7]; exact new_cell _ _ _
      obtain ⟨g10, hg10⟩ : ∃ g10, g10 = w7.heap.size := ⟨_, rfl⟩
      have hB67 : Below w6.heap.size w6 V7 := hB7.trans (hal.mono hB7.size)
      have hB07 : Below W0.heap.size W0 V7 := HB6.out.trans (hB67.mono HB6.out.size)
      have hpl := dplace (HS6.out.below hB67)
      obtain ⟨x0, x1, _⟩ := cells2 (cells2at HX.out hB07)
      obtain ⟨y0, y1, _⟩ := cells2 hy
      rw [hV7] at x0 x1 y0 y1
      rw [← hg10] at hy
      have HPL := Lib.hid hpl; have HB7 := Lib.hid hB07; have HV7 := Lib.hid hV7; have HY := Lib.hid hy; have HK7 := Lib.hid hk7; have HT7 := Lib.hid ((hO7.below hal).tap t.p); have HG10 := Lib.hid hg10
      clear hpl hB07 hV7 hal hy hO7 hk7 hB7 hB67 HDM hg10
      have hwk := fun V => wakes12 V
      have HWK := Lib.hid hwk
      clear hwk
      have b1 : IntKind.i64.wrap ((K : Int) + 1) = (K : Int) + 1 := IntWalk.i64_in _ (by omega)
      have b2 : ((K : Int) + 1 != (K : Int) + 1) = false := by simp
      go_wp2_with (go_at_call 37; fail)
      rw [← HV7.out]
      refine HPL.out.mono ?_
      rintro e w8 ⟨rfl, rfl⟩
      rw [← HV7.out] at x0 x1 y0 y1
      rw [← HG10.out] at y0 y1
      go_wp2_with (go_at_call 44; fail)
      rw [← HG10.out]
      refine (HWM.out _ HB7.out).mono ?_
      intro e w9 h9
      obtain ⟨ko9, n9, kc9, cs9, rfl, hk9, hall⟩ := h9.var
      obtain ⟨V9, hV9⟩ : ∃ V9, V9 = w9.alloc (.cells #[.int .i64 t.p, .slice ko9 n9 kc9] 24) := ⟨_, rfl⟩
      obtain ⟨hB9, hv9, hO9⟩ := hall V9 hV9
      obtain ⟨y0, y1, _⟩ := cells2 (cells2at HY.out hB9)
      obtain ⟨z0, z1, _⟩ := cells2 hv9.1
      have hkm := keep_med ⟨t.p, ko, K + 1, kc, cs⟩ ⟨t.p, ko9, n9, kc9, cs9⟩ V9 (HT7.out.below hB9) hv9.2
      rw [decide_eq_true (show (Tap.mk t.p ko (K + 1) kc cs).p = t.p ∧ Tap.ks ⟨t.p, ko, K + 1, kc, cs⟩ = Tap.ks ⟨t.p, ko9, n9, kc9, cs9⟩ from ⟨rfl, HK7.out.trans hk9.symm⟩)] at hkm
      rw [hV9] at y0 y1 z0 z1
      have HKM := Lib.hid hkm; have HB9 := Lib.hid (HB7.out.trans (hB9.mono HB7.out.size)); have HV9 := Lib.hid hV9
      clear hkm hB9 hV9 hv9 hO9 hk9 hall h9
      go_wp2_with (first
        | (go_at_call 39; rw [← HV9.out]; refine HKM.out.mono ?_; rintro e w10 ⟨rfl, hB10⟩; have HB10 := Lib.hid (HB9.out.trans (hB10.mono HB9.out.size)); clear hB10)
        | (go_at_call 15; refine (HWK.out _).mono ?_; rintro e w11 ⟨rfl, hB11⟩; have HB11 := Lib.hid (HB10.out.trans (hB11.mono HB10.out.size)); clear hB11))
      go_ret
      exact ⟨rfl, HB0.out.trans (HB11.out.mono HB0.out.size)⟩
end Go.Proofs.Ytmcbmemgeegodaa
