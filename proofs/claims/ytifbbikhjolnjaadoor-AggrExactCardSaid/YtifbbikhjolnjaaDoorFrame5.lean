/-
  Frames: Read, where the bytes suffice.
-/
import Derived.Test.YtifbbikhjolnjaaDoorFrame4
import Derived.BigQuiet
namespace Go.Proofs.YtifbbikhjolnjaaDoor
open Go.RowKit
set_option linter.unusedVariables false

theorem Ow.heap {w w' : World} {base n kc : Nat} {ko : Option Addr} {zs : List Int} (h : Ow w base ko n kc zs) (hh : ∀ g, ko = some ⟨g, 0, none⟩ → w'.heap[g]? = w.heap[g]?) : Ow w' base ko n kc zs := by
  obtain ⟨h1, h2, h3, h4, h5⟩ := h
  refine ⟨h1, h2, h3, h4, ?_⟩
  rcases h5 with h5 | ⟨g, c, cur, q1, q2, q3, q4⟩
  · exact .inl h5
  · refine .inr ⟨g, c, cur, q1, q2, ?_, q4⟩
    simp only [Value.slice.injEq] at q1
    rw [hh g q1.1]; exact q3
theorem set_far (w : World) (j i g : Nat) (v : Value) (h : g ≠ j) : (w.setCell ⟨j, i, none⟩ v).heap[g]? = w.heap[g]? := heap_setCell_other w _ _ _ (by simpa using h)
set_option maxHeartbeats 1000000 in
theorem fread_good (b o len cap a n : Nat) (zs : List Int) (k s : Int) (w : World) (hT : Tab w) (hl : zs.length = len) (hlc : len ≤ cap) (hm : len ≤ 1000000000) (hcm : cap ≤ maxLen) (hr : Rd w (some ⟨b, o, none⟩) zs) (hz : Bts zs)
    (hg : ∀ V, Below w.heap.size w V → Calls Tryd.prog 27 #[.slice (some ⟨b, o, none⟩) len cap, .int .i64 a, .int .i64 1] V fun e w' => e = .returned (.tuple #[.int .i64 k, .int .i64 ((a : Int) + 1), .int .i64 0]) ∧ V = w')
    (hg2 : ∀ V, Below w.heap.size w V → Calls Tryd.prog 27 #[.slice (some ⟨b, o, none⟩) len cap, .int .i64 ((a : Int) + 1), .int .i64 4] V fun e w' => e = .returned (.tuple #[.int .i64 s, .int .i64 ((a : Int) + 5), .int .i64 0]) ∧ V = w')
    (hg3 : ∀ V, Below w.heap.size w V → Calls Tryd.prog 27 #[.slice (some ⟨b, o, none⟩) len cap, .int .i64 ((a : Int) + 5), .int .i64 4] V fun e w' => e = .returned (.tuple #[.int .i64 n, .int .i64 ((a : Int) + 9), .int .i64 0]) ∧ V = w')
    (hn8 : n ≤ 8000) (hal : a + 13 + n ≤ len) (hnok : nok k s) (hd : List Int) (dz sz : List Int) (hhd : hd = (zs.drop a).take 9) (hsz : sz = (zs.drop (a + 9)).take 4) (hdz : dz = (zs.drop (a + 13)).take n) :
    Calls Tryd.prog 19 #[.slice (some ⟨b, o, none⟩) len cap, .int .i64 a] w fun r w' =>
      (sz = l4 ((sumOf (hd ++ dz)).toNat : Int) ∧ RF w k s n dz (a + 13 + n : Nat) r w') ∨ (sz ≠ l4 ((sumOf (hd ++ dz)).toNat : Int) ∧ RF0 w 4 r w') := by
  have HG := Lib.hid hg; have HG2 := Lib.hid hg2; have HG3 := Lib.hid hg3
  have hnn := (fun V => numbered_any k s V)
  rw [decide_eq_true hnok] at hnn
  have HN := Lib.hid hnn
  clear hg hg2 hg3 hnn hnok
  unfold maxLen at hcm
  have d2 : decide ((8000 : Int) < (n : Int)) = false := decide_eq_false (by omega)
  have d3 : decide ((len : Int) - ((a : Int) + 9) < 4 + (n : Int)) = false := decide_eq_false (by omega)
  have hca : ¬ cap = a := by omega
  have hca9 : ¬ cap = a + 9 := by omega
  have i1 : (0 : Int) ≤ (a : Int) := by omega
  have i2 : (a : Int) ≤ (a : Int) + 9 := by omega
  have i3 : (a : Int) + 9 ≤ (cap : Int) := by omega
  have i4 : (a : Int) + 9 + 4 ≤ (cap : Int) := by omega
  have HR := Lib.hid hr; have HZ := Lib.hid hz; have HL := Lib.hid hl; have HT := Lib.hid hT
  obtain ⟨sm, hsm⟩ : ∃ sm : Int, sm = ((sumOf (hd ++ dz)).toNat : Int) := ⟨_, rfl⟩
  rw [← hsm]
  have hs0 : 0 ≤ sm ∧ sm < 4294967296 := by rw [hsm]; have := (sumOf (hd ++ dz)).isLt; omega
  obtain ⟨hs1, hs2⟩ := hs0
  have HSM := Lib.hid hsm
  clear hsm
  have HH := Lib.hid hhd; have HS := Lib.hid hsz; have HDZ := Lib.hid hdz
  clear hr hz hl hT hhd hsz hdz
  go_enter Tryd.func19, Tryd.ntmps19
  go_wp2_with (go_at_call 27; fail)
  refine (HG.out _ ((Below.refl _ _).alloc (Nat.le_refl _) _)).mono ?_
  rintro r w1 ⟨rfl, rfl⟩
  go_wp2_with (go_at_call 27; fail)
  refine (HG2.out _ ((Below.refl _ _).alloc (Nat.le_refl _) _)).mono ?_
  rintro r w1 ⟨rfl, rfl⟩
  go_wp2_with (go_at_call 27; fail)
  refine (HG3.out _ ((Below.refl _ _).alloc (Nat.le_refl _) _)).mono ?_
  rintro r w1 ⟨rfl, rfl⟩
  go_wp2_with (go_at_call 28; refine (HN.out _).mono ?_; rintro r w1 ⟨rfl, rfl⟩)
  go_quiet (fail)
  rw [show a + 9 - a = 9 by omega, show a + 9 + 4 - (a + 9) = 4 by omega]
  obtain ⟨W0, hW0⟩ : ∃ W0, W0 = (w.alloc (.cells #[.int .i64 0, .int .i64 0, .slice none 0 0] 43)).drewN nq := ⟨_, rfl⟩
  have hB0 : Below w.heap.size w W0 := by rw [hW0]; exact below_drewN ((Below.refl _ _).alloc (Nat.le_refl _) _) nq
  have hx0 : W0.heap[w.heap.size]? = some (.cells #[.int .i64 0, .int .i64 0, .slice none 0 0] 43) := by rw [hW0]; exact heap_alloc_new _ _
  rw [← hW0]
  have HB0 := Lib.hid hB0; have HX0 := Lib.hid hx0
  clear hW0 hB0 hx0 i1 i2 i3 i4 d2 d3 hca hca9
  have i5 : (0 : Int) ≤ (a : Int) + 9 + 4 := by omega
  have i6 : (a : Int) + 9 + 4 ≤ (a : Int) + 9 + 4 + (n : Int) := by omega
  have i7 : (a : Int) + 9 + 4 + (n : Int) ≤ (cap : Int) := by omega
  by_cases hcd : cap = a + 9 + 4
  · have hod : ∀ V, Below w.heap.size w V → Rd V (some ⟨b, o, none⟩) dz ∧ Rd V (some ⟨b, o + a, none⟩) hd ∧ Rd V (some ⟨b, o + (a + 9), none⟩) sz := fun V hV => by
      refine ⟨?_, ?_, ?_⟩
      · rw [HDZ.out]; exact .inl (by rw [show n = 0 by omega]; simp)
      · rw [HH.out]; exact ((HR.out.below hV).drop a).take 9
      · rw [HS.out]; exact ((HR.out.below hV).drop (a + 9)).take 4
    have hdl : dz.length = n := by rw [HDZ.out]; simp [HL.out]; omega
    have hhl : hd.length = 9 := by rw [HH.out]; simp [HL.out]; omega
    have hsl : sz.length = 4 := by rw [HS.out]; simp [HL.out]; omega
    have hdb : Bts dz := by rw [HDZ.out]; exact (HZ.out.drop _).take _
    have hhb : Bts hd := by rw [HH.out]; exact (HZ.out.drop _).take _
    have hsb : Bts sz := by rw [HS.out]; exact (HZ.out.drop _).take _
    have hsm : sm = ((sumOf (hd ++ dz)).toNat : Int) := HSM.out
    have hl4b : Bts (l4 sm) := by rw [hsm]; exact bts_l4 _ (sumOf _).isLt
    obtain ⟨r1, r2, r3⟩ := hod W0 HB0.out
    have HBY := Lib.hid (bytes_any (some ⟨W0.heap.size, 0, none⟩) 2 2 [⟨some ⟨b, o + a, none⟩, 9, a + 9 + 4 - a, hd⟩, ⟨some ⟨b, o, none⟩, n, 0, dz⟩] (W0.alloc (.cells #[.slice (some ⟨b, o + a, none⟩) 9 (a + 9 + 4 - a), .slice (some ⟨b, o, none⟩) n (0)] 39)) sm (by rw [hsm]; simp [flat]) rfl (by decide) ((HT.out.below HB0.out).below ((Below.refl _ _).alloc (Nat.le_refl _) _)) (ps_new W0 [⟨some ⟨b, o + a, none⟩, 9, a + 9 + 4 - a, hd⟩, ⟨some ⟨b, o, none⟩, n, 0, dz⟩] 39 (fun j hj => by
      match j, hj with
      | 0, _ => exact ⟨r2, hhl, hhb, by show 9 ≤ maxLen; unfold maxLen; omega, fun h => by cases h⟩
      | 1, _ => exact ⟨r1, hdl, hdb, by show n ≤ maxLen; unfold maxLen; omega, fun h => by cases h⟩)))
    have HOD := Lib.hid hod; have HDL := Lib.hid hdl; have HSL := Lib.hid hsl; have HSB := Lib.hid hsb; have HL4 := Lib.hid hl4b
    clear hod hdl hhl hsl hdb hhb hsb hsm hl4b r1 r2 r3 i5 i6 i7
    go_wp2_with (go_at_call 29; fail)
    refine HBY.out.mono ?_
    rintro e w4 ⟨rfl, hB4⟩
    have hB3 : Below W0.heap.size W0 (W0.alloc (.cells #[.slice (some ⟨b, o + a, none⟩) 9 (a + 9 + 4 - a), .slice (some ⟨b, o, none⟩) n (0)] 39)) := (Below.refl _ _).alloc (Nat.le_refl _) _
    have h04 : Below W0.heap.size W0 w4 := hB3.trans (hB4.mono hB3.size)
    obtain ⟨w5, hw5⟩ : ∃ w5, w5 = w4.alloc (.cells #[.int .u8 (sm % 256), .int .u8 (sm / 256 % 256), .int .u8 (sm / 65536 % 256), .int .u8 (sm / 16777216)] 60) := ⟨_, rfl⟩
    have h45 : Below w4.heap.size w4 w5 := by rw [hw5]; exact (Below.refl _ _).alloc (Nat.le_refl _) _
    have h05 := h04.trans (h45.mono h04.size)
    have HB5 := Lib.hid (HB0.out.trans (h05.mono HB0.out.size))
    have hz5 : w5.heap[w4.heap.size]? = some (.cells ((l4 sm).map (Value.int .u8)).toArray 60) := by rw [hw5]; exact heap_alloc_new _ _
    have hx5 : w5.heap[w.heap.size]? = some (.cells #[.int .i64 0, .int .i64 0, .slice none 0 0] 43) := by rw [h05.block _ (Array.getElem?_eq_some_iff.1 HX0.out).1]; exact HX0.out
    have heq := equal_any (some ⟨b, o + (a + 9), none⟩) (some ⟨w4.heap.size, 0, none⟩) 4 4 (4) 4 sz (l4 sm) w5 HSL.out rfl (HOD.out w5 HB5.out).2.2 (Rd.block hz5) HSB.out HL4.out
    have HX5 := Lib.hid hx5; have HW5 := Lib.hid hw5
    clear hB3 h04 h45 h05 hz5 hx5 hB4 hw5
    by_cases hsum : sz = l4 sm
    · rw [decide_eq_true hsum] at heq
      have HEQ := Lib.hid heq; have HSUM := Lib.hid hsum
      clear heq hsum
      have HCL := Lib.hid (clone_some ⟨b, o, none⟩ n (0) dz w5 HDL.out (by omega) (HOD.out w5 HB5.out).1)
      go_wp2_with (go_at_call 30; fail)
      rw [← HW5.out]
      refine HEQ.out.mono ?_
      rintro e w6 ⟨rfl, rfl⟩
      go_wp2_with (go_at_call 24; fail)
      refine HCL.out.mono ?_
      rintro e w6 ⟨ko, kc, rfl, ho6, hB6⟩
      have HB6 : Hid (Below w.heap.size w w6) := HB5.out.trans (hB6.mono HB5.out.size)
      have hx6 : w6.heap[w.heap.size]? = some (.cells #[.int .i64 0, .int .i64 0, .slice none 0 0] 43) := by rw [hB6.block _ (Array.getElem?_eq_some_iff.1 HX5.out).1]; exact HX5.out
      have hfar : ∀ g, ko = some ⟨g, 0, none⟩ → g ≠ w.heap.size := fun g e => by
        have hlt := (Array.getElem?_eq_some_iff.1 HX5.out).1
        by_cases h0 : 0 < n
        · obtain ⟨g', e', hge⟩ := ho6.at h0
          rw [e] at e'; cases e'; omega
        · have := own_ge ho6.2.2.2 g (by rw [e]; rfl)
          omega
      have HO6 := Lib.hid (ho6.base HB5.out.size); have HFAR := Lib.hid hfar
      have a0 : w6.cell? ⟨w.heap.size, 0, none⟩ = some (.int .i64 0) := by simp [World.cell?, hx6]
      have a1 : w6.cell? ⟨w.heap.size, 1, none⟩ = some (.int .i64 0) := by simp [World.cell?, hx6]
      have a2 : w6.cell? ⟨w.heap.size, 2, none⟩ = some (.slice none 0 0) := by simp [World.cell?, hx6]
      have f0 : ∀ j, w6.frozen? ⟨w.heap.size, j, none⟩ = false := fun j => by simp [World.frozen?, hx6]
      clear hB6 hx6 ho6 hfar
      go_wp2
      refine bodyPost_ret (v := .tuple #[.agg #[.int .i64 k, .int .i64 s, .slice ko n kc], .int .i64 ((a : Int) + 9 + 4 + n), .int .i64 0]) (by simp [results, Tryd.results19, go_sem, a0, a1, a2]) rfl ?_
      refine .inl ⟨HSUM.out, ko, kc, ?_, ?_, ((HB6.out.setCell (Nat.le_refl _) _).setCell (Nat.le_refl _) _).setCell (Nat.le_refl _) _⟩
      · have : ((a + 13 + n : Nat) : Int) = (a : Int) + 9 + 4 + n := by omega
        rw [this]
      · exact HO6.out.heap fun g e => by rw [set_far _ _ _ _ _ (HFAR.out g e), set_far _ _ _ _ _ (HFAR.out g e), set_far _ _ _ _ _ (HFAR.out g e)]
    · rw [decide_eq_false hsum] at heq
      have HEQ := Lib.hid heq; have HSUM := Lib.hid hsum
      have a0 : w5.cell? ⟨w.heap.size, 0, none⟩ = some (.int .i64 0) := by simp [World.cell?, HX5.out]
      have a1 : w5.cell? ⟨w.heap.size, 1, none⟩ = some (.int .i64 0) := by simp [World.cell?, HX5.out]
      have a2 : w5.cell? ⟨w.heap.size, 2, none⟩ = some (.slice none 0 0) := by simp [World.cell?, HX5.out]
      have f0 : ∀ j, w5.frozen? ⟨w.heap.size, j, none⟩ = false := fun j => by simp [World.frozen?, HX5.out]
      clear heq hsum
      go_wp2_with (go_at_call 30; fail)
      rw [← HW5.out]
      refine HEQ.out.mono ?_
      rintro e w6 ⟨rfl, rfl⟩
      go_wp2
      refine bodyPost_ret (v := .tuple #[.agg #[.int .i64 0, .int .i64 0, .slice none 0 0], .int .i64 0, .int .i64 4]) (by simp [results, Tryd.results19, go_sem, a0, a1, a2]) rfl ?_
      exact .inr ⟨HSUM.out, rfl, ((HB5.out.setCell (Nat.le_refl _) _).setCell (Nat.le_refl _) _).setCell (Nat.le_refl _) _⟩
  · have hod : ∀ V, Below w.heap.size w V → Rd V (some ⟨b, o + (a + 9 + 4), none⟩) dz ∧ Rd V (some ⟨b, o + a, none⟩) hd ∧ Rd V (some ⟨b, o + (a + 9), none⟩) sz := fun V hV => by
      refine ⟨?_, ?_, ?_⟩
      · rw [HDZ.out]; exact ((HR.out.below hV).drop (a + 13)).take n
      · rw [HH.out]; exact ((HR.out.below hV).drop a).take 9
      · rw [HS.out]; exact ((HR.out.below hV).drop (a + 9)).take 4
    have hdl : dz.length = n := by rw [HDZ.out]; simp [HL.out]; omega
    have hhl : hd.length = 9 := by rw [HH.out]; simp [HL.out]; omega
    have hsl : sz.length = 4 := by rw [HS.out]; simp [HL.out]; omega
    have hdb : Bts dz := by rw [HDZ.out]; exact (HZ.out.drop _).take _
    have hhb : Bts hd := by rw [HH.out]; exact (HZ.out.drop _).take _
    have hsb : Bts sz := by rw [HS.out]; exact (HZ.out.drop _).take _
    have hsm : sm = ((sumOf (hd ++ dz)).toNat : Int) := HSM.out
    have hl4b : Bts (l4 sm) := by rw [hsm]; exact bts_l4 _ (sumOf _).isLt
    obtain ⟨r1, r2, r3⟩ := hod W0 HB0.out
    have HBY := Lib.hid (bytes_any (some ⟨W0.heap.size, 0, none⟩) 2 2 [⟨some ⟨b, o + a, none⟩, 9, cap - a, hd⟩, ⟨some ⟨b, o + (a + 9 + 4), none⟩, n, cap - (a + 9 + 4), dz⟩] (W0.alloc (.cells #[.slice (some ⟨b, o + a, none⟩) 9 (cap - a), .slice (some ⟨b, o + (a + 9 + 4), none⟩) n (cap - (a + 9 + 4))] 39)) sm (by rw [hsm]; simp [flat]) rfl (by decide) ((HT.out.below HB0.out).below ((Below.refl _ _).alloc (Nat.le_refl _) _)) (ps_new W0 [⟨some ⟨b, o + a, none⟩, 9, cap - a, hd⟩, ⟨some ⟨b, o + (a + 9 + 4), none⟩, n, cap - (a + 9 + 4), dz⟩] 39 (fun j hj => by
      match j, hj with
      | 0, _ => exact ⟨r2, hhl, hhb, by show 9 ≤ maxLen; unfold maxLen; omega, fun h => by cases h⟩
      | 1, _ => exact ⟨r1, hdl, hdb, by show n ≤ maxLen; unfold maxLen; omega, fun h => by cases h⟩)))
    have HOD := Lib.hid hod; have HDL := Lib.hid hdl; have HSL := Lib.hid hsl; have HSB := Lib.hid hsb; have HL4 := Lib.hid hl4b
    clear hod hdl hhl hsl hdb hhb hsb hsm hl4b r1 r2 r3 i5 i6 i7
    go_wp2_with (go_at_call 29; fail)
    refine HBY.out.mono ?_
    rintro e w4 ⟨rfl, hB4⟩
    have hB3 : Below W0.heap.size W0 (W0.alloc (.cells #[.slice (some ⟨b, o + a, none⟩) 9 (cap - a), .slice (some ⟨b, o + (a + 9 + 4), none⟩) n (cap - (a + 9 + 4))] 39)) := (Below.refl _ _).alloc (Nat.le_refl _) _
    have h04 : Below W0.heap.size W0 w4 := hB3.trans (hB4.mono hB3.size)
    obtain ⟨w5, hw5⟩ : ∃ w5, w5 = w4.alloc (.cells #[.int .u8 (sm % 256), .int .u8 (sm / 256 % 256), .int .u8 (sm / 65536 % 256), .int .u8 (sm / 16777216)] 60) := ⟨_, rfl⟩
    have h45 : Below w4.heap.size w4 w5 := by rw [hw5]; exact (Below.refl _ _).alloc (Nat.le_refl _) _
    have h05 := h04.trans (h45.mono h04.size)
    have HB5 := Lib.hid (HB0.out.trans (h05.mono HB0.out.size))
    have hz5 : w5.heap[w4.heap.size]? = some (.cells ((l4 sm).map (Value.int .u8)).toArray 60) := by rw [hw5]; exact heap_alloc_new _ _
    have hx5 : w5.heap[w.heap.size]? = some (.cells #[.int .i64 0, .int .i64 0, .slice none 0 0] 43) := by rw [h05.block _ (Array.getElem?_eq_some_iff.1 HX0.out).1]; exact HX0.out
    have heq := equal_any (some ⟨b, o + (a + 9), none⟩) (some ⟨w4.heap.size, 0, none⟩) 4 4 (cap - (a + 9)) 4 sz (l4 sm) w5 HSL.out rfl (HOD.out w5 HB5.out).2.2 (Rd.block hz5) HSB.out HL4.out
    have HX5 := Lib.hid hx5; have HW5 := Lib.hid hw5
    clear hB3 h04 h45 h05 hz5 hx5 hB4 hw5
    by_cases hsum : sz = l4 sm
    · rw [decide_eq_true hsum] at heq
      have HEQ := Lib.hid heq; have HSUM := Lib.hid hsum
      clear heq hsum
      have HCL := Lib.hid (clone_some ⟨b, o + (a + 9 + 4), none⟩ n (cap - (a + 9 + 4)) dz w5 HDL.out (by omega) (HOD.out w5 HB5.out).1)
      go_wp2_with (go_at_call 30; fail)
      rw [← HW5.out]
      refine HEQ.out.mono ?_
      rintro e w6 ⟨rfl, rfl⟩
      go_wp2_with (go_at_call 24; fail)
      refine HCL.out.mono ?_
      rintro e w6 ⟨ko, kc, rfl, ho6, hB6⟩
      have HB6 : Hid (Below w.heap.size w w6) := HB5.out.trans (hB6.mono HB5.out.size)
      have hx6 : w6.heap[w.heap.size]? = some (.cells #[.int .i64 0, .int .i64 0, .slice none 0 0] 43) := by rw [hB6.block _ (Array.getElem?_eq_some_iff.1 HX5.out).1]; exact HX5.out
      have hfar : ∀ g, ko = some ⟨g, 0, none⟩ → g ≠ w.heap.size := fun g e => by
        have hlt := (Array.getElem?_eq_some_iff.1 HX5.out).1
        by_cases h0 : 0 < n
        · obtain ⟨g', e', hge⟩ := ho6.at h0
          rw [e] at e'; cases e'; omega
        · have := own_ge ho6.2.2.2 g (by rw [e]; rfl)
          omega
      have HO6 := Lib.hid (ho6.base HB5.out.size); have HFAR := Lib.hid hfar
      have a0 : w6.cell? ⟨w.heap.size, 0, none⟩ = some (.int .i64 0) := by simp [World.cell?, hx6]
      have a1 : w6.cell? ⟨w.heap.size, 1, none⟩ = some (.int .i64 0) := by simp [World.cell?, hx6]
      have a2 : w6.cell? ⟨w.heap.size, 2, none⟩ = some (.slice none 0 0) := by simp [World.cell?, hx6]
      have f0 : ∀ j, w6.frozen? ⟨w.heap.size, j, none⟩ = false := fun j => by simp [World.frozen?, hx6]
      clear hB6 hx6 ho6 hfar
      go_wp2
      refine bodyPost_ret (v := .tuple #[.agg #[.int .i64 k, .int .i64 s, .slice ko n kc], .int .i64 ((a : Int) + 9 + 4 + n), .int .i64 0]) (by simp [results, Tryd.results19, go_sem, a0, a1, a2]) rfl ?_
      refine .inl ⟨HSUM.out, ko, kc, ?_, ?_, ((HB6.out.setCell (Nat.le_refl _) _).setCell (Nat.le_refl _) _).setCell (Nat.le_refl _) _⟩
      · have : ((a + 13 + n : Nat) : Int) = (a : Int) + 9 + 4 + n := by omega
        rw [this]
      · exact HO6.out.heap fun g e => by rw [set_far _ _ _ _ _ (HFAR.out g e), set_far _ _ _ _ _ (HFAR.out g e), set_far _ _ _ _ _ (HFAR.out g e)]
    · rw [decide_eq_false hsum] at heq
      have HEQ := Lib.hid heq; have HSUM := Lib.hid hsum
      have a0 : w5.cell? ⟨w.heap.size, 0, none⟩ = some (.int .i64 0) := by simp [World.cell?, HX5.out]
      have a1 : w5.cell? ⟨w.heap.size, 1, none⟩ = some (.int .i64 0) := by simp [World.cell?, HX5.out]
      have a2 : w5.cell? ⟨w.heap.size, 2, none⟩ = some (.slice none 0 0) := by simp [World.cell?, HX5.out]
      have f0 : ∀ j, w5.frozen? ⟨w.heap.size, j, none⟩ = false := fun j => by simp [World.frozen?, HX5.out]
      clear heq hsum
      go_wp2_with (go_at_call 30; fail)
      rw [← HW5.out]
      refine HEQ.out.mono ?_
      rintro e w6 ⟨rfl, rfl⟩
      go_wp2
      refine bodyPost_ret (v := .tuple #[.agg #[.int .i64 0, .int .i64 0, .slice none 0 0], .int .i64 0, .int .i64 4]) (by simp [results, Tryd.results19, go_sem, a0, a1, a2]) rfl ?_
      exact .inr ⟨HSUM.out, rfl, ((HB5.out.setCell (Nat.le_refl _) _).setCell (Nat.le_refl _) _).setCell (Nat.le_refl _) _⟩

end Go.Proofs.YtifbbikhjolnjaaDoor
