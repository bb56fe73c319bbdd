/-
  The document's own frame.
-/
import Derived.Test.YtmbkgjiofkggcaaDoorFrame16
import Derived.Test.YtmbkgjiofkggcaaDoorFRefs
import Derived.Test.YtmbkgjiofkggcaaDoorRefs2
import Derived.Deep.RegionHeld3
namespace Go.Proofs.YtmbkgjiofkggcaaDoor
open Go.RowKit
set_option linter.unusedVariables false

theorem ow_len {w : World} {base n cap : Nat} {ao : Option Addr} {zs : List Int} (h : Ow w base ao n cap zs) : zs.length = n := h.1
set_option maxHeartbeats 1000000 in
theorem rframe_ok (r : Rec) (w : World) (h : nok r.k r.s) (hn : r.d.l ≤ 8000) (hd : r.d.ok w) : Calls Tryd.prog 20 #[r.v] w (R1 w (13 + r.d.l) (fr r.k r.s r.d.z)) := by
  obtain ⟨k, s, ⟨da, n, dc, z⟩⟩ := r
  simp only at h hn
  show Calls Tryd.prog 20 #[.agg #[.int .i64 k, .int .i64 s, .slice da n dc]] w (R1 w (13 + n) (fr k s z))
  obtain ⟨h1, h2, h3, h4⟩ := h
  have hd1 : Part.ok w ⟨da, n, dc, z⟩ := hd
  obtain ⟨W0, hW0⟩ : ∃ W0, W0 = w.alloc (.cells #[.int .i64 k, .int .i64 s, .slice da n dc] 29) := ⟨_, rfl⟩
  have hb0 : Below w.heap.size w W0 := by rw [hW0]; exact (Below.refl _ _).alloc (Nat.le_refl _) _
  have hk0 : W0.heap[w.heap.size]? = some (.cells #[.int .i64 k, .int .i64 s, .slice da n dc] 29) := by rw [hW0]; exact heap_alloc_new _ _
  have hlb := (Array.getElem?_eq_some_iff.1 hk0).1
  have hS : ∀ V, Below W0.heap.size W0 V → V.cell? ⟨w.heap.size, 0, none⟩ = some (.int .i64 k) ∧ V.cell? ⟨w.heap.size, 1, none⟩ = some (.int .i64 s) ∧ V.cell? ⟨w.heap.size, 2, none⟩ = some (.slice da n dc) := fun V hV => by
    have kk : V.heap[w.heap.size]? = some (.cells #[.int .i64 k, .int .i64 s, .slice da n dc] 29) := by rw [hV.block _ hlb]; exact hk0
    simp [World.cell?, kk]
  obtain ⟨bs, hbs⟩ : ∃ bs, bs = be s.toNat 4 := ⟨_, rfl⟩
  obtain ⟨bn, hbn⟩ : ∃ bn, bn = be n 4 := ⟨_, rfl⟩
  have hbe1 : ∀ V, Calls Tryd.prog 42 #[.int .i64 s, .int .i64 4] V (R1 V 4 bs) := fun V => by
    have := rbe1_ok s.toNat 4 V (by omega) (by omega) (by omega)
    rw [hbs]
    rwa [Int.toNat_of_nonneg h3] at this
  have hbe2 : ∀ V, Calls Tryd.prog 42 #[.int .i64 (n : Int), .int .i64 4] V (R1 V 4 bn) := fun V => by
    rw [hbn]; exact rbe1_ok n 4 V (by omega) (by omega) (by omega)
  have hhd : fhead k s n = ([k] ++ bs) ++ bn := by unfold fhead; rw [be_one k (by omega) (by omega), hbs, hbn]
  have hu1 : IntKind.u8.wrap k = k := by unfold IntKind.wrap; simp [IntKind.bits]; omega
  have hd0 : ∀ V, Below W0.heap.size W0 V → Part.ok V ⟨da, n, dc, z⟩ := fun V hV => (hd.below hb0).below hV
  clear hd
  obtain ⟨hd, hhdd⟩ : ∃ hd', hd' = fhead k s n := ⟨_, rfl⟩
  obtain ⟨sm, hsm⟩ : ∃ sm, sm = ((sumOf (hd ++ z)).toNat : Int) := ⟨_, rfl⟩
  have hzl : z.length = n := hd1.len
  have hfr : fr k s z = hd ++ l4 sm ++ z := by rw [hsm, hhdd]; unfold fr; rw [hzl]
  have hbz : Bts (hd ++ z) := by rw [hhdd]; exact bts_app (fhead_bts _ _ _) hd1.bts
  have HFR := Lib.hid hfr; have HBZ := Lib.hid hbz; have HSM := Lib.hid hsm; have HHH := Lib.hid hhdd
  clear hfr hbz hsm hhdd hzl hd1
  have HS := Lib.hid hS; have HE1 := Lib.hid hbe1; have HE2 := Lib.hid hbe2; have HHD := Lib.hid hhd; have HD := Lib.hid hd0; have HB0 := Lib.hid hb0; have HW0 := Lib.hid hW0
  clear hS hbe1 hbe2 hhd hd0 hb0 hW0 hk0 hlb h1 h2 h3 h4 hbs hbn
  go_enter Tryd.func20, Tryd.ntmps20
  go_wp2
  rw [← HW0.out]
  go_region_held3 (fun V => V.cell? ⟨w.heap.size, 0, none⟩ = some (.int .i64 k) ∧ V.cell? ⟨w.heap.size, 1, none⟩ = some (.int .i64 s) ∧ V.cell? ⟨w.heap.size, 2, none⟩ = some (.slice da n dc)) (first | exact HS.out _ (Below.refl _ _).drew | exact HS.out _ ((Below.refl _ _).alloc (Nat.le_refl _) _).drew | exact HS.out _ HB9.out | exact HS.out _ HB7.out | exact HS.out _ HB8.out | exact HS.out _ HB5.out | exact HS.out _ HBB5.out | exact HS.out _ (HBB5.out.alloc HBB5.out.size _))
    (first
     | (go_at_call 42; (with_reducible refine (HE1.out _).mono ?_); rintro e w5 ⟨k5, c5, rfl, ho5, hB5⟩;
        have hsz : W0.heap.size ≤ (W0.alloc (.cells #[.int .u8 k] 5)).drew.heap.size := (by show _ ≤ (W0.alloc _).heap.size; rw [World.size_alloc]; exact Nat.le_succ _);
        have HR5 : Hid (Ow w5 W0.heap.size (some ⟨W0.heap.size, 0, none⟩) 1 1 [k]) := (ow_new W0 W0.heap.size [k] 1 rfl (by unfold maxLen; omega) (Nat.le_refl _)).below (below_undrew hB5);
        have HO5 : Hid (Ow w5 W0.heap.size k5 4 c5 bs) := ho5.base hsz;
        have HB5 : Hid (Below W0.heap.size W0 w5) := ((Below.refl _ _).alloc (Nat.le_refl _) _).drew.trans (hB5.mono hsz);
        have HZ5 : Hid (W0.heap.size < w5.heap.size) := (HR5.out.lt rfl);
        clear ho5 hB5 hsz)
     | (go_at_call 42; (with_reducible refine (HE1.out W0.drew).mono ?_); rintro e w5 ⟨k5, c5, rfl, ho5, hB5⟩;
        have HOB5 : Hid (Ow w5 W0.heap.size k5 4 c5 bs) := ho5;
        have HBB5 : Hid (Below W0.heap.size W0 w5) := (Below.refl _ _).drew.trans hB5;
        clear ho5 hB5)
     | (obtain ⟨g5, rfl, _⟩ := HOB5.out.at (by omega);
        refine step_append_bytes rfl (.tmp 8) (.tmp 11) rfl W0.heap.size 1 1 4 c5 (some ⟨w5.heap.size, 0, none⟩) ⟨g5, 0, none⟩ [k] bs rfl (ow_new w5 W0.heap.size [k] 1 rfl (by unfold maxLen; omega) HBB5.out.size) rfl (HOB5.out.below ((Below.refl _ _).alloc (Nat.le_refl _) _)).rd HOB5.out.1 (by omega) (HBB5.out.alloc HBB5.out.size _).size ?_;
        intro k7 c7 w7 ho7 hB7;
        have HO7 := Lib.hid ho7;
        have HB7 : Hid (Below W0.heap.size W0 w7) := (HBB5.out.alloc HBB5.out.size _).trans hB7;
        clear ho7 hB7)
     | (go_at_call 42; (with_reducible refine (HE2.out w7).mono ?_); rintro e w8 ⟨k8, c8, rfl, ho8, hB8⟩;
        have HP8 := Lib.hid (HO7.out.below hB8);
        have HO8 : Hid (Ow w8 W0.heap.size k8 4 c8 bn) := ho8.base HB7.out.size;
        have HB8 : Hid (Below W0.heap.size W0 w8) := HB7.out.trans (hB8.mono HB7.out.size);
        clear ho8 hB8)
     | (go_at_call 42; (with_reducible refine (HE2.out w5).mono ?_); rintro e w8 ⟨k8, c8, rfl, ho8, hB8⟩;
        have HR8 := Lib.hid (HR5.out.below hB8);
        have HQ8 := Lib.hid (HO5.out.below hB8);
        have HG8 : Hid (∀ g, k8 = some ⟨g, 0, none⟩ → w5.heap.size ≤ g ∧ g < w8.heap.size) := (fun g e => ⟨own_ge ho8.2.2.2 g (by rw [e]; rfl), ho8.lt e⟩);
        have HO8 : Hid (Ow w8 W0.heap.size k8 4 c8 bn) := ho8.base HB5.out.size;
        have HB8 : Hid (Below W0.heap.size W0 w8) := HB5.out.trans (hB8.mono HB5.out.size);
        clear ho8 hB8)
     | (obtain ⟨g8, rfl, _⟩ := HO8.out.at (by omega);
        refine step_append_bytes rfl (.tmp 12) (.tmp 16) rfl W0.heap.size 5 c7 4 c8 k7 ⟨g8, 0, none⟩ ([k] ++ bs) bn rfl HP8.out rfl HO8.out.rd HO8.out.1 (by omega) HB8.out.size ?_;
        intro k9 c9 w9 ho9 hB9;
        have HO9 := Lib.hid ho9;
        have HB9 : Hid (Below W0.heap.size W0 w9) := HB8.out.trans hB9;
        clear ho9 hB9)
     | (obtain ⟨g5, rfl, _⟩ := HO5.out.at (by omega);
        refine step_append_far rfl (.tmp 8) (.tmp 11) rfl W0.heap.size 1 1 4 c5 (some ⟨W0.heap.size, 0, none⟩) ⟨g5, 0, none⟩ [k] bs rfl HR8.out rfl HQ8.out.rd HQ8.out.1 (by omega) (by omega) HB8.out.size ?_;
        intro g7 c7 w7 ho7 hB7 hf7 hs7;
        have HP8 := Lib.hid ho7;
        have HO8 : Hid (Ow w7 W0.heap.size k8 4 c8 bn) := HO8.out.heap (fun g e => (hf7 g (HG8.out g e).2 (fun ad ea => by cases ea; have := (HG8.out g e).1; have := HZ5.out; simp only; omega)).2);
        have HB8 : Hid (Below W0.heap.size W0 w7) := HB8.out.trans hB7;
        obtain ⟨k7, hk7⟩ : ∃ k7 : Option Addr, k7 = some ⟨g7, 0, none⟩ := ⟨_, rfl⟩;
        rw [← hk7] at HP8 ⊢;
        clear ho7 hB7 hf7 hs7 hk7)
     | (obtain ⟨g5, rfl, _⟩ := HO5.out.at (by omega);
        refine step_append_bytes rfl (.tmp 8) (.tmp 11) rfl W0.heap.size 1 1 4 c5 (some ⟨W0.heap.size, 0, none⟩) ⟨g5, 0, none⟩ [k] bs rfl HR5.out rfl HO5.out.rd HO5.out.1 (by omega) HB5.out.size ?_;
        intro k7 c7 w7 ho7 hB7;
        have HO7 := Lib.hid ho7;
        have HB7 : Hid (Below W0.heap.size W0 w7) := HB5.out.trans hB7;
        clear ho7 hB7))
  all_goals
    have HO9H : Hid (Ow w9 W0.heap.size k9 9 c9 hd) := by
      have h1 := HO9.out
      rw [HHH.out, HHD.out]; exact h1
    have HTW := Lib.hid (fun V (hV : Below w9.heap.size w9 V) => twin_any k9 9 c9 hd V HO9H.out.1 (by omega) ((HO9H.out.below hV).rd) (fun h => HO9H.out.nil h))
    have HDZ := Lib.hid (fun V (hV : Below w9.heap.size w9 V) => HD.out V (HB9.out.trans (hV.mono HB9.out.size)))
    clear HO9
    go_wp2
    go_region_held3 (fun V => V.cell? ⟨w.heap.size, 0, none⟩ = some (.int .i64 k) ∧ V.cell? ⟨w.heap.size, 1, none⟩ = some (.int .i64 s) ∧ V.cell? ⟨w.heap.size, 2, none⟩ = some (.slice da n dc)) (first | exact HS.out _ HB9.out.drew | exact HS.out _ HB9.out | exact HS.out _ (HB9.out.trans (HB10.out.mono HB9.out.size)) | exact HS.out _ (HB9.out.trans (HB11.out.mono HB9.out.size)) | exact HS.out _ (HB9.out.trans (HB12.out.mono HB9.out.size)))
      (first
        | (go_at_call 25; (with_reducible refine (HTW.out _ (Below.refl _ _).drew).mono ?_); rintro e w10 ⟨k10, c10, rfl, ho10, hB10⟩;
           have HO10 : Hid (Ow w10 w9.heap.size k10 9 c10 hd) := ho10;
           have HB10 : Hid (Below w9.heap.size w9 w10) := (Below.refl _ _).drew.trans hB10;
           clear ho10 hB10)
        | (refine step_append_any rfl (.tmp 19) (.tmp 21) rfl w9.heap.size 9 c10 n dc k10 da hd z rfl HO10.out rfl (HDZ.out w10 HB10.out).rd (HDZ.out w10 HB10.out).len (HDZ.out w10 HB10.out).nil (by omega) HB10.out.size ?_;
           intro k11 c11 w11 ho11 hB11;
           have HO11 := Lib.hid ho11;
           have HB11 : Hid (Below w9.heap.size w9 w11) := HB10.out.trans hB11;
           clear ho11 hB11)
        | (go_at_call 43; (with_reducible refine (refsum_any k11 (9 + n) c11 (hd ++ z) w11 sm HSM.out (ow_len HO11.out) (by omega) HO11.out.rd HBZ.out).mono ?_); rintro e w12 ⟨g12, rfl, hr12, hB12⟩;
           have HR12 := Lib.hid hr12;
           have HB12 : Hid (Below w9.heap.size w9 w12) := HB11.out.trans (hB12.mono HB11.out.size);
           clear hr12 hB12))
    have HO12 := Lib.hid (HO9H.out.below HB12.out)
    have HW12 : Hid (Below W0.heap.size W0 w12) := HB9.out.trans (HB12.out.mono HB9.out.size)
    clear HTW HO10 HO11 HB10 HB11 HB12 HO9H
    go_wp2
    go_region_held3 (fun V => V.cell? ⟨w.heap.size, 0, none⟩ = some (.int .i64 k) ∧ V.cell? ⟨w.heap.size, 1, none⟩ = some (.int .i64 s) ∧ V.cell? ⟨w.heap.size, 2, none⟩ = some (.slice da n dc)) (first | exact HS.out _ HW12.out.drew | exact HS.out _ HW12.out | exact HS.out _ HW13.out | exact HS.out _ HW14.out)
      (first
        | (refine step_append_any rfl (.tmp 24) (.tmp 25) rfl W0.heap.size 9 c9 4 4 k9 (some ⟨g12, 0, none⟩) hd (l4 sm) rfl (HO12.out.below (Below.refl _ _).drew) rfl (HR12.out.below (Below.refl _ _).drew) rfl (fun h => by cases h) (by omega) HW12.out.drew.size ?_;
           intro k13 c13 w13 ho13 hB13;
           have HO13 := Lib.hid ho13;
           have HW13 : Hid (Below W0.heap.size W0 w13) := HW12.out.drew.trans hB13;
           clear ho13 hB13)
        | (refine step_append_any rfl (.tmp 26) (.tmp 28) rfl W0.heap.size 13 c13 n dc k13 da (hd ++ l4 sm) z rfl HO13.out rfl (HD.out w13 HW13.out).rd (HD.out w13 HW13.out).len (HD.out w13 HW13.out).nil (by omega) HW13.out.size ?_;
           intro k14 c14 w14 ho14 hB14;
           have HO14 := Lib.hid ho14;
           have HW14 : Hid (Below W0.heap.size W0 w14) := HW13.out.trans hB14;
           clear ho14 hB14))
    have HE : Hid (R1 w (13 + n) (fr k s z) (.returned (.slice k14 (13 + n) c14)) w14) := by
      refine ⟨k14, c14, rfl, ?_, HB0.out.trans (HW14.out.mono HB0.out.size)⟩
      rw [HFR.out]
      exact HO14.out.base HB0.out.size
    clear HO14 HW14 HO12 HR12
    go_wp2
    go_ret
    exact HE.out

end Go.Proofs.YtmbkgjiofkggcaaDoor
