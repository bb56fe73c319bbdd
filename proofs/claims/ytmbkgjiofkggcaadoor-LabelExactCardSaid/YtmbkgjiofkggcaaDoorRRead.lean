/-
  The contract of the document's own ReadLabel.
-/
import Derived.Test.YtmbkgjiofkggcaaDoorRefs2
namespace Go.Proofs.YtmbkgjiofkggcaaDoor
open Go.RowKit
set_option linter.unusedVariables false

theorem rread_not (ao : Option Addr) (n cap : Nat) (w : World) (h : n ≠ 14) : Calls Tryd.prog 40 #[.slice ao n cap] w (RL w 0 0 0 13) := by
  have d1 : ((n : Int) == 14) = false := beq_eq_false_iff_ne.2 (by omega)
  have d2 : ((n : Int) != 14) = true := by rw [bne, d1]; rfl
  go_enter Tryd.func40, Tryd.ntmps40
  go_wp2
  refine bodyPost_ret (v := .tuple #[.agg #[.int .i64 0, .int .i64 0, .int .i64 0], .int .i64 13]) (by simp [results, Tryd.results40, go_sem]) rfl ⟨rfl, ?_⟩
  first | exact (Below.refl _ _).alloc (Nat.le_refl _) _ | exact ((Below.refl _ _).alloc (Nat.le_refl _) _).setCell (Nat.le_refl _) _

set_option maxHeartbeats 1000000 in
theorem rread_14 (ao : Option Addr) (cap : Nat) (zs : List Int) (w : World) (hl : zs.length = 14) (hnc : 14 ≤ cap) (hcm : cap ≤ maxLen) (hr : Rd w ao zs) (hz : Bts zs) : Calls Tryd.prog 40 #[.slice ao 14 cap] w (RLs w zs) := by
  obtain ⟨b, o, rfl, hc⟩ := hr.at (by omega)
  obtain ⟨v, hv⟩ : ∃ v, v = fv zs := ⟨_, rfl⟩
  obtain ⟨p, hp⟩ : ∃ p, p = fp zs := ⟨_, rfl⟩
  obtain ⟨e, he⟩ : ∃ e, e = fe zs := ⟨_, rfl⟩
  have hv4 : zs.getD 4 0 = v := by
    rw [hv]; unfold fv
    rcases zs with _ | ⟨z0, _ | ⟨z1, _ | ⟨z2, _ | ⟨z3, _ | ⟨z4, zs⟩⟩⟩⟩⟩ <;> simp [num] at hl ⊢
    have := hz 4 (by simp)
    simp at this
    omega
  have hp5 : zs.getD 5 0 = p := by
    rw [hp]; unfold fp
    rcases zs with _ | ⟨z0, _ | ⟨z1, _ | ⟨z2, _ | ⟨z3, _ | ⟨z4, _ | ⟨z5, zs⟩⟩⟩⟩⟩⟩ <;> simp [num] at hl ⊢
    have := hz 5 (by simp)
    simp at this
    omega
  obtain ⟨W0, hW0⟩ : ∃ W0, W0 = w.alloc (.cells #[.int .i64 0, .int .i64 0, .int .i64 0] 54) := ⟨_, rfl⟩
  have hb0 : Below w.heap.size w W0 := by rw [hW0]; exact (Below.refl _ _).alloc (Nat.le_refl _) _
  have h4 : w.cell? ⟨b, o + 4, none⟩ = some (.int .u8 v) := by rw [← hv4]; exact hc 4 (by omega)
  have h5 : w.cell? ⟨b, o + 5, none⟩ = some (.int .u8 p) := by rw [← hp5]; exact hc 5 (by omega)
  have hS : ∀ V, Below w.heap.size w V → V.cell? ⟨b, o + 4, none⟩ = some (.int .u8 v) ∧ V.cell? ⟨b, o + 5, none⟩ = some (.int .u8 p) := fun V hV => by
    refine ⟨?_, ?_⟩
    · rw [hV.cell (cell_lt h4)]; exact h4
    · rw [hV.cell (cell_lt h5)]; exact h5
  have hnum : ∀ V, Below w.heap.size w V → Calls Tryd.prog 52 #[.slice (some ⟨b, o + 6, none⟩) 4 (cap - 6)] V fun r w' => r = .returned (.int .i64 e) ∧ V = w' := fun V hV => by
    have hr6 : Rd V (some ⟨b, o + 6, none⟩) ((zs.drop 6).take 4) := ((hr.below hV).drop 6).take 4
    have := rnum_any (some ⟨b, o + 6, none⟩) 4 (cap - 6) ((zs.drop 6).take 4) V (by simp; omega) (by omega) (by omega) (by omega) hr6 ((hz.drop 6).take 4) (by omega)
    rw [he]; exact this
  have hcap : ¬ cap = 6 := by omega
  have hvb := hz 4 (by omega)
  have hpb := hz 5 (by omega)
  rw [hv4] at hvb
  rw [hp5] at hpb
  have hwv : IntKind.i64.wrap v = v := by rw [IntKind.wrap_i64] <;> omega
  have hwp : IntKind.i64.wrap p = p := by rw [IntKind.wrap_i64] <;> omega
  have hi1 : (10 : Int) ≤ (cap : Int) := by omega
  have hi2 : (6 : Int) ≤ (cap : Int) := by omega
  have hd14 : ((14 : Int) != 14) = false := by decide
  have HS := Lib.hid hS; have HN := Lib.hid hnum; have HV := Lib.hid hv; have HP := Lib.hid hp; have HE := Lib.hid he
  have HZ := Lib.hid hz; have HL := Lib.hid hl; have HR := Lib.hid hr
  clear hS hnum hv hp he hvb hpb hv4 hp5 hc hz hl hr hW0 hb0 h4 h5
  clear W0
  go_enter Tryd.func40, Tryd.ntmps40
  go_wp2
  obtain ⟨W, hW⟩ : ∃ W, W = w.alloc (.cells #[.int .i64 0, .int .i64 0, .int .i64 0] 54) := ⟨_, rfl⟩
  have hBW : Below w.heap.size w W := by rw [hW]; exact (Below.refl _ _).alloc (Nat.le_refl _) _
  have hW0 : W.heap[w.heap.size]? = some (.cells #[.int .i64 0, .int .i64 0, .int .i64 0] 54) := by rw [hW]; exact heap_alloc_new _ _
  rw [← hW]
  have HBW := Lib.hid hBW; have HW0 := Lib.hid hW0
  clear hW hBW hW0
  go_region_held3 (fun V => V.cell? ⟨b, o + 4, none⟩ = some (.int .u8 v) ∧ V.cell? ⟨b, o + 5, none⟩ = some (.int .u8 p)) (first | exact HS.out _ HBW.out.drew | exact HS.out _ (HBW.out.alloc HBW.out.size _).drew | exact HS.out _ (HBW.out.drew.alloc HBW.out.size _) | exact HS.out _ ((((HBW.out.alloc HBW.out.size _).drew.setCell HBW.out.size _).setCell HBW.out.size _).setCell HBW.out.size _) | exact HS.out _ ((((HBW.out.drew.alloc HBW.out.size _).setCell HBW.out.size _).setCell HBW.out.size _).setCell HBW.out.size _))
    (first
      | (go_at_call 52; (with_reducible refine (HN.out _ HBW.out.drew).mono ?_); rintro r w5 ⟨rfl, rfl⟩)
      | (go_at_call 52; (with_reducible refine (HN.out _ (HBW.out.alloc HBW.out.size _).drew).mono ?_); rintro r w5 ⟨rfl, rfl⟩)
      | (go_at_call 52; (with_reducible refine (HN.out _ (HBW.out.drew.alloc HBW.out.size _)).mono ?_); rintro r w5 ⟨rfl, rfl⟩))
  all_goals
    obtain ⟨X, hX⟩ : ∃ X, X = (W.alloc (.cells #[.int .i64 v, .int .i64 p, .int .i64 e] 54)).drew := ⟨_, rfl⟩
    have hBX : Below W.heap.size W X := by rw [hX]; exact ((Below.refl _ _).alloc (Nat.le_refl _) _).drew
    have hX1 : X.heap[W.heap.size]? = some (.cells #[.int .i64 v, .int .i64 p, .int .i64 e] 54) := by rw [hX]; exact heap_alloc_new _ _
    have hX0 : X.heap[w.heap.size]? = some (.cells #[.int .i64 0, .int .i64 0, .int .i64 0] 54) := by rw [hBX.block _ (Array.getElem?_eq_some_iff.1 HW0.out).1]; exact HW0.out
    rw [← hX]
    have HX : Hid (Below w.heap.size w X) := HBW.out.trans (hBX.mono HBW.out.size)
    have HX0 := Lib.hid hX0; have HX1 := Lib.hid hX1
    have x0 : X.cell? ⟨W.heap.size, 0, none⟩ = some (.int .i64 v) := by simp [World.cell?, hX1]
    have x1 : X.cell? ⟨W.heap.size, 1, none⟩ = some (.int .i64 p) := by simp [World.cell?, hX1]
    have x2 : X.cell? ⟨W.heap.size, 2, none⟩ = some (.int .i64 e) := by simp [World.cell?, hX1]
    clear hBX hX1 hX0 hX
    have HRL := Lib.hid (rlabel_any v p e X)
    go_wp2_with (go_at_call 34; fail)
    refine HRL.out.mono ?_
    rintro r w1 ⟨hr1, hB1⟩
    have HX' : Hid (Below w.heap.size w w1) := HX.out.trans (hB1.mono HX.out.size)
    have y0 : w1.heap[w.heap.size]? = some (.cells #[.int .i64 0, .int .i64 0, .int .i64 0] 54) := by rw [hB1.block _ (Array.getElem?_eq_some_iff.1 HX0.out).1]; exact HX0.out
    have y1 : w1.heap[W.heap.size]? = some (.cells #[.int .i64 v, .int .i64 p, .int .i64 e] 54) := by rw [hB1.block _ (Array.getElem?_eq_some_iff.1 HX1.out).1]; exact HX1.out
    have a0 : w1.cell? ⟨w.heap.size, 0, none⟩ = some (.int .i64 0) := by simp [World.cell?, y0]
    have a1 : w1.cell? ⟨w.heap.size, 1, none⟩ = some (.int .i64 0) := by simp [World.cell?, y0]
    have a2 : w1.cell? ⟨w.heap.size, 2, none⟩ = some (.int .i64 0) := by simp [World.cell?, y0]
    have b0 : w1.cell? ⟨W.heap.size, 0, none⟩ = some (.int .i64 v) := by simp [World.cell?, y1]
    have b1 : w1.cell? ⟨W.heap.size, 1, none⟩ = some (.int .i64 p) := by simp [World.cell?, y1]
    have b2 : w1.cell? ⟨W.heap.size, 2, none⟩ = some (.int .i64 e) := by simp [World.cell?, y1]
    have f0 : ∀ j, w1.frozen? ⟨w.heap.size, j, none⟩ = false := fun j => by simp [World.frozen?, y0]
    have Y0 := Lib.hid y0; have Y1 := Lib.hid y1
    clear y0 y1 hB1 x0 x1 x2
    rcases hr1 with ⟨hlok, rfl⟩ | ⟨hlok, rfl⟩
    · have HLB := Lib.hid (rlb_ok v p e w1 hlok)
      have HLOK := Lib.hid hlok
      clear hlok a0 a1 a2 f0
      go_wp2_with (go_at_call 38; fail)
      refine HLB.out.mono ?_
      rintro r w2 ⟨ko, kc, rfl, how, hB2⟩
      have HX2 : Hid (Below w.heap.size w w2) := HX'.out.trans (hB2.mono HX'.out.size)
      have hcm2 := bytes_cmp ko (some ⟨b, o, none⟩) 14 14 kc cap (lab v p e) zs w2 how.1 HL.out (by unfold maxLen; omega) how.rd (HR.out.below HX2.out)
      have y0 : w2.heap[w.heap.size]? = some (.cells #[.int .i64 0, .int .i64 0, .int .i64 0] 54) := by rw [hB2.block _ (Array.getElem?_eq_some_iff.1 Y0.out).1]; exact Y0.out
      have y1 : w2.heap[W.heap.size]? = some (.cells #[.int .i64 v, .int .i64 p, .int .i64 e] 54) := by rw [hB2.block _ (Array.getElem?_eq_some_iff.1 Y1.out).1]; exact Y1.out
      have Z0 := Lib.hid y0; have Z1 := Lib.hid y1
      clear how hB2 y0 y1 b0 b1 b2
      by_cases hzs : lab v p e = zs
      · have hd : decide (lab v p e = zs) = true := decide_eq_true hzs
        rw [hd] at hcm2
        have hlab : isLab zs := ⟨by rw [← HV.out, ← HP.out, ← HE.out]; exact HLOK.out, by rw [← HV.out, ← HP.out, ← HE.out]; exact hzs.symm⟩
        have HCM := Lib.hid hcm2; have HLAB := Lib.hid hlab
        clear hcm2 hlab hd hzs
        go_wp2_with (go_at_call 19; fail)
        refine HCM.out.mono ?_
        rintro r w3 ⟨rfl, q, rfl⟩
        have HX3 : Hid (Below w.heap.size w (w2.drewN q)) := below_drewN HX2.out q
        have y0 : (w2.drewN q).heap[w.heap.size]? = some (.cells #[.int .i64 0, .int .i64 0, .int .i64 0] 54) := Z0.out
        have y1 : (w2.drewN q).heap[W.heap.size]? = some (.cells #[.int .i64 v, .int .i64 p, .int .i64 e] 54) := Z1.out
        obtain ⟨w3, hw3⟩ : ∃ w3, w3 = w2.drewN q := ⟨_, rfl⟩
        rw [← hw3] at HX3 y0 y1 ⊢
        have a0 : w3.cell? ⟨w.heap.size, 0, none⟩ = some (.int .i64 0) := by simp [World.cell?, y0]
        have a1 : w3.cell? ⟨w.heap.size, 1, none⟩ = some (.int .i64 0) := by simp [World.cell?, y0]
        have a2 : w3.cell? ⟨w.heap.size, 2, none⟩ = some (.int .i64 0) := by simp [World.cell?, y0]
        have b0 : w3.cell? ⟨W.heap.size, 0, none⟩ = some (.int .i64 v) := by simp [World.cell?, y1]
        have b1 : w3.cell? ⟨W.heap.size, 1, none⟩ = some (.int .i64 p) := by simp [World.cell?, y1]
        have b2 : w3.cell? ⟨W.heap.size, 2, none⟩ = some (.int .i64 e) := by simp [World.cell?, y1]
        have f0 : ∀ j, w3.frozen? ⟨w.heap.size, j, none⟩ = false := fun j => by simp [World.frozen?, y0]
        clear hw3 y0 y1
        go_wp2
        refine bodyPost_ret (v := .tuple #[.agg #[.int .i64 v, .int .i64 p, .int .i64 e], .int .i64 0]) (by simp [results, Tryd.results40, go_sem, a0, a1, a2]) rfl ?_
        exact .inl ⟨HLAB.out, by rw [← HV.out, ← HP.out, ← HE.out], ((HX3.out.setCell (Nat.le_refl _) _).setCell (Nat.le_refl _) _).setCell (Nat.le_refl _) _⟩
      · have hd : decide (lab v p e = zs) = false := decide_eq_false hzs
        rw [hd] at hcm2
        have hlab : ¬ isLab zs := fun h => hzs (by rw [HV.out, HP.out, HE.out]; exact h.2.symm)
        have HCM := Lib.hid hcm2; have HLAB := Lib.hid hlab
        clear hcm2 hlab hd hzs
        go_wp2_with (go_at_call 19; fail)
        refine HCM.out.mono ?_
        rintro r w3 ⟨rfl, q, rfl⟩
        have HX3 : Hid (Below w.heap.size w (w2.drewN q)) := below_drewN HX2.out q
        have y0 : (w2.drewN q).heap[w.heap.size]? = some (.cells #[.int .i64 0, .int .i64 0, .int .i64 0] 54) := Z0.out
        obtain ⟨w3, hw3⟩ : ∃ w3, w3 = w2.drewN q := ⟨_, rfl⟩
        rw [← hw3] at HX3 y0 ⊢
        have a0 : w3.cell? ⟨w.heap.size, 0, none⟩ = some (.int .i64 0) := by simp [World.cell?, y0]
        have a1 : w3.cell? ⟨w.heap.size, 1, none⟩ = some (.int .i64 0) := by simp [World.cell?, y0]
        have a2 : w3.cell? ⟨w.heap.size, 2, none⟩ = some (.int .i64 0) := by simp [World.cell?, y0]
        have f0 : ∀ j, w3.frozen? ⟨w.heap.size, j, none⟩ = false := fun j => by simp [World.frozen?, y0]
        clear hw3 y0
        go_wp2
        refine bodyPost_ret (v := .tuple #[.agg #[.int .i64 0, .int .i64 0, .int .i64 0], .int .i64 13]) (by simp [results, Tryd.results40, go_sem, a0, a1, a2]) rfl ?_
        exact .inr ⟨HLAB.out, rfl, ((HX3.out.setCell (Nat.le_refl _) _).setCell (Nat.le_refl _) _).setCell (Nat.le_refl _) _⟩
    · have hlab : ¬ isLab zs := fun h => hlok (by rw [HV.out, HP.out, HE.out]; exact h.1)
      have HLAB := Lib.hid hlab
      clear hlok hlab b0 b1 b2
      go_wp2
      refine bodyPost_ret (v := .tuple #[.agg #[.int .i64 0, .int .i64 0, .int .i64 0], .int .i64 13]) (by simp [results, Tryd.results40, go_sem, a0, a1, a2]) rfl ?_
      exact .inr ⟨HLAB.out, rfl, ((HX'.out.setCell (Nat.le_refl _) _).setCell (Nat.le_refl _) _).setCell (Nat.le_refl _) _⟩

/-- THE DOCUMENT'S OWN READ, OF WHATEVER BYTES. -/
theorem rread_any (ao : Option Addr) (n cap : Nat) (zs : List Int) (w : World) (hl : zs.length = n) (hnc : n ≤ cap) (hcm : cap ≤ maxLen) (hr : Rd w ao zs) (hz : Bts zs) :
    Calls Tryd.prog 40 #[.slice ao n cap] w (RLs w zs) := by
  by_cases h : n = 14
  · subst h
    exact rread_14 ao cap zs w hl hnc hcm hr hz
  · refine (rread_not ao n cap w h).mono fun r w' h' => .inr ⟨fun hl' => h ?_, h'⟩
    have := congrArg List.length hl'.2
    rw [lab_len] at this
    omega

end Go.Proofs.YtmbkgjiofkggcaaDoor
