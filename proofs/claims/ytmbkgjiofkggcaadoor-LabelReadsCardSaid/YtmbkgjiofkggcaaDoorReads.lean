/-
  LabelReads: the walk.
-/
import Derived.Test.YtmbkgjiofkggcaaDoorRRead
namespace Go.Proofs.YtmbkgjiofkggcaaDoor
open Go.RowKit
set_option linter.unusedVariables false

set_option maxHeartbeats 1000000 in
theorem reads_any (ao : Option Addr) (n cap : Nat) (zs : List Int) (w : World) (hT : Tab w) (hp : Part.ok w ⟨ao, n, cap, zs⟩) (hnc : n ≤ cap) (hcm : cap ≤ maxLen) :
    Calls Tryd.prog 11 #[.slice ao n cap] w fun r w' => r = .returned (.bool true) ∧ Below w.heap.size w w' := by
  by_cases hbig : 300 < n
  · have d1 : decide ((300 : Int) < (n : Int)) = true := decide_eq_true (by omega)
    go_enter Tryd.func11, Tryd.ntmps11
    go_wp2
    go_ret
    exact ⟨rfl, Below.refl _ _⟩
  have d1 : decide ((300 : Int) < (n : Int)) = false := decide_eq_false (by omega)
  have HT := Lib.hid hT; have HP := Lib.hid hp; have HNC := Lib.hid hnc; have HCM := Lib.hid hcm
  have HTW := Lib.hid (twin_any ao n cap zs w hp.len (by omega) hp.rd hp.nil)
  clear hT hp hcm hnc
  go_enter Tryd.func11, Tryd.ntmps11
  go_wp2_with (go_at_call 25; fail)
  refine HTW.out.mono ?_
  rintro r w1 ⟨ko, kc, rfl, ho1, hB1⟩
  have HB1 := Lib.hid hB1; have HO1 := Lib.hid ho1
  have HRD := Lib.hid (read_any ko n kc zs w1 (HT.out.below hB1) ho1.1 ho1.2.1 ho1.2.2.1 ho1.rd HP.out.bts)
  clear hB1 ho1
  -- both reads leave the same
  obtain ⟨v, p, e, er, hres, hok⟩ : ∃ v p e er, (∀ w r w', RLs w zs r w' → RL w v p e er r w') ∧ ((er = 0 ∧ lok v p e ∧ zs = lab v p e) ∨ er = 13) := by
    by_cases hlab : isLab zs
    · exact ⟨fv zs, fp zs, fe zs, 0, fun w r w' h => by rcases h with h | h; exact h.2; exact absurd hlab h.1, .inl ⟨rfl, hlab.1, hlab.2⟩⟩
    · exact ⟨0, 0, 0, 13, fun w r w' h => by rcases h with h | h; exact absurd h.1 hlab; exact h.2, .inr rfl⟩
  have HRES := Lib.hid hres; have HOK := Lib.hid hok
  clear hres hok
  go_wp2_with (go_at_call 37; fail)
  refine HRD.out.mono ?_
  intro r w2 h2
  obtain ⟨rfl, hB2⟩ := HRES.out _ _ _ h2
  clear h2
  obtain ⟨W2, hW2⟩ : ∃ W2, W2 = w2.alloc (.cells #[.int .i64 v, .int .i64 p, .int .i64 e] 54) := ⟨_, rfl⟩
  have hBW2 : Below w2.heap.size w2 W2 := by rw [hW2]; exact (Below.refl _ _).alloc (Nat.le_refl _) _
  have hc2 : W2.heap[w2.heap.size]? = some (.cells #[.int .i64 v, .int .i64 p, .int .i64 e] 54) := by rw [hW2]; exact heap_alloc_new _ _
  have HW2 := Lib.hid hW2; have HC2 := Lib.hid hc2
  have HB2 : Hid (Below w.heap.size w W2) := (HB1.out.trans (hB2.mono HB1.out.size)).trans (hBW2.mono (Nat.le_trans HB1.out.size hB2.size))
  have HO2 : Hid (Ow W2 w.heap.size ko n kc zs) := (HO1.out.below hB2).below hBW2
  have HRR := Lib.hid (rread_any ao n cap zs W2 HP.out.len HNC.out HCM.out (HP.out.rd.below HB2.out) HP.out.bts)
  clear hW2 hBW2 hc2 hB2
  go_wp2_with (go_at_call 40; fail)
  rw [← HW2.out]
  refine HRR.out.mono ?_
  intro r w3 h3
  obtain ⟨rfl, hB3⟩ := HRES.out _ _ _ h3
  clear h3
  obtain ⟨W3, hW3⟩ : ∃ W3, W3 = w3.alloc (.cells #[.int .i64 v, .int .i64 p, .int .i64 e] 54) := ⟨_, rfl⟩
  have hBW3 : Below w3.heap.size w3 W3 := by rw [hW3]; exact (Below.refl _ _).alloc (Nat.le_refl _) _
  have hc3 : W3.heap[w3.heap.size]? = some (.cells #[.int .i64 v, .int .i64 p, .int .i64 e] 54) := by rw [hW3]; exact heap_alloc_new _ _
  have hc2 : W3.heap[w2.heap.size]? = some (.cells #[.int .i64 v, .int .i64 p, .int .i64 e] 54) := by
    rw [hBW3.block _ (by have := (Array.getElem?_eq_some_iff.1 HC2.out).1; have := hB3.size; omega), hB3.block _ (Array.getElem?_eq_some_iff.1 HC2.out).1]; exact HC2.out
  have HW3 := Lib.hid hW3; have HC3 := Lib.hid hc3; have HD2 := Lib.hid hc2
  have HB3 : Hid (Below w.heap.size w W3) := (HB2.out.trans (hB3.mono HB2.out.size)).trans (hBW3.mono (Nat.le_trans HB2.out.size hB3.size))
  have HO3 : Hid (Ow W3 w.heap.size ko n kc zs) := (HO2.out.below hB3).below hBW3
  have a0 : W3.cell? ⟨w2.heap.size, 0, none⟩ = some (.int .i64 v) := by simp [World.cell?, hc2]
  have a1 : W3.cell? ⟨w2.heap.size, 1, none⟩ = some (.int .i64 p) := by simp [World.cell?, hc2]
  have a2 : W3.cell? ⟨w2.heap.size, 2, none⟩ = some (.int .i64 e) := by simp [World.cell?, hc2]
  have b0 : W3.cell? ⟨w3.heap.size, 0, none⟩ = some (.int .i64 v) := by simp [World.cell?, hc3]
  have b1 : W3.cell? ⟨w3.heap.size, 1, none⟩ = some (.int .i64 p) := by simp [World.cell?, hc3]
  have b2 : W3.cell? ⟨w3.heap.size, 2, none⟩ = some (.int .i64 e) := by simp [World.cell?, hc3]
  have hne : (er != er) = false := by simp
  have hsl := same_label v p e v p e W3
  rw [show decide (v = v ∧ p = p ∧ e = e) = true by simp] at hsl
  have HSL := Lib.hid hsl
  clear hW3 hBW3 hc3 hB3 hc2 hsl
  have hw3e := HW3.out
  subst hw3e
  go_wp2_with (go_at_call 39; fail)
  refine HSL.out.mono ?_
  rintro r w4 ⟨rfl, hB4⟩
  have HB4 : Hid (Below w.heap.size w w4) := HB3.out.trans (hB4.mono HB3.out.size)
  have HO4 : Hid (Ow w4 w.heap.size ko n kc zs) := HO3.out.below hB4
  have hc4 : w4.heap[w2.heap.size]? = some (.cells #[.int .i64 v, .int .i64 p, .int .i64 e] 54) := by
    rw [hB4.block _ (Array.getElem?_eq_some_iff.1 HD2.out).1]; exact HD2.out
  have hbc := bytes_cmp ko ao n n kc cap zs zs w4 HP.out.len HP.out.len (by unfold maxLen; omega) HO4.out.rd (HP.out.rd.below HB4.out)
  rw [show decide (zs = zs) = true by simp] at hbc
  have HBC := Lib.hid hbc; have HC4 := Lib.hid hc4
  clear hB4 hbc hc4 a0 a1 a2 b0 b1 b2
  rcases HOK.out with ⟨her, hlok, hzl⟩ | her
  · have HLOK := Lib.hid hlok; have HZL := Lib.hid hzl
    clear hlok hzl
    subst her
    go_wp2_with (go_at_call 19; fail)
    refine HBC.out.mono ?_
    rintro r w5 ⟨rfl, q, hq⟩
    have HB5 : Hid (Below w.heap.size w w5) := by rw [hq]; exact below_drewN HB4.out q
    have hc5 : w5.heap[w2.heap.size]? = some (.cells #[.int .i64 v, .int .i64 p, .int .i64 e] 54) := by rw [hq]; exact HC4.out
    have a0 : w5.cell? ⟨w2.heap.size, 0, none⟩ = some (.int .i64 v) := by simp [World.cell?, hc5]
    have a1 : w5.cell? ⟨w2.heap.size, 1, none⟩ = some (.int .i64 p) := by simp [World.cell?, hc5]
    have a2 : w5.cell? ⟨w2.heap.size, 2, none⟩ = some (.int .i64 e) := by simp [World.cell?, hc5]
    have HBY := Lib.hid (bytes_ok v p e w5 (HT.out.below HB5.out) HLOK.out)
    clear hq hc5
    go_wp2_with (go_at_call 33; fail)
    refine HBY.out.mono ?_
    rintro r w6 ⟨k6, c6, rfl, ho6, hB6⟩
    have HB6 : Hid (Below w.heap.size w w6) := HB5.out.trans (hB6.mono HB5.out.size)
    have hbc := bytes_cmp k6 ao 14 n c6 cap (lab v p e) zs w6 ho6.1 HP.out.len (by unfold maxLen; omega) ho6.rd (HP.out.rd.below HB6.out)
    rw [show decide (lab v p e = zs) = true from decide_eq_true HZL.out.symm] at hbc
    have HBC2 := Lib.hid hbc
    clear hbc hB6 ho6 a0 a1 a2
    go_wp2_with (go_at_call 19; fail)
    refine HBC2.out.mono ?_
    rintro r w7 ⟨rfl, q, hq⟩
    have HB7 : Hid (Below w.heap.size w w7) := by rw [hq]; exact below_drewN HB6.out q
    have HWK := Lib.hid (wakes14 w7 (HT.out.below HB7.out))
    clear hq
    go_wp2_with (go_at_call 36; refine HWK.out.mono ?_; rintro r w8 ⟨rfl, hB8⟩; have HB8 : Hid (Below w.heap.size w w8) := HB7.out.trans (hB8.mono HB7.out.size); clear hB8)
    go_ret
    exact ⟨rfl, HB8.out⟩
  · subst her
    go_wp2_with (go_at_call 19; fail)
    refine HBC.out.mono ?_
    rintro r w5 ⟨rfl, q, hq⟩
    have HB5 : Hid (Below w.heap.size w w5) := by rw [hq]; exact below_drewN HB4.out q
    have HWK := Lib.hid (wakes14 w5 (HT.out.below HB5.out))
    clear hq
    go_wp2_with (go_at_call 36; refine HWK.out.mono ?_; rintro r w8 ⟨rfl, hB8⟩; have HB8 : Hid (Below w.heap.size w w8) := HB5.out.trans (hB8.mono HB5.out.size); clear hB8)
    go_ret
    exact ⟨rfl, HB8.out⟩

end Go.Proofs.YtmbkgjiofkggcaaDoor
