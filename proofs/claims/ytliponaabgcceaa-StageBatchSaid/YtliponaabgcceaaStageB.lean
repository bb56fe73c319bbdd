/-
  StageBatch: the walk.
-/
import Derived.Test.YtliponaabgcceaaStageW
import Derived.Deep.RegionHeld3
namespace Go.Proofs.Ytliponaabgcceaa
open Go.RowKit
set_option linter.unusedVariables false

theorem rows_flat (m : Nat) (l : Row) : ∀ i, (rowsOf m l i).flatten = l.take (i * m)
  | 0 => by simp [rowsOf]
  | i + 1 => by
    rw [rowsOf_succ, List.flatten_append, rows_flat m l i, Nat.add_mul, Nat.one_mul, List.take_add]
    simp [row]
theorem rows_get (m : Nat) (l : Row) (N i : Nat) (h : i < (rowsOf m l N).length) : (rowsOf m l N)[i] = row m l i := by
  simp [rowsOf]
theorem rows_len (m : Nat) (l : Row) (N : Nat) : (rowsOf m l N).length = N := by unfold rowsOf; simp
theorem need_le {m n N : Nat} (h : Need m n N) (h1 : 1 ≤ m) : N ≤ n := by
  rcases h.2 with h0 | h2
  · omega
  · have := Nat.le_mul_of_pos_right (N - 1) h1
    omega
theorem row_its (m : Nat) (xs : List It) (i : Nat) : row m (xs.map It.cs) i = ((xs.drop (i * m)).take m).map It.cs := by
  unfold row; rw [← List.map_drop, ← List.map_take]

set_option maxRecDepth 100000 in
set_option maxHeartbeats 8000000 in
theorem stage_walk (ao : Option Addr) (n c : Nat) (p : Int) (xs : List It) (w : World) (hl : xs.length = n) (hnc : n ≤ c) (hcm : c ≤ maxLen) (hr : FR w ao 37 (xs.map It.cs)) (hok : ∀ x ∈ xs, x.ok) (ha : ao = none → c = 0) :
    Calls Try.prog 3 #[.slice ao n c, .int .i64 p] w fun e w' => e = .returned (.bool true) ∧ Below w.heap.size w w' := by
  have hcm' := hcm
  unfold maxLen at hcm'
  by_cases h300 : 300 < n
  · have d1 : decide ((300 : Int) < (n : Int)) = true := decide_eq_true (by omega)
    have d1' : decide (300 < n) = true := decide_eq_true h300
    clear hr hok ha hl
    go_enter Try.func3, Try.ntmps3
    go_wp2
    go_ret
    exact ⟨rfl, Below.refl _ _⟩
  have d1 : decide ((300 : Int) < (n : Int)) = false := decide_eq_false (by omega)
  have d1' : decide (300 < n) = false := decide_eq_false h300
  obtain ⟨l, hll⟩ : ∃ l, l = xs.map It.cs := ⟨_, rfl⟩
  have hlen : l.length = n := by rw [hll, List.length_map, hl]
  have hflat : Flat 37 l := by rw [hll]; exact flat_its xs hok
  rw [← hll] at hr
  have HR := Lib.hid hr; have HF := Lib.hid hflat; have HL := Lib.hid hlen; have HXL := Lib.hid hl; have HLL := Lib.hid hll; have HOK := Lib.hid hok; have HA := Lib.hid ha; have HCM := Lib.hid hcm
  obtain ⟨m, hm⟩ : ∃ m, m = mostOf p := ⟨_, rfl⟩
  have HWK := Lib.hid wakes20
  clear hr hflat hlen hl hll hok ha hcm
  have hn6 : n ≤ 1000000 := by omega
  go_enter Try.func3, Try.ntmps3
  go_wp2_with (at_builtin; (refine append_fl 22 51 37 fi22 rfl _ _ rfl w.heap.size 0 0 n c none ao [] l rfl (FO.nil_ _ _ _ _) rfl HR.out HF.out HL.out HA.out (by omega) (Nat.le_refl _) ?_; intro ki kci w1 hO1 hg1 hB1; simp only [Nat.zero_add, List.nil_append] at hO1 ⊢; have HO1 := Lib.hid hO1; have HB1 := Lib.hid hB1; clear hO1 hg1 hB1; have hb := batch_any ki n kci p l w1 HL.out hn6 HO1.out.room HO1.out.cm HO1.out.fr HF.out (fun e => HO1.out.nil e); have HBT := Lib.hid hb; clear hb))
  go_wp2_with (go_at_call 9; fail)
  refine HBT.out.mono ?_
  rintro e w2 ⟨kg, N, kcg, rfl, hG2, hN2, hB2⟩
  have hrb := rbatch_any ao n c p l w2 HL.out hn6 hnc HCM.out (HR.out.below (HB1.out.trans (hB2.mono HB1.out.size))) HF.out HA.out
  have HRB := Lib.hid hrb; have HG2 := Lib.hid hG2; have HN2 := Lib.hid hN2; have HB2 := Lib.hid (HB1.out.trans (hB2.mono HB1.out.size)); have HO2 := Lib.hid (HO1.out.below hB2)
  clear hrb hG2 hN2 hB2 HBT HO1
  go_wp2_with (go_at_call 10; fail)
  refine HRB.out.mono ?_
  rintro e w3 ⟨kh, N', kch, rfl, hG3, hN3, hB3⟩
  obtain rfl : N = N' := HN2.out.eq hN3
  have HG3 := Lib.hid hG3; have HB3 := Lib.hid (HB2.out.trans (hB3.mono HB2.out.size)); have HO3 := Lib.hid (HO2.out.below hB3); have HG2 := Lib.hid (HG2.out.below hB3)
  clear hG3 hN3 hB3 HRB HO2
  have hcmp := items_cmp ki ao n n kci c xs xs w3 HXL.out HXL.out (by unfold maxLen; omega) (by rw [← HLL.out]; exact HO3.out.fr) (by rw [← HLL.out]; exact HR.out.below HB3.out) HOK.out HOK.out true ⟨fun _ => rfl, fun _ => rfl⟩
  have HCMP := Lib.hid hcmp
  have d2 : ((N : Int) != (N : Int)) = false := by simp
  clear hcmp HO3
  go_wp2_with (go_at_call 11; fail)
  refine HCMP.out.mono ?_
  rintro e w4 ⟨rfl, hB4⟩
  have HB4 := Lib.hid (HB3.out.trans (hB4.mono HB3.out.size)); have HGA := Lib.hid (HG2.out.below hB4); have HGB := Lib.hid (HG3.out.below hB4)
  clear hB4 HCMP HG2 HG3
  have hNn : N ≤ n := by have := need_le HN2.out (most_facts p).1; rw [HL.out] at this; exact this
  go_wp2
  go_loopw [8, 9] (fun s8 s9 wr => ∃ (i q : Nat) (ka : Option Addr) (kca : Nat), i ≤ N ∧ s9 = .int .i64 i ∧ s8 = .slice ka q kca ∧ FO wr 51 37 w4.heap.size ka q kca (l.take (i * m)) ∧ Below w4.heap.size w4 wr) (fun _ s9 _ => N - (intOf s9).toNat)
  case atStart => exact ⟨0, 0, none, 0, Nat.zero_le _, rfl, rfl, by simpa using FO.nil_ _ _ _ _, Below.refl _ _⟩
  case round =>
    obtain ⟨i, q, ka, kca, hi, rfl, rfl, hO, hB⟩ := hrel
    have HO := Lib.hid hO; have HB := Lib.hid hB
    clear hO hB
    have hqn : q ≤ n := by
      have := HO.out.len
      rw [List.length_take] at this
      have := HL.out
      omega
    by_cases hlt : i < N
    · have e2 : decide ((i : Int) < (N : Int)) = true := decide_eq_true (by omega)
      obtain ⟨ga, rfl, hata⟩ := HGA.out.at (by omega)
      obtain ⟨gb, rfl, hatb⟩ := HGB.out.at (by omega)
      obtain ⟨a0, l0, c0, e0, f0⟩ := hata i (by rw [rows_len]; exact hlt)
      obtain ⟨a1, l1, c1, e1, f1⟩ := hatb i (by rw [rows_len]; exact hlt)
      rw [rows_get, ← hm] at f0 f1
      have hl01 : l1 = l0 := f1.len.symm.trans f0.len
      subst hl01
      have hl0 : l1 ≤ n := by
        have := f0.len
        unfold row at this
        rw [List.length_take, List.length_drop, HL.out] at this
        omega
      have hrow : row m l i = ((xs.drop (i * m)).take m).map It.cs := by rw [HLL.out]; exact row_its m xs i
      have hlx : ((xs.drop (i * m)).take m).length = l1 := by rw [← f0.len, hrow, List.length_map]
      have hcmp := fun V (hb : Below wr.heap.size wr V) => items_cmp a0 a1 l1 l1 c0 c1 ((xs.drop (i * m)).take m) ((xs.drop (i * m)).take m) V hlx hlx (by unfold maxLen; omega) (by rw [← hrow]; exact (f0.fr.below HB.out).below hb) (by rw [← hrow]; exact (f1.fr.below HB.out).below hb) (fun x hx => HOK.out x (List.mem_of_mem_drop (List.mem_of_mem_take hx))) (fun x hx => HOK.out x (List.mem_of_mem_drop (List.mem_of_mem_take hx))) true ⟨fun _ => rfl, fun _ => rfl⟩
      have hst : ∀ V, Below wr.heap.size wr V → V.cell? ⟨ga, i, none⟩ = some (.slice a0 l1 c0) ∧ V.cell? ⟨gb, i, none⟩ = some (.slice a1 l1 c1) := fun V hb => by
        have x0 : wr.cell? ⟨ga, i, none⟩ = some (.slice a0 l1 c0) := by rw [HB.out.cell (fl_cell_lt e0)]; exact e0
        have x1 : wr.cell? ⟨gb, i, none⟩ = some (.slice a1 l1 c1) := by rw [HB.out.cell (fl_cell_lt e1)]; exact e1
        exact ⟨by rw [hb.cell (fl_cell_lt x0)]; exact x0, by rw [hb.cell (fl_cell_lt x1)]; exact x1⟩
      have hcat : l.take (i * m) ++ row m l i = l.take ((i + 1) * m) := by rw [← rows_flat, ← rows_flat, rowsOf_succ, List.flatten_append]; simp
      have HCMP := Lib.hid hcmp; have HST := Lib.hid hst; have HCAT := Lib.hid hcat
      have HFR := Lib.hid (f0.fr.below HB.out); have HFL := Lib.hid f0.flat; have HLE := Lib.hid f0.len; have HNL := Lib.hid (fun e => f0.nil e)
      obtain ⟨x0, x1⟩ := hst wr (Below.refl _ _)
      have i1 : (0 : Int) ≤ (i : Int) := by omega
      have i2 : (i : Int) < (N : Int) := by omega
      clear hata hatb f0 f1 hrow hlx hcmp hst hcat e0 e1
      have HBQ := Lib.hid (Below.refl wr.heap.size wr).drew
      go_wp2
      go_region_held3 (fun V => V.cell? ⟨ga, i, none⟩ = some (.slice a0 l1 c0) ∧ V.cell? ⟨gb, i, none⟩ = some (.slice a1 l1 c1)) (exact HST.out _ HBQ.out)
        ((first
          | (go_at_call 11; (with_reducible refine (HCMP.out _ HBQ.out).mono ?_); rintro e wn ⟨rfl, hBn⟩; have HBN := Lib.hid (HBQ.out.trans (hBn.mono HBQ.out.size)); clear HBQ hBn; have HBQ := Lib.hid HBN.out; clear HBN)))
      rename_i hheld
      clear hheld x0 x1 HCMP
      obtain ⟨x0, x1⟩ := HST.out _ HBQ.out
      have HO5 := Lib.hid (HO.out.below HBQ.out)
      have hsz := Nat.le_trans HB.out.size HBQ.out.size
      go_wp2_with (at_builtin; (refine append_fl 22 51 37 fi22 rfl _ _ rfl w4.heap.size q kca l1 c0 ka a0 (l.take (i * m)) (row m l i) rfl HO5.out rfl (HFR.out.below HBQ.out) HFL.out HLE.out HNL.out (by omega) hsz ?_; intro k6 kc6 w6 hO6 hg6 hB6; rw [HCAT.out] at hO6; have HO6 := Lib.hid hO6; have HB6 := Lib.hid ((HB.out.trans (HBQ.out.mono HB.out.size)).trans hB6); clear hO6 hg6 hB6))
      go_roundw
      case rel => exact ⟨i + 1, q + l1, _, _, by omega, by go_num, rfl, HO6.out, HB6.out⟩
      case measure => simp [intOf]; omega
    · have e2 : decide ((i : Int) < (N : Int)) = false := decide_eq_false (by omega)
      obtain rfl : i = N := by omega
      have htk : l.take (i * m) = l := List.take_of_length_le (by have := HN2.out.1; rw [← hm] at this; exact this)
      have hO := HO.out
      rw [htk] at hO
      have hq : q = n := hO.len.symm.trans HL.out
      subst hq
      have hcmp := items_cmp ka ao q q kca c xs xs wr HXL.out HXL.out (by unfold maxLen; omega) (by rw [← HLL.out]; exact hO.fr) (by rw [← HLL.out]; exact (HR.out.below HB4.out).below (HB.out)) HOK.out HOK.out true ⟨fun _ => rfl, fun _ => rfl⟩
      have HCMP := Lib.hid hcmp
      clear hcmp hO htk HO
      go_wp2_with (first
        | (go_at_call 11; refine HCMP.out.mono ?_; rintro e w6 ⟨rfl, hB6⟩; have HB6 := Lib.hid (HB.out.trans (hB6.mono HB.out.size)); clear hB6)
        | (go_at_call 12; refine (HWK.out _).mono ?_; rintro e w7 ⟨rfl, hB7⟩; have HB7 := Lib.hid (HB6.out.trans (hB7.mono HB6.out.size)); clear hB7))
      go_ret
      exact ⟨rfl, HB4.out.trans (HB7.out.mono HB4.out.size)⟩
end Go.Proofs.Ytliponaabgcceaa
