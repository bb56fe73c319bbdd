/-
  Frames: the plain record, Check, the frame's head.
-/
import Derived.Test.YtifbbikhjolnjaaDoorLabel
namespace Go.Proofs.YtifbbikhjolnjaaDoor
open Go.RowKit
set_option linter.unusedVariables false

/-- A record: Kind, Seq, Data. -/
structure Rec where
  k : Int
  s : Int
  d : Part
/-- A record as a value. -/
def Rec.v (r : Rec) : Value := .agg #[.int .i64 r.k, .int .i64 r.s, .slice r.d.a r.d.l r.d.c]
/-- May Kind and Seq be so? -/
def nok (k s : Int) : Prop := 1 ≤ k ∧ k ≤ 5 ∧ 0 ≤ s ∧ s < 1073741824
instance (k s : Int) : Decidable (nok k s) := by unfold nok; infer_instance
/-- What Check tells. -/
def chk (k s : Int) (n : Nat) : Int := if nok k s then (if n ≤ 8000 then 0 else 2) else 1
/-- The bytes ahead of the sum. -/
def fhead (k s : Int) (n : Nat) : List Int := be k.toNat 1 ++ be s.toNat 4 ++ be n 4
/-- A record's frame. -/
def fr (k s : Int) (z : List Int) : List Int := fhead k s z.length ++ l4 ((sumOf (fhead k s z.length ++ z)).toNat : Int) ++ z
theorem fhead_len (k s : Int) (n : Nat) : (fhead k s n).length = 9 := by simp [fhead, be_length]
theorem fhead_bts (k s : Int) (n : Nat) : Bts (fhead k s n) := bts_app (bts_app (bts_be _ _) (bts_be _ _)) (bts_be _ _)
theorem fr_len (k s : Int) (z : List Int) : (fr k s z).length = 13 + z.length := by simp [fr, fhead_len, l4]; omega
theorem fr_bts (k s : Int) (z : List Int) (hz : Bts z) : Bts (fr k s z) := bts_app (bts_app (fhead_bts _ _ _) (bts_l4 _ (sumOf _).isLt)) hz
theorem numbered_any (k s : Int) (w : World) : Calls Tryd.prog 28 #[.int .i64 k, .int .i64 s] w fun r w' => r = .returned (.bool (decide (nok k s))) ∧ w = w' := by
  obtain ⟨q, hq⟩ : ∃ q, q = decide (nok k s) := ⟨_, rfl⟩
  rw [← hq]
  by_cases h1 : 1 ≤ k
  · have d1 : decide (1 ≤ k) = true := decide_eq_true h1
    by_cases h2 : k ≤ 5
    · have d2 : decide (k ≤ 5) = true := decide_eq_true h2
      by_cases h3 : 0 ≤ s
      · have d3 : decide (0 ≤ s) = true := decide_eq_true h3
        by_cases h4 : s < 1073741824
        · have d4 : decide (s < 1073741824) = true := decide_eq_true h4
          obtain rfl : q = true := by rw [hq]; exact decide_eq_true ⟨h1, h2, h3, h4⟩
          clear hq h1 h2 h3 h4
          go_enter Tryd.func28, Tryd.ntmps28
          go_wp2
          go_ret
          exact ⟨rfl, rfl⟩
        · have d4 : decide (s < 1073741824) = false := decide_eq_false h4
          obtain rfl : q = false := by rw [hq]; exact decide_eq_false fun h => h4 h.2.2.2
          clear hq h1 h2 h3 h4
          go_enter Tryd.func28, Tryd.ntmps28
          go_wp2
          go_ret
          exact ⟨rfl, rfl⟩
      · have d3 : decide (0 ≤ s) = false := decide_eq_false h3
        obtain rfl : q = false := by rw [hq]; exact decide_eq_false fun h => h3 h.2.2.1
        clear hq h1 h2 h3
        go_enter Tryd.func28, Tryd.ntmps28
        go_wp2
        go_ret
        exact ⟨rfl, rfl⟩
    · have d2 : decide (k ≤ 5) = false := decide_eq_false h2
      obtain rfl : q = false := by rw [hq]; exact decide_eq_false fun h => h2 h.2.1
      clear hq h1 h2
      go_enter Tryd.func28, Tryd.ntmps28
      go_wp2
      go_ret
      exact ⟨rfl, rfl⟩
  · have d1 : decide (1 ≤ k) = false := decide_eq_false h1
    obtain rfl : q = false := by rw [hq]; exact decide_eq_false fun h => h1 h.1
    clear hq h1
    go_enter Tryd.func28, Tryd.ntmps28
    go_wp2
    go_ret
    exact ⟨rfl, rfl⟩
theorem fcheck_any (r : Rec) (w : World) : Calls Tryd.prog 37 #[r.v] w fun e w' => e = .returned (.int .i64 (chk r.k r.s r.d.l)) ∧ Below w.heap.size w w' := by
  obtain ⟨k, s, ⟨a, n, c, z⟩⟩ := r
  show Calls Tryd.prog 37 #[.agg #[.int .i64 k, .int .i64 s, .slice a n c]] w _
  simp only
  have HN := Lib.hid (fun V => numbered_any k s V)
  obtain ⟨q, hq⟩ : ∃ q, q = chk k s n := ⟨_, rfl⟩
  rw [← hq]
  have HB := Lib.hid (fun A => (Below.refl w.heap.size w).alloc (Nat.le_refl _) (.cells A 43))
  by_cases h : nok k s
  · rw [decide_eq_true h] at HN
    by_cases h2 : n ≤ 8000
    · have d2 : decide ((8000 : Int) < (n : Int)) = false := decide_eq_false (by omega)
      obtain rfl : q = 0 := by rw [hq]; simp [chk, h, h2]
      clear hq h h2
      go_enter Tryd.func37, Tryd.ntmps37
      go_wp2_with (go_at_call 28; refine (HN.out _).mono ?_; rintro r w1 ⟨rfl, rfl⟩)
      go_ret
      exact ⟨rfl, HB.out _⟩
    · have d2 : decide ((8000 : Int) < (n : Int)) = true := decide_eq_true (by omega)
      obtain rfl : q = 2 := by rw [hq]; simp [chk, h, h2]
      clear hq h h2
      go_enter Tryd.func37, Tryd.ntmps37
      go_wp2_with (go_at_call 28; refine (HN.out _).mono ?_; rintro r w1 ⟨rfl, rfl⟩)
      go_ret
      exact ⟨rfl, HB.out _⟩
  · rw [decide_eq_false h] at HN
    obtain rfl : q = 1 := by rw [hq]; simp [chk, h]
    clear hq h
    go_enter Tryd.func37, Tryd.ntmps37
    go_wp2_with (go_at_call 28; refine (HN.out _).mono ?_; rintro r w1 ⟨rfl, rfl⟩)
    go_ret
    exact ⟨rfl, HB.out _⟩
set_option maxHeartbeats 1000000 in
theorem head_ok (r : Rec) (w : World) (h : nok r.k r.s) (hn : r.d.l ≤ 8000) : Calls Tryd.prog 38 #[r.v] w (R1 w 9 (fhead r.k r.s r.d.l)) := by
  obtain ⟨k, s, ⟨a, n, c, z⟩⟩ := r
  simp only at h hn
  show Calls Tryd.prog 38 #[.agg #[.int .i64 k, .int .i64 s, .slice a n c]] w (R1 w 9 (fhead k s n))
  obtain ⟨h1, h2, h3, h4⟩ := h
  obtain ⟨W0, hW0⟩ : ∃ W0, W0 = w.alloc (.cells #[.int .i64 k, .int .i64 s, .slice a n c] 43) := ⟨_, rfl⟩
  have hb0 : Below w.heap.size w W0 := by rw [hW0]; exact (Below.refl _ _).alloc (Nat.le_refl _) _
  have hc0 : W0.cell? ⟨w.heap.size, 0, none⟩ = some (.int .i64 k) := by rw [hW0, World.cell?_alloc_mark]; rfl
  have hc1 : W0.cell? ⟨w.heap.size, 1, none⟩ = some (.int .i64 s) := by rw [hW0, World.cell?_alloc_mark]; rfl
  have hc2 : W0.cell? ⟨w.heap.size, 2, none⟩ = some (.slice a n c) := by rw [hW0, World.cell?_alloc_mark]; rfl
  have HC1 := Lib.hid hc1; have HC2 := Lib.hid hc2; have HB0 := Lib.hid hb0; have HW0 := Lib.hid hW0
  have HP1 := Lib.hid (put_n none 0 0 [] k 1 W0 rfl (by omega) (Rd.nil _ _) (by omega) (by omega) (by omega) (by omega))
  have HP2 := Lib.hid (fun ko kc zs w (ho : zs.length = 1) (hr : Rd w ko zs) => put_n ko 1 kc zs s 4 w ho (by omega) hr (by omega) (by omega) (by omega) (by omega))
  have HP3 := Lib.hid (fun ko kc zs w (ho : zs.length = 5) (hr : Rd w ko zs) => put_n ko 5 kc zs (n : Int) 4 w ho (by omega) hr (by omega) (by omega) (by omega) (by omega))
  clear hb0 hc1 hc2 h1 h2 h3 h4 hW0
  have a0 : (w.alloc (.cells #[.int .i64 k, .int .i64 s, .slice a n c] 43)).cell? ⟨w.heap.size, 0, none⟩ = some (.int .i64 k) := by rw [← HW0.out]; exact hc0
  clear hc0
  go_enter Tryd.func38, Tryd.ntmps38
  go_wp2_with (go_at_call 42; fail)
  rw [← HW0.out]
  refine HP1.out.mono ?_
  rintro e1 w1 ⟨k1, s1, rfl, ho1, hB1⟩
  have HB1 := Lib.hid (HB0.out.trans (hB1.mono HB0.out.size)); have HO1 := Lib.hid ho1
  have c1 : w1.cell? ⟨w.heap.size, 1, none⟩ = some (.int .i64 s) := by rw [hB1.cell (cell_lt HC1.out)]; exact HC1.out
  have E2 := Lib.hid (show w1.cell? ⟨w.heap.size, 2, none⟩ = some (.slice a n c) by rw [hB1.cell (cell_lt HC2.out)]; exact HC2.out)
  clear hB1 ho1 a0
  go_wp2_with (go_at_call 42; fail)
  refine (HP2.out k1 s1 _ w1 HO1.out.1 HO1.out.rd).mono ?_
  rintro e3 w2 ⟨k2, s2, rfl, ho2, hB2⟩
  have HB2 := Lib.hid (HB1.out.trans (hB2.mono HB1.out.size)); have HO2 := Lib.hid ho2
  have c2 : w2.cell? ⟨w.heap.size, 2, none⟩ = some (.slice a n c) := by rw [hB2.cell (cell_lt E2.out)]; exact E2.out
  clear hB2 ho2 c1
  go_wp2_with (go_at_call 42; fail)
  refine (HP3.out k2 s2 _ w2 HO2.out.1 HO2.out.rd).mono ?_
  rintro e4 w3 ⟨k3, s3, rfl, ho3, hB3⟩
  have HE : Hid (R1 w 9 (fhead k s n) (.returned (.slice k3 9 s3)) w3) := by
    refine ⟨k3, s3, rfl, ?_, HB2.out.trans (hB3.mono HB2.out.size)⟩
    have := ho3.base HB2.out.size
    rw [Int.toNat_natCast] at this
    exact this
  clear hB3 ho3 c2
  go_wp2
  go_ret
  exact HE.out

end Go.Proofs.YtifbbikhjolnjaaDoor
