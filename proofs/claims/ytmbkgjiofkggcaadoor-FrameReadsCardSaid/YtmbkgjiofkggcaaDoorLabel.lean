/-
  The contracts of label's Check and Bytes.
-/
import Derived.Test.YtmbkgjiofkggcaaDoorEqual
namespace Go.Proofs.YtmbkgjiofkggcaaDoor
open Go.RowKit
set_option linter.unusedVariables false

/-- May a label be so? -/
def lok (v p e : Int) : Prop := 0 ≤ v ∧ v < 8 ∧ 0 ≤ p ∧ p ≤ 1 ∧ 0 ≤ e ∧ e ≤ 1048576
/-- A label's bytes ahead of their sum. -/
def lhead (v p e : Int) : List Int := be 1128614988 4 ++ be v.toNat 1 ++ be p.toNat 1 ++ be e.toNat 4
/-- A label's bytes. -/
def lab (v p e : Int) : List Int := lhead v p e ++ l4 ((sumOf (lhead v p e)).toNat : Int)

theorem check_ok (v p e : Int) (w : World) (h : lok v p e) : Calls Tryd.prog 35 #[.agg #[.int .i64 v, .int .i64 p, .int .i64 e]] w fun e w' => e = .returned (.int .i64 0) ∧ Below w.heap.size w w' := by
  obtain ⟨h1, h2, h3, h4, h5, h6⟩ := h
  have d1 : decide (v < 0) = false := decide_eq_false (by omega)
  have d2 : decide (8 ≤ v) = false := decide_eq_false (by omega)
  have d3 : decide (p < 0) = false := decide_eq_false (by omega)
  have d4 : decide (1 < p) = false := decide_eq_false (by omega)
  have d5 : decide (e < 0) = false := decide_eq_false (by omega)
  have d6 : decide (1048576 < e) = false := decide_eq_false (by omega)
  go_enter Tryd.func35, Tryd.ntmps35
  go_wp2
  go_ret
  exact ⟨rfl, (Below.refl _ _).alloc (Nat.le_refl _) _⟩
theorem check_bad (v p e : Int) (w : World) (h : ¬ lok v p e) : Calls Tryd.prog 35 #[.agg #[.int .i64 v, .int .i64 p, .int .i64 e]] w fun e w' => e = .returned (.int .i64 1) ∧ Below w.heap.size w w' := by
  by_cases h1 : v < 0
  · have d1 : decide (v < 0) = true := decide_eq_true h1
    go_enter Tryd.func35, Tryd.ntmps35
    go_wp2
    go_ret
    exact ⟨rfl, (Below.refl _ _).alloc (Nat.le_refl _) _⟩
  have d1 : decide (v < 0) = false := decide_eq_false h1
  by_cases h2 : 8 ≤ v
  · have d2 : decide (8 ≤ v) = true := decide_eq_true h2
    go_enter Tryd.func35, Tryd.ntmps35
    go_wp2
    go_ret
    exact ⟨rfl, (Below.refl _ _).alloc (Nat.le_refl _) _⟩
  have d2 : decide (8 ≤ v) = false := decide_eq_false h2
  by_cases h3 : p < 0
  · have d3 : decide (p < 0) = true := decide_eq_true h3
    go_enter Tryd.func35, Tryd.ntmps35
    go_wp2
    go_ret
    exact ⟨rfl, (Below.refl _ _).alloc (Nat.le_refl _) _⟩
  have d3 : decide (p < 0) = false := decide_eq_false h3
  by_cases h4 : 1 < p
  · have d4 : decide (1 < p) = true := decide_eq_true h4
    go_enter Tryd.func35, Tryd.ntmps35
    go_wp2
    go_ret
    exact ⟨rfl, (Below.refl _ _).alloc (Nat.le_refl _) _⟩
  have d4 : decide (1 < p) = false := decide_eq_false h4
  by_cases h5 : e < 0
  · have d5 : decide (e < 0) = true := decide_eq_true h5
    go_enter Tryd.func35, Tryd.ntmps35
    go_wp2
    go_ret
    exact ⟨rfl, (Below.refl _ _).alloc (Nat.le_refl _) _⟩
  have d5 : decide (e < 0) = false := decide_eq_false h5
  have h6 : 1048576 < e := by unfold lok at h; omega
  have d6 : decide (1048576 < e) = true := decide_eq_true h6
  go_enter Tryd.func35, Tryd.ntmps35
  go_wp2
  go_ret
  exact ⟨rfl, (Below.refl _ _).alloc (Nat.le_refl _) _⟩

/-- Two results: bytes of the call's own, and no error. -/
def RB (w : World) (n : Nat) (zs : List Int) (e : Ending) (w' : World) : Prop :=
  ∃ ko kc, e = .returned (.tuple #[.slice ko n kc, .int .i64 0]) ∧ Ow w' w.heap.size ko n kc zs ∧ Below w.heap.size w w'
theorem put_n (ao : Option Addr) (len cap : Nat) (zs : List Int) (n : Int) (size : Nat) (w : World) (hl : zs.length = len) (hm : len ≤ 1000000) (hr : Rd w ao zs) (h1 : 1 ≤ size) (h2 : size ≤ 7) (h0 : 0 ≤ n) (hn : n.toNat < 256 ^ size) :
    Calls Tryd.prog 50 #[.slice ao len cap, .int .i64 n, .int .i64 size] w (RB w (len + size) (zs ++ be n.toNat size)) := by
  have h := put_r ao len cap zs n size w hl hm hr
  have e : putS zs n size = (zs ++ be n.toNat size, 0) := by
    unfold putS
    rw [if_neg (by simp only [Int.toNat_natCast]; omega)]
    simp
  rw [e] at h
  refine h.mono ?_
  rintro e w' ⟨m, ko, kc, rfl, ho, hB⟩
  have hm : m = len + size := by have := ho.1; simp only [List.length_append, be_length, hl] at this; omega
  subst hm
  exact ⟨ko, kc, rfl, ho, hB⟩

theorem bytes_bad (v p e : Int) (w : World) (h : ¬ lok v p e) : Calls Tryd.prog 33 #[.agg #[.int .i64 v, .int .i64 p, .int .i64 e]] w fun e w' => e = .returned (.tuple #[.slice none 0 0, .int .i64 1]) ∧ Below w.heap.size w w' := by
  have HC := Lib.hid (fun w => check_bad v p e w h)
  clear h
  go_enter Tryd.func33, Tryd.ntmps33
  go_wp2_with (go_at_call 35; refine (HC.out _).mono ?_; rintro e w1 ⟨rfl, hB1⟩; have HB1 := Lib.hid hB1; clear hB1)
  go_ret2
  have hb := (Below.refl w.heap.size w).alloc (Nat.le_refl _) (.cells #[.int .i64 v, .int .i64 p, .int .i64 e] 54)
  exact ⟨rfl, hb.trans (HB1.out.mono hb.size)⟩

theorem Ow.base {w : World} {base base' : Nat} {ao : Option Addr} {n cap : Nat} {zs : List Int} (h : Ow w base ao n cap zs) (hb : base' ≤ base) : Ow w base' ao n cap zs := by
  obtain ⟨h1, h2, h3, h4, h5⟩ := h
  refine ⟨h1, h2, h3, h4, ?_⟩
  rcases h5 with h5 | ⟨g, c, cur, q1, q2, q3⟩
  · exact .inl h5
  · exact .inr ⟨g, c, cur, q1, by omega, q3⟩
theorem bts_be (n size : Nat) : Bts (be n size) := fun j hj => by
  rw [be_length] at hj
  rw [be_get n size j hj]; unfold digit; omega
theorem bts_app {a b : List Int} (ha : Bts a) (hb : Bts b) : Bts (a ++ b) := fun j hj => by
  simp only [List.getD] at *
  by_cases h : j < a.length
  · rw [List.getElem?_append_left h]; exact ha j h
  · rw [List.getElem?_append_right (by omega)]
    exact hb (j - a.length) (by simp at hj; omega)
theorem lhead_bts (v p e : Int) : Bts (lhead v p e) := bts_app (bts_app (bts_app (bts_be _ _) (bts_be _ _)) (bts_be _ _)) (bts_be _ _)
theorem lhead_len (v p e : Int) : (lhead v p e).length = 10 := by simp [lhead, be_length]
theorem lab_bts (v p e : Int) : Bts (lab v p e) := bts_app (lhead_bts v p e) (bts_l4 _ (sumOf (lhead v p e)).isLt)
theorem lab_len (v p e : Int) : (lab v p e).length = 14 := by simp [lab, lhead_len, l4]

set_option maxHeartbeats 1000000 in
theorem bytes_ok (v p e : Int) (w : World) (hT : Tab w) (h : lok v p e) : Calls Tryd.prog 33 #[.agg #[.int .i64 v, .int .i64 p, .int .i64 e]] w (RB w 14 (lab v p e)) := by
  have HC := Lib.hid (fun w => check_ok v p e w h)
  obtain ⟨h1, h2, h3, h4, h5, h6⟩ := h
  obtain ⟨W0, hW0⟩ : ∃ W0, W0 = w.alloc (.cells #[.int .i64 v, .int .i64 p, .int .i64 e] 54) := ⟨_, rfl⟩
  have hb0 : Below w.heap.size w W0 := by rw [hW0]; exact (Below.refl _ _).alloc (Nat.le_refl _) _
  have hc0 : W0.cell? ⟨w.heap.size, 0, none⟩ = some (.int .i64 v) := by rw [hW0, World.cell?_alloc_mark]; rfl
  have hc1 : W0.cell? ⟨w.heap.size, 1, none⟩ = some (.int .i64 p) := by rw [hW0, World.cell?_alloc_mark]; rfl
  have hc2 : W0.cell? ⟨w.heap.size, 2, none⟩ = some (.int .i64 e) := by rw [hW0, World.cell?_alloc_mark]; rfl
  have HC0 := Lib.hid hc0; have HC1 := Lib.hid hc1; have HC2 := Lib.hid hc2; have HB0 := Lib.hid hb0; have HT := Lib.hid hT
  have HP1 := Lib.hid (fun w => put_n none 0 0 [] 1128614988 4 w rfl (by omega) (Rd.nil _ _) (by omega) (by omega) (by omega) (by decide))
  have HP2 := Lib.hid (fun ko kc zs w (ho : zs.length = 4) (hr : Rd w ko zs) => put_n ko 4 kc zs v 1 w ho (by omega) hr (by omega) (by omega) (by omega) (by omega))
  have HP3 := Lib.hid (fun ko kc zs w (ho : zs.length = 5) (hr : Rd w ko zs) => put_n ko 5 kc zs p 1 w ho (by omega) hr (by omega) (by omega) (by omega) (by omega))
  have HP4 := Lib.hid (fun ko kc zs w (ho : zs.length = 6) (hr : Rd w ko zs) => put_n ko 6 kc zs e 4 w ho (by omega) hr (by omega) (by omega) (by omega) (by omega))
  have HW0 := Lib.hid hW0
  clear hb0 hc0 hc1 hc2 h1 h2 h3 h4 h5 h6 hT hW0
  go_enter Tryd.func33, Tryd.ntmps33
  go_wp2_with (go_at_call 35; fail)
  rw [← HW0.out]
  refine (HC.out W0).mono ?_
  rintro e1 w1 ⟨rfl, hB1⟩
  have HB1 := Lib.hid (HB0.out.trans (hB1.mono HB0.out.size))
  have c0 : w1.cell? ⟨w.heap.size, 0, none⟩ = some (.int .i64 v) := by rw [hB1.cell (cell_lt HC0.out)]; exact HC0.out
  have c1 : w1.cell? ⟨w.heap.size, 1, none⟩ = some (.int .i64 p) := by rw [hB1.cell (cell_lt HC1.out)]; exact HC1.out
  have c2 : w1.cell? ⟨w.heap.size, 2, none⟩ = some (.int .i64 e) := by rw [hB1.cell (cell_lt HC2.out)]; exact HC2.out
  have C0 := Lib.hid c0; have C1 := Lib.hid c1; have C2 := Lib.hid c2
  clear c0 c1 c2 hB1
  go_wp2_with (go_at_call 50; fail)
  refine (HP1.out w1).mono ?_
  rintro e2 w2 ⟨k1, s1, rfl, ho1, hB2⟩
  have HB2 := Lib.hid (HB1.out.trans (hB2.mono HB1.out.size)); have HO1 := Lib.hid ho1
  have c0 : w2.cell? ⟨w.heap.size, 0, none⟩ = some (.int .i64 v) := by rw [hB2.cell (cell_lt C0.out)]; exact C0.out
  have D1 := Lib.hid (show w2.cell? ⟨w.heap.size, 1, none⟩ = some (.int .i64 p) by rw [hB2.cell (cell_lt C1.out)]; exact C1.out)
  have D2 := Lib.hid (show w2.cell? ⟨w.heap.size, 2, none⟩ = some (.int .i64 e) by rw [hB2.cell (cell_lt C2.out)]; exact C2.out)
  clear hB2 ho1
  go_wp2_with (go_at_call 50; fail)
  refine (HP2.out k1 s1 _ w2 HO1.out.1 HO1.out.rd).mono ?_
  rintro e3 w3 ⟨k2, s2, rfl, ho2, hB3⟩
  have HB3 := Lib.hid (HB2.out.trans (hB3.mono HB2.out.size)); have HO2 := Lib.hid ho2
  have c1 : w3.cell? ⟨w.heap.size, 1, none⟩ = some (.int .i64 p) := by rw [hB3.cell (cell_lt D1.out)]; exact D1.out
  have E2 := Lib.hid (show w3.cell? ⟨w.heap.size, 2, none⟩ = some (.int .i64 e) by rw [hB3.cell (cell_lt D2.out)]; exact D2.out)
  clear hB3 ho2 c0
  go_wp2_with (go_at_call 50; fail)
  refine (HP3.out k2 s2 _ w3 HO2.out.1 HO2.out.rd).mono ?_
  rintro e4 w4 ⟨k3, s3, rfl, ho3, hB4⟩
  have HB4 := Lib.hid (HB3.out.trans (hB4.mono HB3.out.size)); have HO3 := Lib.hid ho3
  have c2 : w4.cell? ⟨w.heap.size, 2, none⟩ = some (.int .i64 e) := by rw [hB4.cell (cell_lt E2.out)]; exact E2.out
  clear hB4 ho3 c1
  go_wp2_with (go_at_call 50; fail)
  refine (HP4.out k3 s3 _ w4 HO3.out.1 HO3.out.rd).mono ?_
  rintro e5 w5 ⟨k4, s4, rfl, ho4, hB5⟩
  have HB5 := Lib.hid (HB4.out.trans (hB5.mono HB4.out.size))
  have ho : Ow w5 w.heap.size k4 10 s4 (lhead v p e) := ho4.base HB4.out.size
  have HO4 := Lib.hid ho
  obtain ⟨s, hs⟩ : ∃ s : Int, s = ((sumOf (lhead v p e)).toNat : Int) := ⟨_, rfl⟩
  have hs0 : 0 ≤ s ∧ s < 4294967296 := by rw [hs]; have := (sumOf (lhead v p e)).isLt; omega
  obtain ⟨hs0, hs1⟩ := hs0
  have hba : Below w5.heap.size w5 (w5.alloc (.cells #[.slice k4 10 s4] 27)) := (Below.refl _ _).alloc (Nat.le_refl _) _
  have HBY := Lib.hid (bytes_any (some ⟨w5.heap.size, 0, none⟩) 1 1 [⟨k4, 10, s4, lhead v p e⟩] (w5.alloc (.cells #[.slice k4 10 s4] 27)) s (by rw [hs]; simp [flat]) rfl (by decide) ((HT.out.below HB5.out).below hba) (ps_new w5 [⟨k4, 10, s4, lhead v p e⟩] 27 (fun r hr => by
    match r, hr with
    | 0, _ => exact ho.part (lhead_bts v p e))))
  have HS := Lib.hid hs; have HBA := Lib.hid hba
  clear hB5 ho4 c2 ho hs hba
  go_wp2_with (first
    | (go_at_call 32; refine HBY.out.mono ?_; rintro e w6 ⟨rfl, hB6⟩; have HB6 := Lib.hid (HB5.out.trans ((HBA.out.trans (hB6.mono HBA.out.size)).mono HB5.out.size)); have HO6 := Lib.hid ((HO4.out.below HBA.out).below hB6); clear hB6)
    | (at_builtin; refine append_bytes rfl (.tmp 41) (.tmp 42) rfl w.heap.size 10 s4 4 4 k4 (some ⟨w6.heap.size, 0, none⟩) (lhead v p e) (l4 s) rfl ?o rfl ?r rfl (fun h => by cases h) (by omega) ?b ?_))
  case o => exact HO6.out.below ((Below.refl _ _).alloc (Nat.le_refl _) _)
  case r =>
    have := part_new w6 (l4 s) 51 (0, 0) (by have es : s = ((sumOf (lhead v p e)).toNat : Int) := HS.out; rw [es]; exact bts_l4 _ (sumOf (lhead v p e)).isLt) (by simp [l4, maxLen])
    exact this.rd
  case b => have := HB6.out.size; simp; omega
  intro k5 s5 w7 ho7 hB7
  have HE : Hid (RB w 14 (lab v p e) (.returned (.tuple #[.slice k5 14 s5, .int .i64 0])) w7) := by
    refine ⟨k5, s5, rfl, ?_, HB6.out.trans (((Below.refl _ _).alloc HB6.out.size _).trans hB7)⟩
    have e : lab v p e = lhead v p e ++ l4 s := by rw [HS.out]; rfl
    rw [e]; exact ho7
  clear ho7 hB7
  go_wp2
  go_ret2
  exact HE.out

end Go.Proofs.YtmbkgjiofkggcaaDoor
