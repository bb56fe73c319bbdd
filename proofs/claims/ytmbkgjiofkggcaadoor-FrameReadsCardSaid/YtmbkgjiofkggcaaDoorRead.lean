/-
  The contract of label's Read; the comparison of labels; what is tried at each statement's end.
-/
import Derived.Test.YtmbkgjiofkggcaaDoorLabel
namespace Go.Proofs.YtmbkgjiofkggcaaDoor
open Go.RowKit
set_option linter.unusedVariables false

/-- The bytes' fields. -/
def fv (zs : List Int) : Int := ((num ((zs.drop 4).take 1) : Nat) : Int)
def fp (zs : List Int) : Int := ((num ((zs.drop 5).take 1) : Nat) : Int)
def fe (zs : List Int) : Int := ((num ((zs.drop 6).take 4) : Nat) : Int)
/-- Are these bytes a label's? -/
def isLab (zs : List Int) : Prop := lok (fv zs) (fp zs) (fe zs) ∧ zs = lab (fv zs) (fp zs) (fe zs)
/-- What Read leaves. -/
def RL (w : World) (v p e er : Int) (r : Ending) (w' : World) : Prop :=
  r = .returned (.tuple #[.agg #[.int .i64 v, .int .i64 p, .int .i64 e], .int .i64 er]) ∧ Below w.heap.size w w'

/-- What Read leaves of bytes. -/
def RLs (w : World) (zs : List Int) (r : Ending) (w' : World) : Prop :=
  (isLab zs ∧ RL w (fv zs) (fp zs) (fe zs) 0 r w') ∨ (¬ isLab zs ∧ RL w 0 0 0 13 r w')
theorem get_of (ao : Option Addr) (len cap : Nat) (zs : List Int) (a s : Nat) (w : World) (hl : zs.length = len) (hlc : len ≤ cap) (hm : cap ≤ maxLen) (hr : Rd w ao zs) (hz : Bts zs) (h1 : 1 ≤ s) (h2 : s ≤ 7) (h3 : a + s ≤ len) (x : Int) (hx : x = ((num ((zs.drop a).take s) : Nat) : Int)) :
    Calls Tryd.prog 45 #[.slice ao len cap, .int .i64 a, .int .i64 s] w fun e w' => e = .returned (.tuple #[.int .i64 x, .int .i64 ((a : Int) + s), .int .i64 0]) ∧ w = w' := by
  have h := get_r ao len cap zs a s w hl hlc hm hr hz
  have e : getS zs a s = (x, (a : Int) + s, 0) := by
    unfold getS
    rw [if_neg (by omega), if_neg (by omega), hx]
    simp
  rw [e] at h
  exact h

theorem read_short (ao : Option Addr) (n cap : Nat) (w : World) (h : n < 10) : Calls Tryd.prog 37 #[.slice ao n cap] w (RL w 0 0 0 13) := by
  have d1 : decide ((n : Int) < 10) = true := decide_eq_true (by omega)
  go_enter Tryd.func37, Tryd.ntmps37
  go_wp2
  refine bodyPost_ret (v := .tuple #[.agg #[.int .i64 0, .int .i64 0, .int .i64 0], .int .i64 13]) (by simp [results, Tryd.results37, go_sem]) rfl ⟨rfl, ?_⟩
  exact (Below.refl _ _).alloc (Nat.le_refl _) _

set_option maxHeartbeats 1000000 in
theorem read_long (ao : Option Addr) (n cap : Nat) (zs : List Int) (w : World) (hT : Tab w) (hl : zs.length = n) (hnc : n ≤ cap) (hcm : cap ≤ maxLen) (hr : Rd w ao zs) (hz : Bts zs) (h : 10 ≤ n) : Calls Tryd.prog 37 #[.slice ao n cap] w (RLs w zs) := by
  have d1 : decide ((n : Int) < 10) = false := decide_eq_false (by omega)
  obtain ⟨v, hv⟩ : ∃ v, v = fv zs := ⟨_, rfl⟩
  obtain ⟨p, hp⟩ : ∃ p, p = fp zs := ⟨_, rfl⟩
  obtain ⟨e, he⟩ : ∃ e, e = fe zs := ⟨_, rfl⟩
  have hg1 : ∀ w' (hB : Below w.heap.size w w'), Calls Tryd.prog 45 #[.slice ao n cap, .int .i64 4, .int .i64 1] w' fun r w'' => r = .returned (.tuple #[.int .i64 v, .int .i64 5, .int .i64 0]) ∧ w' = w'' :=
    fun w' hB => get_of ao n cap zs 4 1 w' hl hnc hcm (hr.below hB) hz (by omega) (by omega) (by omega) v hv
  have hg2 : ∀ w' (hB : Below w.heap.size w w'), Calls Tryd.prog 45 #[.slice ao n cap, .int .i64 5, .int .i64 1] w' fun r w'' => r = .returned (.tuple #[.int .i64 p, .int .i64 6, .int .i64 0]) ∧ w' = w'' :=
    fun w' hB => get_of ao n cap zs 5 1 w' hl hnc hcm (hr.below hB) hz (by omega) (by omega) (by omega) p hp
  have hg3 : ∀ w' (hB : Below w.heap.size w w'), Calls Tryd.prog 45 #[.slice ao n cap, .int .i64 6, .int .i64 4] w' fun r w'' => r = .returned (.tuple #[.int .i64 e, .int .i64 10, .int .i64 0]) ∧ w' = w'' :=
    fun w' hB => get_of ao n cap zs 6 4 w' hl hnc hcm (hr.below hB) hz (by omega) (by omega) (by omega) e he
  have HG1 := Lib.hid hg1; have HG2 := Lib.hid hg2; have HG3 := Lib.hid hg3
  clear hg1 hg2 hg3
  have HT := Lib.hid hT; have HV := Lib.hid hv; have HP := Lib.hid hp; have HE := Lib.hid he
  have HRZ := Lib.hid (show zs.length = n ∧ Rd w ao zs ∧ Bts zs from ⟨hl, hr, hz⟩)
  clear hl hr hz hT hv hp he hcm
  go_enter Tryd.func37, Tryd.ntmps37
  go_wp2_with (first
    | (go_at_call_of 45 (Value.int .i64 4); fail)
    | (go_at_call 45; fail))
  have hb2 : ∀ (A B : Array Value), Below w.heap.size w ((w.alloc (.cells A 54)).alloc (.cells B 54)) := fun A B => ((Below.refl _ _).alloc (Nat.le_refl _) _).alloc (by simp) _
  have HB2 := Lib.hid hb2
  clear hb2
  refine (HG1.out _ (HB2.out _ _)).mono ?_
  rintro r w1 ⟨rfl, rfl⟩
  go_wp2_with (go_at_call 45; fail)
  refine (HG2.out _ (HB2.out _ _)).mono ?_
  rintro r w1 ⟨rfl, rfl⟩
  go_wp2_with (go_at_call 45; fail)
  refine (HG3.out _ (HB2.out _ _)).mono ?_
  rintro r w1 ⟨rfl, rfl⟩
  go_wp2_with (go_at_call 33; fail)
  obtain ⟨W, hW⟩ : ∃ W, W = (w.alloc (.cells #[.int .i64 0, .int .i64 0, .int .i64 0] 54)).alloc (.cells #[.int .i64 v, .int .i64 p, .int .i64 e] 54) := ⟨_, rfl⟩
  have hBW : Below w.heap.size w W := by rw [hW]; exact HB2.out _ _
  have hsz : W.heap.size = w.heap.size + 1 + 1 := by rw [hW, World.size_alloc, World.size_alloc]
  have hb0 : W.heap[w.heap.size]? = some (.cells #[.int .i64 0, .int .i64 0, .int .i64 0] 54) := by
    rw [hW, ((Below.refl (w.alloc _).heap.size (w.alloc (.cells #[.int .i64 0, .int .i64 0, .int .i64 0] 54))).alloc (Nat.le_refl _) _).block _ (by rw [World.size_alloc]; omega)]
    exact heap_alloc_new _ _
  have hb1 : W.heap[w.heap.size + 1]? = some (.cells #[.int .i64 v, .int .i64 p, .int .i64 e] 54) := by
    have := heap_alloc_new (w.alloc (.cells #[.int .i64 0, .int .i64 0, .int .i64 0] 54)) (.cells #[.int .i64 v, .int .i64 p, .int .i64 e] 54)
    rw [World.size_alloc] at this
    rw [hW]; exact this
  rw [← hW]
  have HBW := Lib.hid hBW; have HSZ := Lib.hid hsz; have HB0 := Lib.hid hb0; have HB1 := Lib.hid hb1
  clear hW hBW hsz hb0 hb1 HB2
  by_cases hlok : lok v p e
  · have HLOK := Lib.hid hlok
    refine (bytes_ok v p e W (HT.out.below HBW.out) hlok).mono ?_
    rintro r w2 ⟨ko, kc, rfl, how, hB2⟩
    have HB2 := Lib.hid (HBW.out.trans (hB2.mono HBW.out.size))
    have g0 : w2.heap[w.heap.size]? = some (.cells #[.int .i64 0, .int .i64 0, .int .i64 0] 54) := by rw [hB2.block _ (by rw [HSZ.out]; omega)]; exact HB0.out
    have g1 : w2.heap[w.heap.size + 1]? = some (.cells #[.int .i64 v, .int .i64 p, .int .i64 e] 54) := by rw [hB2.block _ (by rw [HSZ.out]; omega)]; exact HB1.out
    have sz2 : w.heap.size + 1 < w2.heap.size := by have := hB2.size; rw [HSZ.out] at this; omega
    have heq := equal_any ao ko n 14 cap kc zs (lab v p e) w2 HRZ.out.1 how.1 (HRZ.out.2.1.below HB2.out) how.rd HRZ.out.2.2 (lab_bts v p e)
    have HEQ := Lib.hid heq; have G0 := Lib.hid g0; have G1 := Lib.hid g1
    have a0 : w2.cell? ⟨w.heap.size, 0, none⟩ = some (.int .i64 0) := by simp [World.cell?, g0]
    have a1 : w2.cell? ⟨w.heap.size, 1, none⟩ = some (.int .i64 0) := by simp [World.cell?, g0]
    have a2 : w2.cell? ⟨w.heap.size, 2, none⟩ = some (.int .i64 0) := by simp [World.cell?, g0]
    have b0 : w2.cell? ⟨w.heap.size + 1, 0, none⟩ = some (.int .i64 v) := by simp [World.cell?, g1]
    have b1 : w2.cell? ⟨w.heap.size + 1, 1, none⟩ = some (.int .i64 p) := by simp [World.cell?, g1]
    have b2 : w2.cell? ⟨w.heap.size + 1, 2, none⟩ = some (.int .i64 e) := by simp [World.cell?, g1]
    have f0 : ∀ j, w2.frozen? ⟨w.heap.size, j, none⟩ = false := fun j => by simp [World.frozen?, g0]
    clear hB2 how heq g0 g1 hlok
    by_cases hzs : zs = lab v p e
    · have hlab : isLab zs := ⟨by rw [← HV.out, ← HP.out, ← HE.out]; exact HLOK.out, by rw [← HV.out, ← HP.out, ← HE.out]; exact hzs⟩
      have hd : decide (zs = lab v p e) = true := decide_eq_true hzs
      rw [hd] at HEQ
      have HLAB := Lib.hid hlab
      clear hlab hd hzs
      go_wp2_with (go_at_call 46; refine HEQ.out.mono ?_; rintro r w3 ⟨rfl, rfl⟩)
      refine bodyPost_ret (v := .tuple #[.agg #[.int .i64 v, .int .i64 p, .int .i64 e], .int .i64 0]) (by simp [results, Tryd.results37, go_sem, a0, a1, a2]) rfl ?_
      exact .inl ⟨HLAB.out, by rw [← HV.out, ← HP.out, ← HE.out], ((HB2.out.setCell (Nat.le_refl _) _).setCell (Nat.le_refl _) _).setCell (Nat.le_refl _) _⟩
    · have hlab : ¬ isLab zs := fun h => hzs (by rw [HV.out, HP.out, HE.out]; exact h.2)
      have hd : decide (zs = lab v p e) = false := decide_eq_false hzs
      rw [hd] at HEQ
      have HLAB := Lib.hid hlab
      clear hlab hd hzs
      go_wp2_with (go_at_call 46; refine HEQ.out.mono ?_; rintro r w3 ⟨rfl, rfl⟩)
      refine bodyPost_ret (v := .tuple #[.agg #[.int .i64 0, .int .i64 0, .int .i64 0], .int .i64 13]) (by simp [results, Tryd.results37, go_sem, a0, a1, a2]) rfl ?_
      exact .inr ⟨HLAB.out, rfl, ((HB2.out.setCell (Nat.le_refl _) _).setCell (Nat.le_refl _) _).setCell (Nat.le_refl _) _⟩
  · have hlab : ¬ isLab zs := fun h => hlok (by rw [HV.out, HP.out, HE.out]; exact h.1)
    refine (bytes_bad v p e W hlok).mono ?_
    rintro r w2 ⟨rfl, hB2⟩
    have HB2 := Lib.hid (HBW.out.trans (hB2.mono HBW.out.size))
    have g0 : w2.heap[w.heap.size]? = some (.cells #[.int .i64 0, .int .i64 0, .int .i64 0] 54) := by rw [hB2.block _ (by rw [HSZ.out]; omega)]; exact HB0.out
    have sz2 : w.heap.size + 1 < w2.heap.size := by have := hB2.size; rw [HSZ.out] at this; omega
    have G0 := Lib.hid g0
    have a0 : w2.cell? ⟨w.heap.size, 0, none⟩ = some (.int .i64 0) := by simp [World.cell?, g0]
    have a1 : w2.cell? ⟨w.heap.size, 1, none⟩ = some (.int .i64 0) := by simp [World.cell?, g0]
    have a2 : w2.cell? ⟨w.heap.size, 2, none⟩ = some (.int .i64 0) := by simp [World.cell?, g0]
    have f0 : ∀ j, w2.frozen? ⟨w.heap.size, j, none⟩ = false := fun j => by simp [World.frozen?, g0]
    have HLAB := Lib.hid hlab
    clear hB2 g0 hlok hlab
    go_wp2_with (go_at_call 46; fail)
    refine bodyPost_ret (v := .tuple #[.agg #[.int .i64 0, .int .i64 0, .int .i64 0], .int .i64 13]) (by simp [results, Tryd.results37, go_sem, a0, a1, a2]) rfl ?_
    exact .inr ⟨HLAB.out, rfl, ((HB2.out.setCell (Nat.le_refl _) _).setCell (Nat.le_refl _) _).setCell (Nat.le_refl _) _⟩

/-- READ, OF WHATEVER BYTES. -/
theorem read_any (ao : Option Addr) (n cap : Nat) (zs : List Int) (w : World) (hT : Tab w) (hl : zs.length = n) (hnc : n ≤ cap) (hcm : cap ≤ maxLen) (hr : Rd w ao zs) (hz : Bts zs) :
    Calls Tryd.prog 37 #[.slice ao n cap] w (RLs w zs) := by
  by_cases h : n < 10
  · refine (read_short ao n cap w h).mono fun r w' h' => .inr ⟨fun hl' => ?_, h'⟩
    have := congrArg List.length hl'.2
    rw [lab_len] at this
    omega
  · exact read_long ao n cap zs w hT hl hnc hcm hr hz (by omega)

theorem be_one (v : Int) (h0 : 0 ≤ v) (h1 : v < 256) : be v.toNat 1 = [v] := by
  simp [be, digit, List.range_succ]
  omega
theorem num_be4 (e : Int) (h0 : 0 ≤ e) (h1 : e < 4294967296) : ((num (be e.toNat 4) : Nat) : Int) = e := by
  rw [num_be e.toNat 4 (by omega)]; omega
theorem lab_fields (v p e : Int) (h : lok v p e) : fv (lab v p e) = v ∧ fp (lab v p e) = p ∧ fe (lab v p e) = e := by
  obtain ⟨h1, h2, h3, h4, h5, h6⟩ := h
  have l1 : (be 1128614988 4).length = 4 := be_length _ _
  have hv := be_one v h1 (by omega)
  have hp := be_one p h3 (by omega)
  have l4' : (be e.toNat 4).length = 4 := be_length _ _
  have e0 : lab v p e = be 1128614988 4 ++ (v :: p :: (be e.toNat 4 ++ l4 ((sumOf (lhead v p e)).toNat : Int))) := by
    unfold lab
    conv => lhs; arg 1; unfold lhead
    rw [hv, hp]; simp
  have d4 : ∀ k, (lab v p e).drop (4 + k) = (v :: p :: (be e.toNat 4 ++ l4 ((sumOf (lhead v p e)).toNat : Int))).drop k := fun k => by
    rw [e0, ← List.drop_drop, List.drop_append_of_le_length (by omega), show (be 1128614988 4).drop 4 = [] from List.drop_of_length_le (by omega), List.nil_append]
  refine ⟨?_, ?_, ?_⟩
  · unfold fv
    rw [show 4 = 4 + 0 by rfl, d4 0]; simp [num]; omega
  · unfold fp
    rw [show 5 = 4 + 1 by rfl, d4 1]; simp [num]; omega
  · unfold fe
    rw [show (6 : Nat) = 4 + 2 by rfl, d4 2]
    simp only [List.drop_succ_cons, List.drop_zero]
    rw [List.take_append_of_le_length (by omega), List.take_of_length_le (by omega)]
    exact num_be4 e h5 (by omega)
theorem lab_is (v p e : Int) (h : lok v p e) : isLab (lab v p e) := by
  obtain ⟨h1, h2, h3⟩ := lab_fields v p e h
  exact ⟨by rw [h1, h2, h3]; exact h, by rw [h1, h2, h3]⟩
theorem lab_inj (v p e v' p' e' : Int) (h : lok v p e) (h' : lok v' p' e') : lab v p e = lab v' p' e' ↔ (v = v' ∧ p = p' ∧ e = e') := by
  constructor
  · intro hh
    obtain ⟨h1, h2, h3⟩ := lab_fields v p e h
    obtain ⟨k1, k2, k3⟩ := lab_fields v' p' e' h'
    rw [hh] at h1 h2 h3
    exact ⟨h1.symm.trans k1, h2.symm.trans k2, h3.symm.trans k3⟩
  · rintro ⟨rfl, rfl, rfl⟩; rfl

theorem same_label (v p e v' p' e' : Int) (w : World) : Calls Tryd.prog 39 #[.agg #[.int .i64 v, .int .i64 p, .int .i64 e], .agg #[.int .i64 v', .int .i64 p', .int .i64 e']] w fun r w' => r = .returned (.bool (decide (v = v' ∧ p = p' ∧ e = e'))) ∧ Below w.heap.size w w' := by
  have hB : ∀ A B, Below w.heap.size w ((w.alloc (.cells A 54)).alloc (.cells B 54)) := fun A B => ((Below.refl _ _).alloc (Nat.le_refl _) _).alloc (by simp) _
  have HB := Lib.hid hB
  clear hB
  obtain ⟨r, hr⟩ : ∃ r, r = decide (v = v' ∧ p = p' ∧ e = e') := ⟨_, rfl⟩
  rw [← hr]
  by_cases h1 : v = v'
  · have d1 : (v == v') = true := beq_iff_eq.2 h1
    by_cases h2 : p = p'
    · have d2 : (p == p') = true := beq_iff_eq.2 h2
      by_cases h3 : e = e'
      · have d3 : (e == e') = true := beq_iff_eq.2 h3
        obtain rfl : r = true := by rw [hr]; exact decide_eq_true ⟨h1, h2, h3⟩
        clear hr h1 h2 h3
        go_enter Tryd.func39, Tryd.ntmps39
        go_wp2
        go_ret
        exact ⟨rfl, HB.out _ _⟩
      · have d3 : (e == e') = false := beq_eq_false_iff_ne.2 h3
        obtain rfl : r = false := by rw [hr]; exact decide_eq_false (fun h => h3 h.2.2)
        clear hr h1 h2 h3
        go_enter Tryd.func39, Tryd.ntmps39
        go_wp2
        go_ret
        exact ⟨rfl, HB.out _ _⟩
    · have d2 : (p == p') = false := beq_eq_false_iff_ne.2 h2
      obtain rfl : r = false := by rw [hr]; exact decide_eq_false (fun h => h2 h.2.1)
      clear hr h1 h2
      go_enter Tryd.func39, Tryd.ntmps39
      go_wp2
      go_ret
      exact ⟨rfl, HB.out _ _⟩
  · have d1 : (v == v') = false := beq_eq_false_iff_ne.2 h1
    obtain rfl : r = false := by rw [hr]; exact decide_eq_false (fun h => h1 h.1)
    clear hr h1
    go_enter Tryd.func39, Tryd.ntmps39
    go_wp2
    go_ret
    exact ⟨rfl, HB.out _ _⟩

theorem lok_319 : lok 3 1 9 := by unfold lok; omega
theorem wakes14 (w : World) (hT : Tab w) : Calls Tryd.prog 36 #[] w fun e w' => e = .returned (.bool true) ∧ Below w.heap.size w w' := by
  have HB := Lib.hid (bytes_ok 3 1 9 w hT lok_319)
  have HT := Lib.hid hT
  clear hT
  go_enter Tryd.func36, Tryd.ntmps36
  go_wp2_with (go_at_call 33; fail)
  refine HB.out.mono ?_
  rintro r w1 ⟨ko, kc, rfl, how, hB1⟩
  have HR := Lib.hid (read_any ko 14 kc _ w1 (HT.out.below hB1) how.1 how.2.1 how.2.2.1 how.rd (lab_bts 3 1 9))
  have HB1 := Lib.hid hB1
  clear how hB1
  go_wp2_with (go_at_call 37; fail)
  refine HR.out.mono ?_
  rintro r w2 (⟨hl, rfl, hB2⟩ | ⟨hl, _⟩)
  · obtain ⟨e1, e2, e3⟩ := lab_fields 3 1 9 lok_319
    rw [e1, e2, e3]
    have HB2 := Lib.hid (HB1.out.trans (hB2.mono HB1.out.size))
    clear e1 e2 e3 hB2 hl
    go_wp2
    go_ret
    exact ⟨rfl, HB2.out.alloc HB2.out.size _⟩
  · exact absurd (lab_is 3 1 9 lok_319) hl

end Go.Proofs.YtmbkgjiofkggcaaDoor
