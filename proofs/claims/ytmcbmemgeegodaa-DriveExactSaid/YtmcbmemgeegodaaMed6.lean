/-
  Tapes: New, Heavy, the document's own Medium.
-/
import Derived.Test.YtmcbmemgeegodaaMed5
namespace Go.Proofs.Ytmcbmemgeegodaa
open Go.RowKit
set_option linter.unusedVariables false





theorem heavy_any (t : Tap) (w : World) (h : t.ok w) : Calls Try.prog 8 #[.agg #[.int .i64 t.p, .slice t.a t.n t.c]] w fun e w' => (e = .returned (.bool true) ∨ (e = .returned (.bool false) ∧ t.n ≤ 80 ∧ ∀ i, (hi : i < t.cs.length) → t.cs[i].d.l ≤ 300)) ∧ Below w.heap.size w w' := by
  have hm := Nat.le_trans h.room h.cm
  unfold maxLen at hm
  obtain ⟨W0, hW0⟩ : ∃ W0, W0 = w.alloc (.cells #[.int .i64 t.p, .slice t.a t.n t.c] 24) := ⟨_, rfl⟩
  have hB0 : Below w.heap.size w W0 := by rw [hW0]; exact (Below.refl _ _).alloc (Nat.le_refl _) _
  have hx : W0.cell? ⟨w.heap.size, 1, none⟩ = some (.slice t.a t.n t.c) := by rw [hW0, World.cell?_alloc_mark]; rfl
  have HCS := Lib.hid (h.cells.below hB0); have HL := Lib.hid h.len
  obtain ⟨p, a, n, c, cs⟩ := t
  simp only at hm hx HCS HL hW0 ⊢
  have HW0 := Lib.hid hW0; have HB0 := Lib.hid hB0
  clear h hB0 hW0
  by_cases h80 : 80 < n
  · have d1 : decide ((80 : Int) < (n : Int)) = true := decide_eq_true (by omega)
    have d1' : decide (80 < n) = true := decide_eq_true h80
    go_enter Try.func8, Try.ntmps8
    go_wp2
    go_ret
    exact ⟨.inl rfl, by rw [← HW0.out]; exact HB0.out⟩
  have d1 : decide ((80 : Int) < (n : Int)) = false := decide_eq_false (by omega)
  have d1' : decide (80 < n) = false := decide_eq_false h80
  go_enter Try.func8, Try.ntmps8
  go_wp2
  rw [← HW0.out]
  go_loop [3] (fun i => ∃ k : Nat, k ≤ n ∧ i = .int .i64 k ∧ ∀ j, (hj : j < cs.length) → j < k → cs[j].d.l ≤ 300) (fun i => n - (intOf i).toNat)
  case atStart => exact ⟨0, Nat.zero_le _, rfl, fun j _ hj => absurd hj (Nat.not_lt_zero _)⟩
  case round =>
    obtain ⟨k, hk, rfl, hall⟩ := hrel
    have HALL := Lib.hid hall
    by_cases hlt : k < n
    · have d2 : decide ((k : Int) < (n : Int)) = true := decide_eq_true (by omega)
      have hlt' : k < cs.length := by rw [HL.out]; exact hlt
      obtain ⟨b, o, rfl, c0, c1, c2, hd⟩ := HCS.out.at hlt'
      obtain ⟨x, hx'⟩ : ∃ x, x = cs[k] := ⟨_, rfl⟩
      rw [← hx'] at c1
      have HX := Lib.hid hx'
      have i1 : (0 : Int) ≤ (k : Int) := by omega
      have i2 : (k : Int) < (n : Int) := by omega
      clear hall c0 c2 hd hx'
      by_cases h4 : 300 < x.d.l
      · have d3 : decide ((300 : Int) < (x.d.l : Int)) = true := decide_eq_true (by omega)
        have d3' : decide (300 < x.d.l) = true := decide_eq_true h4
        go_wp2
        go_ret
        exact ⟨.inl rfl, HB0.out⟩
      · have d3 : decide ((300 : Int) < (x.d.l : Int)) = false := decide_eq_false (by omega)
        have d3' : decide (300 < x.d.l) = false := decide_eq_false h4
        go_wp2
        go_round
        case rel => exact ⟨k + 1, by omega, by go_num, fun j hj hjk => by
          by_cases hjk' : j < k
          · exact HALL.out j hj hjk'
          · obtain rfl : j = k := by omega
            rw [← HX.out]; omega⟩
        case measure => simp [intOf]; omega
    · have d2 : decide ((k : Int) < (n : Int)) = false := decide_eq_false (by omega)
      clear hall
      go_wp2
      go_ret
      refine ⟨.inr ⟨rfl, by omega, fun i hi => HALL.out i hi ?_⟩, HB0.out⟩
      rw [HL.out] at hi; omega

theorem bne_of {k m : Int} : (k != m) = !(k == m) := rfl

set_option maxHeartbeats 4000000 in
/-- THE DOCUMENT'S OWN: may a tape be? -/
theorem refmed_any (t : Tap) (w : World) (h : t.ok w) : Calls Try.prog 14 #[.agg #[.int .i64 t.p, .slice t.a t.n t.c]] w fun e w' => e = .returned (.bool (goodK t.p t.ks)) ∧ Below w.heap.size w w' := by
  have hgk : goodK t.p t.ks = good t.p t.cs := (good_keys t.p h.cells).symm
  have hm := Nat.le_trans h.room h.cm
  unfold maxLen at hm
  obtain ⟨W0, hW0⟩ : ∃ W0, W0 = w.alloc (.cells #[.int .i64 t.p, .slice t.a t.n t.c] 24) := ⟨_, rfl⟩
  have hB0 : Below w.heap.size w W0 := by rw [hW0]; exact (Below.refl _ _).alloc (Nat.le_refl _) _
  have hx : W0.cell? ⟨w.heap.size, 1, none⟩ = some (.slice t.a t.n t.c) := by rw [hW0, World.cell?_alloc_mark]; rfl
  have HCS := Lib.hid (h.cells.below hB0); have HL := Lib.hid h.len
  obtain ⟨p, a, n, c, cs⟩ := t
  simp only [Tap.ks] at hm hx HCS HL hW0 hgk ⊢
  have HW0 := Lib.hid hW0; have HB0 := Lib.hid hB0
  rw [hgk]
  obtain ⟨q, hq⟩ : ∃ q : Bool, q = good p cs := ⟨_, rfl⟩
  rw [← hq]
  have hgood : good p cs = (decide (1 ≤ p) && decide (p ≤ 400) && decide ((n : Int) ≤ p) && cs.all fun c => okc c.k c.d.l) := by unfold good; rw [HL.out]
  rw [hgood] at hq
  clear h hB0 hW0 hgk hgood
  by_cases h1 : p < 1
  · have d1 : decide (p < 1) = true := decide_eq_true h1
    obtain rfl : q = false := by rw [hq, decide_eq_false (by omega : ¬ 1 ≤ p)]; rfl
    clear hq h1
    go_enter Try.func14, Try.ntmps14
    go_wp2
    go_ret
    exact ⟨rfl, by rw [← HW0.out]; exact HB0.out⟩
  have d1 : decide (p < 1) = false := decide_eq_false h1
  by_cases h2 : 400 < p
  · have d2 : decide (400 < p) = true := decide_eq_true h2
    obtain rfl : q = false := by rw [hq, decide_eq_false (by omega : ¬ p ≤ 400)]; simp
    clear hq h1 h2
    go_enter Try.func14, Try.ntmps14
    go_wp2
    go_ret
    exact ⟨rfl, by rw [← HW0.out]; exact HB0.out⟩
  have d2 : decide (400 < p) = false := decide_eq_false h2
  by_cases h3 : p < (n : Int)
  · have d3 : decide (p < (n : Int)) = true := decide_eq_true h3
    obtain rfl : q = false := by rw [hq, decide_eq_false (by omega : ¬ (n : Int) ≤ p)]; simp
    clear hq h1 h2 h3
    go_enter Try.func14, Try.ntmps14
    go_wp2
    go_ret
    exact ⟨rfl, by rw [← HW0.out]; exact HB0.out⟩
  have d3 : decide (p < (n : Int)) = false := decide_eq_false h3
  have hq2 : q = cs.all fun c => okc c.k c.d.l := by
    rw [hq, decide_eq_true (by omega : 1 ≤ p), decide_eq_true (by omega : p ≤ 400), decide_eq_true (by omega : (n : Int) ≤ p)]; simp
  have HQ := Lib.hid hq2
  clear hq hq2 h1 h2 h3
  go_enter Try.func14, Try.ntmps14
  go_wp2
  rw [← HW0.out]
  clear d1 d2 d3
  go_loop [3] (fun i => ∃ k : Nat, k ≤ n ∧ i = .int .i64 k ∧ ((cs.take k).all fun c => okc c.k c.d.l) = true) (fun i => n - (intOf i).toNat)
  case atStart => exact ⟨0, Nat.zero_le _, rfl, rfl⟩
  case round =>
    obtain ⟨k, hk, rfl, hall⟩ := hrel
    have HALL := Lib.hid hall
    by_cases hlt : k < n
    · have e2 : decide ((k : Int) < (n : Int)) = true := decide_eq_true (by omega)
      have hlt1 : k < cs.length := by rw [HL.out]; exact hlt
      obtain ⟨b, o, rfl, c0, c1, c2, hd⟩ := HCS.out.at hlt1
      have hat := all_take cs k hlt1
      rw [hall, Bool.true_and] at hat
      have hbad : okc cs[k].k cs[k].d.l = false → q = false := fun hf => by
        rw [HQ.out]
        cases ht : (cs.all fun c => okc c.k c.d.l) with
        | false => rfl
        | true =>
          have := List.all_eq_true.1 ht _ (List.getElem_mem hlt1)
          rw [hf] at this; cases this
      obtain ⟨x, hx'⟩ : ∃ x, x = cs[k] := ⟨_, rfl⟩
      rw [← hx'] at c0 c1 hat hbad
      obtain ⟨l, hl⟩ : ∃ l, l = x.d.l := ⟨_, rfl⟩
      obtain ⟨kd, hkd⟩ : ∃ kd, kd = x.k := ⟨_, rfl⟩
      rw [← hl] at c1 hat hbad
      rw [← hkd] at c0 hat hbad
      have HAT := Lib.hid hat; have HBAD := Lib.hid hbad
      have i1 : (0 : Int) ≤ (k : Int) := by omega
      have i2 : (k : Int) < (n : Int) := by omega
      clear hall c2 hd hx' hat hbad hl hkd
      have hv : (l < 1 ∧ l ≤ 256) ∨ (1 ≤ l ∧ l ≤ 256) ∨ (1 ≤ l ∧ 256 < l) := by omega
      have hc : kd = 1 ∨ kd = 2 ∨ kd = 3 ∨ (kd ≠ 1 ∧ kd ≠ 2 ∧ kd ≠ 3) := by omega
      have hks : ∃ b1 b2 b3 : Bool, (kd == 1) = b1 ∧ (kd == 2) = b2 ∧ (kd == 3) = b3 ∧ (kd != 1) = !b1 ∧ (kd != 2) = !b2 ∧ (kd != 3) = !b3 := ⟨_, _, _, rfl, rfl, rfl, rfl, rfl, rfl⟩
      have hls : ∃ l1 l2 : Bool, decide (l < 1) = l1 ∧ decide ((l : Int) < 1) = l1 ∧ decide (0 < l) = !l1 ∧ decide ((0 : Int) < (l : Int)) = !l1 ∧ decide (256 < l) = l2 ∧ decide ((256 : Int) < (l : Int)) = l2 ∧ okc kd l = ((kd == 1 && !l1 && !l2) || (kd == 2 && l1) || (kd == 3 && !l2)) := by
        refine ⟨_, _, rfl, decide_eq_decide.2 (by omega), ?_, ?_, rfl, decide_eq_decide.2 (by omega), ?_⟩
        · rw [← decide_not]; exact decide_eq_decide.2 (by omega)
        · rw [← decide_not]; exact decide_eq_decide.2 (by omega)
        · unfold okc
          rw [← decide_not, ← decide_not]
          rw [show decide (1 ≤ l) = decide (¬ l < 1) from decide_eq_decide.2 (by omega), show decide (l ≤ 256) = decide (¬ 256 < l) from decide_eq_decide.2 (by omega), show decide (l = 0) = decide (l < 1) from decide_eq_decide.2 (by omega)]
      obtain ⟨b1, b2, b3, q1, q2, q3, e1, e4, e3⟩ := hks
      obtain ⟨l1, l2, v1, v2, v3, v4, v5, v6, hok⟩ := hls
      rw [q1, q2, q3] at hok
      have hone : (b1 = true ∧ b2 = false ∧ b3 = false) ∨ (b1 = false ∧ b2 = true ∧ b3 = false) ∨ (b1 = false ∧ b2 = false ∧ b3 = true) ∨ (b1 = false ∧ b2 = false ∧ b3 = false) := by
        rcases hc with h | h | h | ⟨h, h', h''⟩
        · subst h; exact .inl ⟨q1.symm, q2.symm, q3.symm⟩
        · subst h; exact .inr (.inl ⟨q1.symm, q2.symm, q3.symm⟩)
        · subst h; exact .inr (.inr (.inl ⟨q1.symm, q2.symm, q3.symm⟩))
        · exact .inr (.inr (.inr ⟨q1 ▸ beq_eq_false_iff_ne.2 h, q2 ▸ beq_eq_false_iff_ne.2 h', q3 ▸ beq_eq_false_iff_ne.2 h''⟩))
      have hl12 : (l1 = true ∧ l2 = false) ∨ (l1 = false ∧ l2 = false) ∨ (l1 = false ∧ l2 = true) := by
        rcases hv with ⟨h, h'⟩ | ⟨h, h'⟩ | ⟨h, h'⟩
        · exact .inl ⟨v1 ▸ decide_eq_true h, v5 ▸ decide_eq_false (by omega)⟩
        · exact .inr (.inl ⟨v1 ▸ decide_eq_false (by omega), v5 ▸ decide_eq_false (by omega)⟩)
        · exact .inr (.inr ⟨v1 ▸ decide_eq_false (by omega), v5 ▸ decide_eq_true h'⟩)
      clear hc hv
      rcases hone with ⟨rfl, rfl, rfl⟩ | ⟨rfl, rfl, rfl⟩ | ⟨rfl, rfl, rfl⟩ | ⟨rfl, rfl, rfl⟩ <;> rcases hl12 with ⟨rfl, rfl⟩ | ⟨rfl, rfl⟩ | ⟨rfl, rfl⟩
      all_goals
        simp only [Bool.not_true, Bool.not_false, Bool.and_true, Bool.and_false, Bool.or_false, Bool.or_true] at hok e1 e3 e4 v3 v4
        first
          | (have hb : okc kd l = false := hok
             obtain rfl := HBAD.out hb
             clear hok hb
             go_wp2
             go_ret
             exact ⟨rfl, HB0.out⟩)
          | (have hb := HAT.out
             rw [hok] at hb
             have HA := Lib.hid hb
             clear hok hb
             go_wp2
             go_round
             case rel => exact ⟨k + 1, by omega, by go_num, HA.out⟩
             case measure => simp [intOf]; omega)
    · have e2 : decide ((k : Int) < (n : Int)) = false := decide_eq_false (by omega)
      obtain rfl : n = k := by omega
      have hq0 : q = true := by
        rw [HQ.out]
        rw [List.take_of_length_le (by rw [HL.out]; exact Nat.le_refl _)] at hall
        exact hall
      subst hq0
      clear hall
      go_wp2
      go_ret
      exact ⟨rfl, HB0.out⟩

end Go.Proofs.Ytmcbmemgeegodaa
