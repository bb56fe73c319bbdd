/-
  Tapes: cells, which may be; Check.
-/
import Derived.Test.YtmcbmemgeegodaaBase
namespace Go.Proofs.Ytmcbmemgeegodaa
open Go.RowKit
set_option linter.unusedVariables false

/-- A cell: its kind, its bytes, whether it is spoilt. -/
structure Cel where
  k : Int
  d : Part
  b : Bool
def Cel.v (c : Cel) : Value := .agg #[.int .i64 c.k, .slice c.d.a c.d.l c.d.c, .bool c.b]
/-- THE CELLS cs LIE AT ao. -/
def Cs (w : World) (ao : Option Addr) (cs : List Cel) : Prop :=
  cs = [] ∨ ∃ b o, ao = some ⟨b, o, none⟩ ∧ ∀ i, (h : i < cs.length) → w.cell? ⟨b, o + i * 3, none⟩ = some (.int .i64 cs[i].k) ∧ w.cell? ⟨b, o + i * 3 + 1, none⟩ = some (.slice cs[i].d.a cs[i].d.l cs[i].d.c) ∧ w.cell? ⟨b, o + i * 3 + 2, none⟩ = some (.bool cs[i].b) ∧ cs[i].d.ok w
theorem Cs.below {w w' : World} {ao : Option Addr} {cs : List Cel} (h : Cs w ao cs) (hB : Below w.heap.size w w') : Cs w' ao cs := by
  rcases h with h | ⟨b, o, ha, hc⟩
  · exact .inl h
  · exact .inr ⟨b, o, ha, fun i hi => by
      obtain ⟨h1, h2, h3, h4⟩ := hc i hi
      exact ⟨by rw [hB.cell (cell_lt h1)]; exact h1, by rw [hB.cell (cell_lt h2)]; exact h2, by rw [hB.cell (cell_lt h3)]; exact h3, h4.below hB⟩⟩
theorem Cs.at {w : World} {ao : Option Addr} {cs : List Cel} (h : Cs w ao cs) {k : Nat} (hk : k < cs.length) : ∃ b o, ao = some ⟨b, o, none⟩ ∧ w.cell? ⟨b, o + k * 3, none⟩ = some (.int .i64 cs[k].k) ∧ w.cell? ⟨b, o + k * 3 + 1, none⟩ = some (.slice cs[k].d.a cs[k].d.l cs[k].d.c) ∧ w.cell? ⟨b, o + k * 3 + 2, none⟩ = some (.bool cs[k].b) ∧ cs[k].d.ok w := by
  rcases h with h | ⟨b, o, ha, hc⟩
  · rw [h] at hk; exact absurd hk (Nat.not_lt_zero _)
  · obtain ⟨h1, h2, h3, h4⟩ := hc k hk
    exact ⟨b, o, ha, h1, h2, h3, h4⟩
/-- May a cell be? -/
def okc (k : Int) (n : Nat) : Bool := (k == 1 && decide (1 ≤ n) && decide (n ≤ 256)) || (k == 2 && decide (n = 0)) || (k == 3 && decide (n ≤ 256))
/-- May a tape be? -/
def good (p : Int) (cs : List Cel) : Bool := decide (1 ≤ p) && decide (p ≤ 400) && decide ((cs.length : Int) ≤ p) && cs.all fun c => okc c.k c.d.l
theorem good_at {p : Int} {cs : List Cel} (h : good p cs = true) : 1 ≤ p ∧ p ≤ 400 ∧ (cs.length : Int) ≤ p ∧ ∀ k, (hk : k < cs.length) → okc cs[k].k cs[k].d.l = true := by
  unfold good at h
  simp only [Bool.and_eq_true, decide_eq_true_eq] at h
  exact ⟨h.1.1.1, h.1.1.2, h.1.2, fun k hk => List.all_eq_true.1 h.2 _ (List.getElem_mem hk)⟩
theorem okc_le {k : Int} {n : Nat} (h : okc k n = true) : n ≤ 256 := by
  unfold okc at h
  simp only [Bool.or_eq_true, Bool.and_eq_true, decide_eq_true_eq] at h
  omega

theorem valid_any (c : Cel) (w : World) : Calls Try.prog 77 #[c.v] w fun e w' => e = .returned (.bool (okc c.k c.d.l)) ∧ Below w.heap.size w w' := by
  obtain ⟨k, ⟨a, n, cp, z⟩, b⟩ := c
  show Calls Try.prog 77 #[.agg #[.int .i64 k, .slice a n cp, .bool b]] w _
  simp only
  obtain ⟨q, hq⟩ : ∃ q, q = okc k n := ⟨_, rfl⟩
  rw [← hq]
  have HB := Lib.hid (fun A => (Below.refl w.heap.size w).alloc (Nat.le_refl _) (.cells A 62))
  by_cases h1 : k = 1
  · subst h1
    by_cases h2 : 1 ≤ n
    · have d2 : decide ((1 : Int) ≤ (n : Int)) = true := decide_eq_true (by omega)
      have d2' : decide (1 ≤ n) = true := decide_eq_true h2
      obtain ⟨t, ht⟩ : ∃ t, t = decide (n ≤ 256) := ⟨_, rfl⟩
      have d3 : decide ((n : Int) ≤ 256) = t := by rw [ht]; exact decide_eq_decide.2 (by omega)
      obtain rfl : q = t := by rw [hq, ht]; simp [okc, h2]
      clear hq h2 ht
      go_enter Try.func77, Try.ntmps77
      go_wp2
      go_ret
      exact ⟨rfl, HB.out _⟩
    · have d2 : decide ((1 : Int) ≤ (n : Int)) = false := decide_eq_false (by omega)
      have d2' : decide (1 ≤ n) = false := decide_eq_false h2
      obtain rfl : q = false := by rw [hq]; simp [okc]; omega
      clear hq h2
      go_enter Try.func77, Try.ntmps77
      go_wp2
      go_ret
      exact ⟨rfl, HB.out _⟩
  have e1 : (k == 1) = false := beq_eq_false_iff_ne.2 h1
  by_cases h2 : k = 2
  · subst h2
    obtain ⟨t, ht⟩ : ∃ t, t = decide (n = 0) := ⟨_, rfl⟩
    have d3 : ((n : Int) == 0) = t := by
      rw [ht]
      by_cases h0 : n = 0
      · subst h0; rfl
      · rw [decide_eq_false h0]; exact beq_eq_false_iff_ne.2 (by omega)
    obtain rfl : q = t := by rw [hq, ht]; simp [okc]
    clear hq ht h1
    go_enter Try.func77, Try.ntmps77
    go_wp2
    go_ret
    exact ⟨rfl, HB.out _⟩
  have e2 : (k == 2) = false := beq_eq_false_iff_ne.2 h2
  by_cases h3 : k = 3
  · subst h3
    obtain ⟨t, ht⟩ : ∃ t, t = decide (n ≤ 256) := ⟨_, rfl⟩
    have d3 : decide ((n : Int) ≤ 256) = t := by rw [ht]; exact decide_eq_decide.2 (by omega)
    obtain rfl : q = t := by rw [hq, ht]; simp [okc]
    clear hq ht h1 h2
    go_enter Try.func77, Try.ntmps77
    go_wp2
    go_ret
    exact ⟨rfl, HB.out _⟩
  have e3 : (k == 3) = false := beq_eq_false_iff_ne.2 h3
  obtain rfl : q = false := by rw [hq]; simp [okc, e1, e2, e3]
  clear hq h1 h2 h3
  go_enter Try.func77, Try.ntmps77
  go_wp2
  go_ret
  exact ⟨rfl, HB.out _⟩

theorem all_take (cs : List Cel) (k : Nat) (hk : k < cs.length) : ((cs.take (k + 1)).all fun c => okc c.k c.d.l) = (((cs.take k).all fun c => okc c.k c.d.l) && okc cs[k].k cs[k].d.l) := by
  rw [List.take_succ_eq_append_getElem hk, List.all_append]; simp

set_option maxHeartbeats 1000000 in
/-- CHECK. -/
theorem check_any (p : Int) (a : Option Addr) (n c : Nat) (cs : List Cel) (w : World) (hl : cs.length = n) (hm : n ≤ maxLen) (h : Cs w a cs) :
    Calls Try.prog 68 #[.agg #[.int .i64 p, .slice a n c]] w fun e w' => e = .returned (.int .i64 (if good p cs then 0 else 1)) ∧ Below w.heap.size w w' := by
  unfold maxLen at hm
  have HL := Lib.hid hl; have HC := Lib.hid h
  obtain ⟨q, hq⟩ : ∃ q : Int, q = if good p cs then 0 else 1 := ⟨_, rfl⟩
  rw [← hq]
  have HB := Lib.hid ((Below.refl w.heap.size w).alloc (Nat.le_refl _) (.cells #[.int .i64 p, .slice a n c] 24))
  have hgood : good p cs = (decide (1 ≤ p) && decide (p ≤ 400) && decide ((n : Int) ≤ p) && cs.all fun c => okc c.k c.d.l) := by unfold good; rw [hl]
  rw [hgood] at hq
  clear hgood hl h
  by_cases h1 : p < 1
  · have d1 : decide (p < 1) = true := decide_eq_true h1
    obtain rfl : q = 1 := by rw [hq, decide_eq_false (by omega : ¬ 1 ≤ p)]; rfl
    clear hq h1
    go_enter Try.func68, Try.ntmps68
    go_wp2
    go_ret
    exact ⟨rfl, HB.out⟩
  have d1 : decide (p < 1) = false := decide_eq_false h1
  by_cases h2 : 400 < p
  · have d2 : decide (400 < p) = true := decide_eq_true h2
    obtain rfl : q = 1 := by rw [hq, decide_eq_false (by omega : ¬ p ≤ 400)]; simp
    clear hq h1 h2
    go_enter Try.func68, Try.ntmps68
    go_wp2
    go_ret
    exact ⟨rfl, HB.out⟩
  have d2 : decide (400 < p) = false := decide_eq_false h2
  by_cases h3 : p < (n : Int)
  · have d3 : decide (p < (n : Int)) = true := decide_eq_true h3
    obtain rfl : q = 1 := by rw [hq, decide_eq_false (by omega : ¬ (n : Int) ≤ p)]; simp
    clear hq h1 h2 h3
    go_enter Try.func68, Try.ntmps68
    go_wp2
    go_ret
    exact ⟨rfl, HB.out⟩
  have d3 : decide (p < (n : Int)) = false := decide_eq_false h3
  have hq2 : q = if cs.all fun c => okc c.k c.d.l then 0 else 1 := by
    rw [hq, decide_eq_true (by omega : 1 ≤ p), decide_eq_true (by omega : p ≤ 400), decide_eq_true (by omega : (n : Int) ≤ p)]; simp
  have HQ := Lib.hid hq2
  clear hq hq2 h1 h2 h3
  go_enter Try.func68, Try.ntmps68
  go_wp2
  go_loopw [24] (fun i wr => ∃ k : Nat, k ≤ n ∧ i = .int .i64 k ∧ ((cs.take k).all fun c => okc c.k c.d.l) = true ∧ Below w.heap.size w wr) (fun i _ => n - (intOf i).toNat)
  case atStart => exact ⟨0, Nat.zero_le _, rfl, rfl, HB.out⟩
  case round =>
    obtain ⟨k, hk, rfl, hall, hB⟩ := hrel
    have HALL := Lib.hid hall; have HBR := Lib.hid hB
    by_cases hlt : k < n
    · have e2 : decide ((k : Int) < (n : Int)) = true := decide_eq_true (by omega)
      have hlt1 : k < cs.length := by rw [HL.out]; exact hlt
      obtain ⟨b, o, rfl, c0, c1, c2, hd⟩ := (HC.out.below hB).at hlt1
      have hat := all_take cs k hlt1
      rw [hall, Bool.true_and] at hat
      have hbad : okc cs[k].k cs[k].d.l = false → q = 1 := fun hf => by
        rw [HQ.out, if_neg]
        intro ht
        have := List.all_eq_true.1 ht _ (List.getElem_mem hlt1)
        rw [hf] at this; cases this
      obtain ⟨x, hx⟩ : ∃ x, x = cs[k] := ⟨_, rfl⟩
      rw [← hx] at c0 c1 c2 hat hbad
      obtain ⟨ok, hok⟩ : ∃ ok, ok = okc x.k x.d.l := ⟨_, rfl⟩
      have hva := fun V => valid_any x V
      rw [← hok] at hat hbad
      simp only [← hok] at hva
      have HV := Lib.hid hva; have HAT := Lib.hid hat; have HBAD := Lib.hid hbad
      have HB1 := Lib.hid (hB.alloc hB.size (.cells #[.int .i64 x.k, .slice x.d.a x.d.l x.d.c, .bool x.b] 62))
      have i1 : (0 : Int) ≤ (k : Int) := by omega
      have i2 : (k : Int) < (n : Int) := by omega
      clear hall hB hd hat hbad hx hok hva
      go_wp2_with (go_at_call 77; fail)
      refine (HV.out _).mono ?_
      rintro e w1 ⟨rfl, hB1⟩
      have HB2 := Lib.hid (HB1.out.trans (hB1.mono HB1.out.size))
      clear hB1
      cases hok : ok with
      | true =>
        subst hok
        go_wp2
        go_roundw
        case rel => exact ⟨k + 1, by omega, by go_num, HAT.out, HB2.out⟩
        case measure => simp [intOf]; omega
      | false =>
        obtain rfl := HBAD.out hok
        subst hok
        go_wp2
        go_ret
        exact ⟨rfl, HB2.out⟩
    · have e2 : decide ((k : Int) < (n : Int)) = false := decide_eq_false (by omega)
      obtain rfl : n = k := by omega
      have hq0 : q = 0 := by
        rw [HQ.out, if_pos]
        rw [List.take_of_length_le (by rw [HL.out]; exact Nat.le_refl _)] at hall
        exact hall
      subst hq0
      clear hall hB
      go_wp2
      go_ret
      exact ⟨rfl, HBR.out⟩

end Go.Proofs.Ytmcbmemgeegodaa
