/-
  Tapes: places, files, what is read.
-/
import Derived.Test.YtmcbmemgeegodaaMed1
namespace Go.Proofs.Ytmcbmemgeegodaa
open Go.RowKit
set_option linter.unusedVariables false

/-- What a cell says, wherever its bytes lie. -/
abbrev Key := Int × List Int × Bool
def Cel.key (c : Cel) : Key := (c.k, c.d.z, c.b)
def keys (cs : List Cel) : List Key := cs.map Cel.key
theorem keys_len (cs : List Cel) : (keys cs).length = cs.length := by simp [keys]
theorem keys_get (cs : List Cel) (k : Nat) (h : k < cs.length) : (keys cs)[k]? = some cs[k].key := by simp [keys, h]
/-- May it be, by what it says. -/
def goodK (p : Int) (ks : List Key) : Bool := decide (1 ≤ p) && decide (p ≤ 400) && decide ((ks.length : Int) ≤ p) && ks.all fun x => okc x.1 x.2.1.length
/-- A tape that lies in memory. -/
structure Tap where
  p : Int
  a : Option Addr
  n : Nat
  c : Nat
  cs : List Cel
def Tap.v (t : Tap) : Value := .agg #[.int .i64 t.p, .slice t.a t.n t.c]
structure Tap.ok (w : World) (t : Tap) : Prop where
  len : t.cs.length = t.n
  room : t.n ≤ t.c
  cm : t.c ≤ maxLen
  cells : Cs w t.a t.cs
  nil : t.a = none → t.c = 0
theorem Tap.ok.below {w w' : World} {t : Tap} (h : t.ok w) (hB : Below w.heap.size w w') : t.ok w' := ⟨h.len, h.room, h.cm, h.cells.below hB, h.nil⟩
def Tap.ks (t : Tap) : List Key := keys t.cs
theorem Cs.lens {w : World} {ao : Option Addr} {cs : List Cel} (h : Cs w ao cs) : ∀ c ∈ cs, c.d.l = c.d.z.length := by
  intro c hc
  obtain ⟨k, hk, rfl⟩ := List.getElem_of_mem hc
  obtain ⟨b, o, _, _, _, _, hd⟩ := h.at hk
  exact hd.len.symm
theorem good_keys {w : World} {ao : Option Addr} {cs : List Cel} (p : Int) (h : Cs w ao cs) : good p cs = goodK p (keys cs) := by
  unfold good goodK
  rw [keys_len]
  congr 1
  unfold keys
  rw [List.all_map]
  have := h.lens
  clear h
  induction cs with
  | nil => rfl
  | cons c cs ih =>
    rw [List.all_cons, List.all_cons, ih fun x hx => this x (List.mem_cons_of_mem _ hx)]
    congr 1
    show okc c.k c.d.l = okc c.k c.d.z.length
    rw [this c (List.mem_cons_self ..)]
/-- How many marks. -/
def marks (ks : List Key) : Nat := (ks.filter fun x => x.1 == 2).length
theorem marks_snoc (ks : List Key) (x : Key) : marks (ks ++ [x]) = marks ks + if x.1 = 2 then 1 else 0 := by
  unfold marks
  rw [List.filter_append, List.length_append]
  by_cases h : x.1 = 2 <;> simp [h]
theorem keys_take (cs : List Cel) (k : Nat) (h : k < cs.length) : keys (cs.take (k + 1)) = keys (cs.take k) ++ [cs[k].key] := by
  unfold keys; rw [List.take_succ_eq_append_getElem h, List.map_append]; rfl
theorem marks_le (ks : List Key) : marks ks ≤ ks.length := List.length_filter_le _ _

theorem check_ok (t : Tap) (w : World) (h : t.ok w) (hg : goodK t.p t.ks = true) : Calls Try.prog 68 #[.agg #[.int .i64 t.p, .slice t.a t.n t.c]] w fun e w' => e = .returned (.int .i64 0) ∧ Below w.heap.size w w' := by
  have := check_any t.p t.a t.n t.c t.cs w h.len (Nat.le_trans h.room h.cm) h.cells
  rw [good_keys t.p h.cells, show goodK t.p (keys t.cs) = true from hg] at this
  exact this

/-- POSITION, of a right tape. -/
theorem pos_any (t : Tap) (q : Int) (w : World) (h : t.ok w) (hg : goodK t.p t.ks = true) : Calls Try.prog 78 #[.agg #[.int .i64 t.p, .slice t.a t.n t.c], .int .i64 q] w fun e w' => e = .returned (.bool (decide (0 ≤ q ∧ q ≤ t.n))) ∧ Below w.heap.size w w' := by
  have hm := Nat.le_trans h.room h.cm
  unfold maxLen at hm
  obtain ⟨r, hr⟩ : ∃ r, r = decide (0 ≤ q ∧ q ≤ t.n) := ⟨_, rfl⟩
  rw [← hr]
  have HC := Lib.hid (check_ok t _ (h.below ((Below.refl w.heap.size w).alloc (Nat.le_refl _) (.cells #[.int .i64 t.p, .slice t.a t.n t.c] 24))) hg)
  have HB0 := Lib.hid ((Below.refl w.heap.size w).alloc (Nat.le_refl _) (.cells #[.int .i64 t.p, .slice t.a t.n t.c] 24))
  obtain ⟨p, a, n, c, cs⟩ := t
  simp only at hm hr HC HB0 ⊢
  clear h hg
  have HX : Hid (∀ V, Below (w.heap.size + 1) (w.alloc (.cells #[.int .i64 p, .slice a n c] 24)) V → V.cell? ⟨w.heap.size, 1, none⟩ = some (.slice a n c)) := fun V hV => by
    rw [hV.cell (p := ⟨w.heap.size, 1, none⟩) (by simp), World.cell?_alloc_mark]; rfl
  by_cases h0 : 0 ≤ q
  · have d0 : decide (0 ≤ q) = true := decide_eq_true h0
    have d1 : decide (q ≤ (n : Int)) = r := by rw [hr]; exact decide_eq_decide.2 (by omega)
    clear hr h0
    go_enter Try.func78, Try.ntmps78
    go_wp2_with (go_at_call 68; refine HC.out.mono ?_; rintro e w1 ⟨rfl, hB1⟩; have hx := HX.out _ (by simpa using hB1); have HB1 := Lib.hid (HB0.out.trans (hB1.mono HB0.out.size)); clear hB1)
    go_ret
    exact ⟨rfl, HB1.out⟩
  · have d0 : decide (0 ≤ q) = false := decide_eq_false h0
    obtain rfl : r = false := by rw [hr]; exact decide_eq_false fun h => h0 h.1
    clear hr h0
    go_enter Try.func78, Try.ntmps78
    go_wp2_with (go_at_call 68; refine HC.out.mono ?_; rintro e w1 ⟨rfl, hB1⟩; have HB1 := Lib.hid (HB0.out.trans (hB1.mono HB0.out.size)); clear hB1)
    go_ret
    exact ⟨rfl, HB1.out⟩

/-- CELL. -/
theorem cell_any (p : Int) (a : Option Addr) (n c : Nat) (q : Int) (w : World) (hm : n ≤ maxLen) : Calls Try.prog 69 #[.agg #[.int .i64 p, .slice a n c], .int .i64 q] w fun e w' => e = .returned (.bool (decide (0 ≤ q ∧ q < n))) ∧ Below w.heap.size w w' := by
  unfold maxLen at hm
  obtain ⟨r, hr⟩ : ∃ r, r = decide (0 ≤ q ∧ q < n) := ⟨_, rfl⟩
  rw [← hr]
  have HB0 := Lib.hid ((Below.refl w.heap.size w).alloc (Nat.le_refl _) (.cells #[.int .i64 p, .slice a n c] 24))
  by_cases h0 : 0 ≤ q
  · have d0 : decide (0 ≤ q) = true := decide_eq_true h0
    have d1 : decide (q < (n : Int)) = r := by rw [hr]; exact decide_eq_decide.2 (by omega)
    clear hr h0
    go_enter Try.func69, Try.ntmps69
    go_wp2
    go_ret
    exact ⟨rfl, HB0.out⟩
  · have d0 : decide (0 ≤ q) = false := decide_eq_false h0
    obtain rfl : r = false := by rw [hr]; exact decide_eq_false fun h => h0 h.1
    clear hr h0
    go_enter Try.func69, Try.ntmps69
    go_wp2
    go_ret
    exact ⟨rfl, HB0.out⟩

/-- What a write at q of m bytes is told. -/
def ce (p : Int) (n : Nat) (q : Int) (m : Nat) : Int := if ¬ (0 ≤ q ∧ q ≤ n) then 1 else if m < 1 ∨ 256 < m then 2 else if q = p then 7 else 0

/-- CHECKWRITE, of a right tape. -/
theorem cw_any (t : Tap) (q : Int) (bo : Option Addr) (m mc : Nat) (w : World) (h : t.ok w) (hg : goodK t.p t.ks = true) (hmm : m ≤ maxLen) : Calls Try.prog 71 #[.agg #[.int .i64 t.p, .slice t.a t.n t.c], .int .i64 q, .slice bo m mc] w fun e w' => e = .returned (.int .i64 (ce t.p t.n q m)) ∧ Below w.heap.size w w' := by
  unfold maxLen at hmm
  obtain ⟨r, hr⟩ : ∃ r, r = ce t.p t.n q m := ⟨_, rfl⟩
  rw [← hr]
  have hpo := pos_any t q _ (h.below ((Below.refl w.heap.size w).alloc (Nat.le_refl _) (.cells #[.int .i64 t.p, .slice t.a t.n t.c] 24))) hg
  have HB0 := Lib.hid ((Below.refl w.heap.size w).alloc (Nat.le_refl _) (.cells #[.int .i64 t.p, .slice t.a t.n t.c] 24))
  obtain ⟨p, a, n, c, cs⟩ := t
  simp only at hr hpo HB0 ⊢
  clear h hg
  unfold ce at hr
  have HX : Hid (∀ V, Below (w.heap.size + 1) (w.alloc (.cells #[.int .i64 p, .slice a n c] 24)) V → V.cell? ⟨w.heap.size, 0, none⟩ = some (.int .i64 p)) := fun V hV => by
    rw [hV.cell (p := ⟨w.heap.size, 0, none⟩) (by simp), World.cell?_alloc_mark]; rfl
  by_cases h0 : 0 ≤ q ∧ q ≤ (n : Int)
  · rw [decide_eq_true h0] at hpo
    rw [if_neg (by omega)] at hr
    have HP := Lib.hid hpo
    clear hpo h0
    by_cases h1 : m < 1
    · have d1 : decide ((m : Int) < 1) = true := decide_eq_true (by omega)
      have d1' : decide (m < 1) = true := decide_eq_true h1
      rw [if_pos (.inl h1)] at hr
      subst hr
      clear h1
      go_enter Try.func71, Try.ntmps71
      go_wp2_with (go_at_call 78; refine HP.out.mono ?_; rintro e w1 ⟨rfl, hB1⟩; have HB1 := Lib.hid (HB0.out.trans (hB1.mono HB0.out.size)); clear hB1)
      go_ret
      exact ⟨rfl, HB1.out⟩
    have d1 : decide ((m : Int) < 1) = false := decide_eq_false (by omega)
    have d1' : decide (m < 1) = false := decide_eq_false h1
    by_cases h2 : 256 < m
    · have d2 : decide ((256 : Int) < (m : Int)) = true := decide_eq_true (by omega)
      have d2' : decide (256 < m) = true := decide_eq_true h2
      rw [if_pos (.inr h2)] at hr
      subst hr
      clear h1 h2
      go_enter Try.func71, Try.ntmps71
      go_wp2_with (go_at_call 78; refine HP.out.mono ?_; rintro e w1 ⟨rfl, hB1⟩; have HB1 := Lib.hid (HB0.out.trans (hB1.mono HB0.out.size)); clear hB1)
      go_ret
      exact ⟨rfl, HB1.out⟩
    have d2 : decide ((256 : Int) < (m : Int)) = false := decide_eq_false (by omega)
    have d2' : decide (256 < m) = false := decide_eq_false h2
    rw [if_neg (by omega)] at hr
    obtain ⟨s, hs⟩ : ∃ s, s = (q == p) := ⟨_, rfl⟩
    have d3 := hs.symm
    have HS := Lib.hid hs; have HR := Lib.hid hr
    clear hs hr h1 h2
    cases s with
    | true =>
      go_enter Try.func71, Try.ntmps71
      go_wp2_with (go_at_call 78; refine HP.out.mono ?_; rintro e w1 ⟨rfl, hB1⟩; have hx := HX.out _ (by simpa using hB1); have HB1 := Lib.hid (HB0.out.trans (hB1.mono HB0.out.size)); clear hB1)
      go_ret
      exact ⟨by rw [HR.out, if_pos (beq_iff_eq.1 HS.out.symm)]; rfl, HB1.out⟩
    | false =>
      go_enter Try.func71, Try.ntmps71
      go_wp2_with (go_at_call 78; refine HP.out.mono ?_; rintro e w1 ⟨rfl, hB1⟩; have hx := HX.out _ (by simpa using hB1); have HB1 := Lib.hid (HB0.out.trans (hB1.mono HB0.out.size)); clear hB1)
      go_ret
      exact ⟨by rw [HR.out, if_neg (beq_eq_false_iff_ne.1 HS.out.symm)]; rfl, HB1.out⟩
  · rw [decide_eq_false h0] at hpo
    rw [if_pos h0] at hr
    subst hr
    have HP := Lib.hid hpo
    clear hpo h0
    go_enter Try.func71, Try.ntmps71
    go_wp2_with (go_at_call 78; refine HP.out.mono ?_; rintro e w1 ⟨rfl, hB1⟩; have HB1 := Lib.hid (HB0.out.trans (hB1.mono HB0.out.size)); clear hB1)
    go_ret
    exact ⟨rfl, HB1.out⟩

end Go.Proofs.Ytmcbmemgeegodaa
