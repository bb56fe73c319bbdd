/-
  Rows of a list of items: Batch, the program's and the document's.
-/
import Derived.Test.YtliponaabgcceaaItems
namespace Go.Proofs.Ytliponaabgcceaa
open Go.RowKit
set_option linter.unusedVariables false

theorem fi22 : FI Try.prog 22 51 37 := FI.of (z := .agg zeroIt) Try.underlying22 (b := 72) (by kernel_rfl) (by rfl) (by decide) (by decide)
theorem fi23 : FI Try.prog 23 22 1 := FI.of (z := .slice none 0 0) Try.underlying23 (b := 24) (by kernel_rfl) (by rfl) (by decide) (by decide)
theorem run_min (ats : Array TypeId) (t : TypeId) (x y : Int) (W : World) : (Builtin.min_ ats t #[.int .i64 x, .int .i64 y]).run Try.prog W = .ok (.int .i64 (min x y)) W := by
  by_cases h : y < x
  · rw [Int.min_eq_right (by omega)]
    simp [Builtin.min_, Builtin.min2, h, go_sem]
  · rw [Int.min_eq_left (by omega)]
    simp [Builtin.min_, Builtin.min2, h, go_sem]
abbrev Row := List (List Value)
def lenOf : Value → Nat
  | .slice _ n _ => n
  | _ => 0
/-- The clone of a list of items. -/
theorem clone_it (ao : Option Addr) (n c : Nat) (rs : Row) (w : World) (hl : rs.length = n) (hn : n ≤ 1000000) (hr : FR w ao 37 rs) (hf : Flat 37 rs) (ha : ao = none → c = 0 ∧ n = 0) :
    Calls Try.prog 27 #[.slice ao n c] w fun e w' => ∃ ko kc, e = .returned (.slice ko n kc) ∧ FO w' 51 37 w.heap.size ko n kc rs ∧ Below w.heap.size w w' := by
  have q : ∀ (w : World) (a : Option Addr) (n c n' c' : Nat), (binOp .eql 22 (.slice a n c) (.slice none n' c')).run Try.prog w = .ok (.bool a.isNone) w := fun w a n c n' c' => Lib.run_eql_slice_nil w _ _ a n c n' c' Try.underlying22
  cases ao with
  | none =>
    obtain ⟨rfl, rfl⟩ := ha rfl
    have : rs = [] := List.eq_nil_of_length_eq_zero hl
    subst this
    go_enter Try.func27, Try.ntmps27
    go_wp2
    go_ret
    exact ⟨none, 0, rfl, FO.nil_ _ _ _ _, Below.refl _ _⟩
  | some ad =>
    have HL := Lib.hid hl; have HR := Lib.hid hr; have HF := Lib.hid hf
    have hb0 : Below w.heap.size w (w.alloc (.cells #[] 51)) := (Below.refl _ _).alloc (Nat.le_refl _) _
    have hfo : FO (w.alloc (.cells #[] 51)) 51 37 w.heap.size (some ⟨w.heap.size, 0, none⟩) 0 0 [] := ⟨rfl, Nat.le_refl _, Nat.zero_le _, Flat.nil 37, by
      have := World.ownsRow_made w #[] 0 (base := w.heap.size) (e := 51) (size := 37) (Nat.le_refl _) (Nat.zero_le _) (by simp)
      simpa using this⟩
    have HB0 := Lib.hid hb0; have HFO := Lib.hid hfo
    clear hl hr hf ha hb0 hfo
    go_enter Try.func27, Try.ntmps27
    go_wp2_with (at_builtin; (refine append_fl 22 51 37 fi22 rfl _ _ rfl w.heap.size 0 0 n c (some ⟨w.heap.size, 0, none⟩) (some ad) [] rs rfl HFO.out rfl (HR.out.below HB0.out) HF.out HL.out (fun h => by cases h) (by omega) HB0.out.size ?_; intro ko' kc' w2 hO hgr hB2; have HO := Lib.hid hO; have HB2 := Lib.hid (HB0.out.trans hB2); clear hO hgr hB2))
    go_ret
    have hO := HO.out
    simp only [Nat.zero_add, List.nil_append] at hO ⊢
    exact ⟨ko', kc', rfl, hO, HB2.out⟩

/-- A list of rows, each a row of one's own. -/
def GR (w : World) (base : Nat) (ko : Option Addr) (n kc : Nat) (ls : List Row) : Prop :=
  ∃ gs : List (Option Addr × Nat × Nat), gs.length = ls.length ∧ FO w 22 1 base ko n kc (gs.map fun g => [Value.slice g.1 g.2.1 g.2.2]) ∧ ∀ i, (h : i < gs.length) → (h' : i < ls.length) → FO w 51 37 base gs[i].1 gs[i].2.1 gs[i].2.2 ls[i]
theorem GR.nil_ (w : World) (base : Nat) : GR w base none 0 0 [] := ⟨[], rfl, FO.nil_ _ _ _ _, fun i h => absurd h (Nat.not_lt_zero _)⟩
theorem GR.below {w w' : World} {base : Nat} {ko : Option Addr} {n kc : Nat} {ls : List Row} (h : GR w base ko n kc ls) (hB : Below w.heap.size w w') : GR w' base ko n kc ls := by
  obtain ⟨gs, h1, h2, h3⟩ := h
  exact ⟨gs, h1, h2.below hB, fun i a b => (h3 i a b).below hB⟩
theorem GR.len {w : World} {base : Nat} {ko : Option Addr} {n kc : Nat} {ls : List Row} (h : GR w base ko n kc ls) : ls.length = n := by
  obtain ⟨gs, h1, h2, h3⟩ := h
  rw [← h1, ← h2.len, List.length_map]
/-- One row more is laid behind them. -/
theorem append_gr {w : World} {ops : Array Oper} {rest : List Oper} {o : Oper} {a : Act} {Q : Exit → Act → World → Prop} (hgd : o.guard = none) (s x : Operand)
    (ho : o.op = .call { callee := .builtin .append, args := #[s, x], argTypes := #[23, 23] })
    (base n kc g : Nat) (ko : Option Addr) (ls : List Row) (r : Row) (ao : Option Addr) (m c : Nat) (hs : a.eval s = .slice ko n kc) (hown : GR w base ko n kc ls) (hx : a.eval x = .slice (some ⟨g, 0, none⟩) 1 1)
    (hg : w.heap[g]? = some (.cells #[.slice ao m c] 22 (0, 0))) (hr : FO w 51 37 base ao m c r)
    (hm : n ≤ 900000000) (hb : base ≤ w.heap.size)
    (h : ∀ ko' kc' w', GR w' base ko' (n + 1) kc' (ls ++ [r]) → Below base w w' → wpList Try.prog ops Q rest (a.put o.dst (.slice ko' (n + 1) kc')) w') : wpList Try.prog ops Q (o :: rest) a w := by
  obtain ⟨gs, h1, h2, h3⟩ := hown
  refine append_fl1 23 22 1 fi23 hgd s x ho base n kc g 22 ko _ [Value.slice ao m c] hs h2 hx hg rfl (fun v hv => by rw [List.mem_singleton] at hv; subst hv; rfl) hm hb ?_
  intro ko' kc' w' hO hgr hB
  refine h ko' kc' w' ⟨gs ++ [(ao, m, c)], by simp [h1], by simpa using hO, fun i hi hi' => ?_⟩ hB
  have keep : ∀ {ao' : Option Addr} {m' c' : Nat} {r' : Row}, FO w 51 37 base ao' m' c' r' → FO w' 51 37 base ao' m' c' r' := fun h => ⟨h.len, h.room, h.cm, h.flat, fo_grown (by decide) h.row h2.row hgr⟩
  by_cases hin : i < gs.length
  · have hl : i < ls.length := by omega
    simp only [List.getElem_append_left hin, List.getElem_append_left hl]
    exact keep (h3 i hin hl)
  · have e : i = gs.length := by simp at hi; omega
    subst e
    simp only [List.getElem_append_right (Nat.le_refl _), Nat.sub_self, List.getElem_cons_zero]
    rw [List.getElem_append_right (by omega)]
    simp only [h1, Nat.sub_self, List.getElem_cons_zero]
    exact keep hr

/-- Row i of l, of at most m each. -/
def row (m : Nat) (l : Row) (i : Nat) : Row := (l.drop (i * m)).take m
def rowsOf (m : Nat) (l : Row) (N : Nat) : List Row := (List.range N).map (row m l)
theorem rowsOf_succ (m : Nat) (l : Row) (N : Nat) : rowsOf m l (N + 1) = rowsOf m l N ++ [row m l N] := by unfold rowsOf; rw [List.range_succ, List.map_append]; rfl
def mostOf (p : Int) : Nat := if p < 1 ∨ 64 < p then 64 else p.toNat
/-- As many rows as are needed. -/
def Need (m len N : Nat) : Prop := len ≤ N * m ∧ (N = 0 ∨ (N - 1) * m < len)
theorem Need.eq {m len N N' : Nat} (h : Need m len N) (h' : Need m len N') : N = N' := by
  have aux : ∀ {A B : Nat}, Need m len A → Need m len B → ¬ A < B := by
    intro A B hA hB hlt
    rcases hB.2 with h0 | h1
    · omega
    · have := Nat.mul_le_mul_right m (show A ≤ B - 1 by omega)
      have := hA.1
      omega
  have := aux h h'
  have := aux h' h
  omega
/-- What Batch leaves. -/
def BPost (w : World) (m : Nat) (l : Row) (e : Ending) (w' : World) : Prop :=
  ∃ ko N kc, e = .returned (.slice ko N kc) ∧ GR w' w.heap.size ko N kc (rowsOf m l N) ∧ Need m l.length N ∧ Below w.heap.size w w'

theorem most_facts (p : Int) : 1 ≤ mostOf p ∧ mostOf p ≤ 64 := by unfold mostOf; split <;> omega

set_option maxHeartbeats 4000000 in
theorem batch_any (ao : Option Addr) (n c : Nat) (p : Int) (l : Row) (w : World) (hl : l.length = n) (hn : n ≤ 1000000) (hnc : n ≤ c) (hcm : c ≤ maxLen) (hr : FR w ao 37 l) (hf : Flat 37 l) (ha : ao = none → c = 0) :
    Calls Try.prog 9 #[.slice ao n c, .int .i64 p] w (BPost w (mostOf p) l) := by
  unfold maxLen at hcm
  have HL := Lib.hid hl; have HR := Lib.hid hr; have HF := Lib.hid hf; have HA := Lib.hid ha
  obtain ⟨m, hm⟩ : ∃ m, m = mostOf p := ⟨_, rfl⟩
  obtain ⟨m1, m64⟩ := most_facts p
  rw [← hm] at m1 m64 ⊢
  have hcl := fun (V : World) (a : Option Addr) (k c' : Nat) (rs : Row) => clone_it a k c' rs V
  have HCL := Lib.hid hcl
  have HM := Lib.hid hm
  have hp : (p < 1 ∧ m = 64) ∨ (¬ p < 1 ∧ 64 < p ∧ m = 64) ∨ (¬ p < 1 ∧ ¬ 64 < p ∧ p = m) := by
    rw [hm]; unfold mostOf
    by_cases h1 : p < 1
    · exact .inl ⟨h1, by rw [if_pos (.inl h1)]⟩
    · by_cases h2 : 64 < p
      · exact .inr (.inl ⟨h1, h2, by rw [if_pos (.inr h2)]⟩)
      · exact .inr (.inr ⟨h1, h2, by rw [if_neg (by omega)]; omega⟩)
  clear hl hr hf ha hcl hm
  have hd : (decide (p < 1) = true ∧ m = 64) ∨ (decide (p < 1) = false ∧ decide (64 < p) = true ∧ m = 64) ∨ (decide (p < 1) = false ∧ decide (64 < p) = false ∧ p = m) := by
    rcases hp with ⟨h1, h2⟩ | ⟨h1, h2, h3⟩ | ⟨h1, h2, h3⟩
    · exact .inl ⟨decide_eq_true h1, h2⟩
    · exact .inr (.inl ⟨decide_eq_false h1, decide_eq_true h2, h3⟩)
    · exact .inr (.inr ⟨decide_eq_false h1, decide_eq_false h2, h3⟩)
  clear hp
  go_enter Try.func9, Try.ntmps9
  rcases hd with ⟨d1, hm64⟩ | ⟨d1, d2, hm64⟩ | ⟨d1, d2, hpm⟩
  · go_upto_region 4 with (fail)
    rw [show (64 : Int) = (m : Int) by omega]
    clear d1 hm64
    go_loopw [0, 5] (fun s0 s5 wr => ∃ (i rest c' : Nat) (a' ko : Option Addr) (kc : Nat), s0 = .slice a' rest c' ∧ s5 = .slice ko i kc ∧ rest = n - i * m ∧ rest ≤ c' ∧ c' ≤ 2 ^ 63 - 1 ∧ FR w a' 37 (l.drop (i * m)) ∧ (a' = none → c' = 0) ∧ GR wr w.heap.size ko i kc (rowsOf m l i) ∧ (i = 0 ∨ (i - 1) * m < n) ∧ Below w.heap.size w wr) (fun s0 _ _ => lenOf s0)
    case atStart => exact ⟨0, n, c, ao, none, 0, rfl, rfl, by simp, hnc, hcm, by simpa using HR.out, HA.out, GR.nil_ _ _, .inl rfl, Below.refl _ _⟩
    case round =>
      obtain ⟨i, rest, c', a', ko, kc, rfl, rfl, hrest, hrc, hc', hfr, hna, hgr, hlast, hB⟩ := hrel
      have HFR := Lib.hid hfr; have HNA := Lib.hid hna; have HGR := Lib.hid hgr; have HLAST := Lib.hid hlast; have HB := Lib.hid hB; have HREST := Lib.hid hrest
      clear hfr hna hgr hlast hB
      by_cases h0 : 0 < rest
      · have e2 : decide ((0 : Int) < (rest : Int)) = true := decide_eq_true (by omega)
        have e2' : decide (0 < rest) = true := decide_eq_true h0
        have hld : (l.drop (i * m)).length = rest := by rw [List.length_drop, HL.out, hrest]
        obtain ⟨b, o, rfl, hcc⟩ := HFR.out.at (by rw [hld]; exact h0)
        clear hcc
        obtain ⟨k, hk⟩ : ∃ k, k = min m rest := ⟨_, rfl⟩
        have hkm : k ≤ m := by omega
        have hkr : k ≤ rest := by omega
        have hk1 : 1 ≤ k := by omega
        have hmin : ∀ ats W, (Builtin.min_ ats 3 #[.int .i64 (m : Int), .int .i64 (rest : Int)]).run Try.prog W = .ok (.int .i64 ((k : Nat) : Int)) W := fun ats W => by
          rw [run_min]; congr 2; omega
        have hrow : row m l i = (l.drop (i * m)).take k := by
          unfold row
          by_cases hmr : m ≤ rest
          · rw [show k = m by omega]
          · rw [List.take_of_length_le (by omega), List.take_of_length_le (by omega)]
        have hcl := HCL.out wr (some ⟨b, o, none⟩) k c' ((l.drop (i * m)).take k) (by rw [List.length_take, hld]; omega) (by omega) ((HFR.out.below HB.out).take k) ((HF.out.drop _).take _) (fun h => by cases h)
        have hcl2 := HCL.out wr (some ⟨b, o, none⟩) k k ((l.drop (i * m)).take k) (by rw [List.length_take, hld]; omega) (by omega) ((HFR.out.below HB.out).take k) ((HF.out.drop _).take _) (fun h => by cases h)
        have hdrop : FR w (some ⟨b, o + k * 37, none⟩) 37 (l.drop ((i + 1) * m)) := by
          by_cases hmr : m ≤ rest
          · have := HFR.out.drop k
            rw [List.drop_drop, show i * m + k = (i + 1) * m by rw [Nat.add_mul, Nat.one_mul]; omega] at this
            exact this
          · have e : l.drop ((i + 1) * m) = [] := List.drop_eq_nil_of_le (by rw [HL.out, Nat.add_mul, Nat.one_mul]; omega)
            rw [e]; exact .inl rfl
        have hnil : rest - k = 0 → FR w (some ⟨b, o, none⟩) 37 (l.drop ((i + 1) * m)) := fun h => by
          have e : l.drop ((i + 1) * m) = [] := List.drop_eq_nil_of_le (by rw [HL.out, Nat.add_mul, Nat.one_mul]; omega)
          rw [e]; exact .inl rfl
        have hnext : rest - k = n - (i + 1) * m := by rw [Nat.add_mul, Nat.one_mul]; omega
        have hlast' : (i + 1 = 0 ∨ (i + 1 - 1) * m < n) := .inr (by rw [Nat.add_sub_cancel]; omega)
        have HCL1 := Lib.hid hcl; have HROW := Lib.hid hrow; have HDR := Lib.hid hdrop; have HNIL := Lib.hid hnil; have HNX := Lib.hid hnext; have HLS := Lib.hid hlast'
        have hin : i ≤ n := by
          have h1 := Nat.le_mul_of_pos_right i m1
          omega
        clear hcl hcl2 hrow hdrop hnil hnext hlast' hld hrest
        have i1 : (0 : Int) ≤ (k : Int) := by omega
        have i2 : (k : Int) ≤ (c' : Int) := by omega
        have i3 : (k : Int) ≤ (rest : Int) := by omega
        clear hk
        have hgrow : ∀ (w2 : World), Below wr.heap.size wr w2 → ∀ (k2 : Option Addr) (kc2 : Nat), FO w2 51 37 wr.heap.size k2 k kc2 ((l.drop (i * m)).take k) → FO w2 51 37 w.heap.size k2 k kc2 (row m l i) := fun w2 hb k2 kc2 h => by rw [HROW.out]; exact h.low HB.out.size
        have HGROW := Lib.hid hgrow
        clear hgrow
        by_cases hck : c' = k
        · subst hck
          obtain rfl : rest = c' := by omega
          go_wp2_with (first
            | (go_at_call 27; refine HCL1.out.mono ?_; rintro e w2 ⟨k2, kc2, rfl, hO2, hB2⟩; have HO2 := Lib.hid (HGROW.out w2 hB2 k2 kc2 hO2); have HB2 := Lib.hid hB2; have HG2 := Lib.hid (HGR.out.below hB2); clear hO2 hB2)
            | (at_builtin; (refine append_gr rfl _ _ rfl w.heap.size i kc w2.heap.size ko (rowsOf m l i) (row m l i) k2 rest kc2 rfl (HG2.out.below ((Below.refl _ _).alloc (Nat.le_refl _) (.cells #[.slice k2 rest kc2] 22))) rfl (heap_alloc_new _ _) (HO2.out.below ((Below.refl _ _).alloc (Nat.le_refl _) (.cells #[.slice k2 rest kc2] 22))) (by omega) (by have := HB.out.size; have := HB2.out.size; simp; omega) ?_; intro ko3 kc3 w3 hG3 hB3; have HG3 := Lib.hid hG3; have HB3 : Hid (Below w.heap.size w w3) := (HB.out.trans ((HB2.out.trans ((Below.refl _ _).alloc (Nat.le_refl _) (.cells #[.slice k2 rest kc2] 22) |>.mono HB2.out.size)).mono HB.out.size)).trans hB3; clear hG3 hB3)))
          go_roundw
          case rel => exact ⟨i + 1, 0, _, _, _, _, rfl, rfl, by have := HNX.out; omega, by omega, by omega, HNIL.out (by omega), (fun h => by cases h), (by rw [rowsOf_succ]; exact HG3.out), HLS.out, HB3.out⟩
          case measure => simp [lenOf]; omega
        · go_wp2_with (first
            | (go_at_call 27; refine HCL1.out.mono ?_; rintro e w2 ⟨k2, kc2, rfl, hO2, hB2⟩; have HO2 := Lib.hid (HGROW.out w2 hB2 k2 kc2 hO2); have HB2 := Lib.hid hB2; have HG2 := Lib.hid (HGR.out.below hB2); clear hO2 hB2)
            | (at_builtin; (refine append_gr rfl _ _ rfl w.heap.size i kc w2.heap.size ko (rowsOf m l i) (row m l i) k2 k kc2 rfl (HG2.out.below ((Below.refl _ _).alloc (Nat.le_refl _) (.cells #[.slice k2 k kc2] 22))) rfl (heap_alloc_new _ _) (HO2.out.below ((Below.refl _ _).alloc (Nat.le_refl _) (.cells #[.slice k2 k kc2] 22))) (by omega) (by have := HB.out.size; have := HB2.out.size; simp; omega) ?_; intro ko3 kc3 w3 hG3 hB3; have HG3 := Lib.hid hG3; have HB3 : Hid (Below w.heap.size w w3) := (HB.out.trans ((HB2.out.trans ((Below.refl _ _).alloc (Nat.le_refl _) (.cells #[.slice k2 k kc2] 22) |>.mono HB2.out.size)).mono HB.out.size)).trans hB3; clear hG3 hB3)))
          go_roundw
          case rel => exact ⟨i + 1, rest - k, _, _, _, _, rfl, rfl, HNX.out, by omega, by omega, HDR.out, (fun h => by cases h), (by rw [rowsOf_succ]; exact HG3.out), HLS.out, HB3.out⟩
          case measure => simp [lenOf]; omega
      · have e2 : decide ((0 : Int) < (rest : Int)) = false := decide_eq_false (by omega)
        have e2' : decide (0 < rest) = false := decide_eq_false h0
        go_wp2
        go_ret
        exact ⟨ko, i, kc, rfl, HGR.out, ⟨by rw [HL.out]; have := HREST.out; omega, by rw [HL.out]; exact HLAST.out⟩, HB.out⟩
  · go_upto_region 4 with (fail)
    rw [show (64 : Int) = (m : Int) by omega]
    clear d1 d2 hm64
    go_loopw [0, 5] (fun s0 s5 wr => ∃ (i rest c' : Nat) (a' ko : Option Addr) (kc : Nat), s0 = .slice a' rest c' ∧ s5 = .slice ko i kc ∧ rest = n - i * m ∧ rest ≤ c' ∧ c' ≤ 2 ^ 63 - 1 ∧ FR w a' 37 (l.drop (i * m)) ∧ (a' = none → c' = 0) ∧ GR wr w.heap.size ko i kc (rowsOf m l i) ∧ (i = 0 ∨ (i - 1) * m < n) ∧ Below w.heap.size w wr) (fun s0 _ _ => lenOf s0)
    case atStart => exact ⟨0, n, c, ao, none, 0, rfl, rfl, by simp, hnc, hcm, by simpa using HR.out, HA.out, GR.nil_ _ _, .inl rfl, Below.refl _ _⟩
    case round =>
      obtain ⟨i, rest, c', a', ko, kc, rfl, rfl, hrest, hrc, hc', hfr, hna, hgr, hlast, hB⟩ := hrel
      have HFR := Lib.hid hfr; have HNA := Lib.hid hna; have HGR := Lib.hid hgr; have HLAST := Lib.hid hlast; have HB := Lib.hid hB; have HREST := Lib.hid hrest
      clear hfr hna hgr hlast hB
      by_cases h0 : 0 < rest
      · have e2 : decide ((0 : Int) < (rest : Int)) = true := decide_eq_true (by omega)
        have e2' : decide (0 < rest) = true := decide_eq_true h0
        have hld : (l.drop (i * m)).length = rest := by rw [List.length_drop, HL.out, hrest]
        obtain ⟨b, o, rfl, hcc⟩ := HFR.out.at (by rw [hld]; exact h0)
        clear hcc
        obtain ⟨k, hk⟩ : ∃ k, k = min m rest := ⟨_, rfl⟩
        have hkm : k ≤ m := by omega
        have hkr : k ≤ rest := by omega
        have hk1 : 1 ≤ k := by omega
        have hmin : ∀ ats W, (Builtin.min_ ats 3 #[.int .i64 (m : Int), .int .i64 (rest : Int)]).run Try.prog W = .ok (.int .i64 ((k : Nat) : Int)) W := fun ats W => by
          rw [run_min]; congr 2; omega
        have hrow : row m l i = (l.drop (i * m)).take k := by
          unfold row
          by_cases hmr : m ≤ rest
          · rw [show k = m by omega]
          · rw [List.take_of_length_le (by omega), List.take_of_length_le (by omega)]
        have hcl := HCL.out wr (some ⟨b, o, none⟩) k c' ((l.drop (i * m)).take k) (by rw [List.length_take, hld]; omega) (by omega) ((HFR.out.below HB.out).take k) ((HF.out.drop _).take _) (fun h => by cases h)
        have hcl2 := HCL.out wr (some ⟨b, o, none⟩) k k ((l.drop (i * m)).take k) (by rw [List.length_take, hld]; omega) (by omega) ((HFR.out.below HB.out).take k) ((HF.out.drop _).take _) (fun h => by cases h)
        have hdrop : FR w (some ⟨b, o + k * 37, none⟩) 37 (l.drop ((i + 1) * m)) := by
          by_cases hmr : m ≤ rest
          · have := HFR.out.drop k
            rw [List.drop_drop, show i * m + k = (i + 1) * m by rw [Nat.add_mul, Nat.one_mul]; omega] at this
            exact this
          · have e : l.drop ((i + 1) * m) = [] := List.drop_eq_nil_of_le (by rw [HL.out, Nat.add_mul, Nat.one_mul]; omega)
            rw [e]; exact .inl rfl
        have hnil : rest - k = 0 → FR w (some ⟨b, o, none⟩) 37 (l.drop ((i + 1) * m)) := fun h => by
          have e : l.drop ((i + 1) * m) = [] := List.drop_eq_nil_of_le (by rw [HL.out, Nat.add_mul, Nat.one_mul]; omega)
          rw [e]; exact .inl rfl
        have hnext : rest - k = n - (i + 1) * m := by rw [Nat.add_mul, Nat.one_mul]; omega
        have hlast' : (i + 1 = 0 ∨ (i + 1 - 1) * m < n) := .inr (by rw [Nat.add_sub_cancel]; omega)
        have HCL1 := Lib.hid hcl; have HROW := Lib.hid hrow; have HDR := Lib.hid hdrop; have HNIL := Lib.hid hnil; have HNX := Lib.hid hnext; have HLS := Lib.hid hlast'
        have hin : i ≤ n := by
          have h1 := Nat.le_mul_of_pos_right i m1
          omega
        clear hcl hcl2 hrow hdrop hnil hnext hlast' hld hrest
        have i1 : (0 : Int) ≤ (k : Int) := by omega
        have i2 : (k : Int) ≤ (c' : Int) := by omega
        have i3 : (k : Int) ≤ (rest : Int) := by omega
        clear hk
        have hgrow : ∀ (w2 : World), Below wr.heap.size wr w2 → ∀ (k2 : Option Addr) (kc2 : Nat), FO w2 51 37 wr.heap.size k2 k kc2 ((l.drop (i * m)).take k) → FO w2 51 37 w.heap.size k2 k kc2 (row m l i) := fun w2 hb k2 kc2 h => by rw [HROW.out]; exact h.low HB.out.size
        have HGROW := Lib.hid hgrow
        clear hgrow
        by_cases hck : c' = k
        · subst hck
          obtain rfl : rest = c' := by omega
          go_wp2_with (first
            | (go_at_call 27; refine HCL1.out.mono ?_; rintro e w2 ⟨k2, kc2, rfl, hO2, hB2⟩; have HO2 := Lib.hid (HGROW.out w2 hB2 k2 kc2 hO2); have HB2 := Lib.hid hB2; have HG2 := Lib.hid (HGR.out.below hB2); clear hO2 hB2)
            | (at_builtin; (refine append_gr rfl _ _ rfl w.heap.size i kc w2.heap.size ko (rowsOf m l i) (row m l i) k2 rest kc2 rfl (HG2.out.below ((Below.refl _ _).alloc (Nat.le_refl _) (.cells #[.slice k2 rest kc2] 22))) rfl (heap_alloc_new _ _) (HO2.out.below ((Below.refl _ _).alloc (Nat.le_refl _) (.cells #[.slice k2 rest kc2] 22))) (by omega) (by have := HB.out.size; have := HB2.out.size; simp; omega) ?_; intro ko3 kc3 w3 hG3 hB3; have HG3 := Lib.hid hG3; have HB3 : Hid (Below w.heap.size w w3) := (HB.out.trans ((HB2.out.trans ((Below.refl _ _).alloc (Nat.le_refl _) (.cells #[.slice k2 rest kc2] 22) |>.mono HB2.out.size)).mono HB.out.size)).trans hB3; clear hG3 hB3)))
          go_roundw
          case rel => exact ⟨i + 1, 0, _, _, _, _, rfl, rfl, by have := HNX.out; omega, by omega, by omega, HNIL.out (by omega), (fun h => by cases h), (by rw [rowsOf_succ]; exact HG3.out), HLS.out, HB3.out⟩
          case measure => simp [lenOf]; omega
        · go_wp2_with (first
            | (go_at_call 27; refine HCL1.out.mono ?_; rintro e w2 ⟨k2, kc2, rfl, hO2, hB2⟩; have HO2 := Lib.hid (HGROW.out w2 hB2 k2 kc2 hO2); have HB2 := Lib.hid hB2; have HG2 := Lib.hid (HGR.out.below hB2); clear hO2 hB2)
            | (at_builtin; (refine append_gr rfl _ _ rfl w.heap.size i kc w2.heap.size ko (rowsOf m l i) (row m l i) k2 k kc2 rfl (HG2.out.below ((Below.refl _ _).alloc (Nat.le_refl _) (.cells #[.slice k2 k kc2] 22))) rfl (heap_alloc_new _ _) (HO2.out.below ((Below.refl _ _).alloc (Nat.le_refl _) (.cells #[.slice k2 k kc2] 22))) (by omega) (by have := HB.out.size; have := HB2.out.size; simp; omega) ?_; intro ko3 kc3 w3 hG3 hB3; have HG3 := Lib.hid hG3; have HB3 : Hid (Below w.heap.size w w3) := (HB.out.trans ((HB2.out.trans ((Below.refl _ _).alloc (Nat.le_refl _) (.cells #[.slice k2 k kc2] 22) |>.mono HB2.out.size)).mono HB.out.size)).trans hB3; clear hG3 hB3)))
          go_roundw
          case rel => exact ⟨i + 1, rest - k, _, _, _, _, rfl, rfl, HNX.out, by omega, by omega, HDR.out, (fun h => by cases h), (by rw [rowsOf_succ]; exact HG3.out), HLS.out, HB3.out⟩
          case measure => simp [lenOf]; omega
      · have e2 : decide ((0 : Int) < (rest : Int)) = false := decide_eq_false (by omega)
        have e2' : decide (0 < rest) = false := decide_eq_false h0
        go_wp2
        go_ret
        exact ⟨ko, i, kc, rfl, HGR.out, ⟨by rw [HL.out]; have := HREST.out; omega, by rw [HL.out]; exact HLAST.out⟩, HB.out⟩
  · subst hpm
    go_upto_region 4 with (fail)
    clear d1 d2
    go_loopw [0, 5] (fun s0 s5 wr => ∃ (i rest c' : Nat) (a' ko : Option Addr) (kc : Nat), s0 = .slice a' rest c' ∧ s5 = .slice ko i kc ∧ rest = n - i * m ∧ rest ≤ c' ∧ c' ≤ 2 ^ 63 - 1 ∧ FR w a' 37 (l.drop (i * m)) ∧ (a' = none → c' = 0) ∧ GR wr w.heap.size ko i kc (rowsOf m l i) ∧ (i = 0 ∨ (i - 1) * m < n) ∧ Below w.heap.size w wr) (fun s0 _ _ => lenOf s0)
    case atStart => exact ⟨0, n, c, ao, none, 0, rfl, rfl, by simp, hnc, hcm, by simpa using HR.out, HA.out, GR.nil_ _ _, .inl rfl, Below.refl _ _⟩
    case round =>
      obtain ⟨i, rest, c', a', ko, kc, rfl, rfl, hrest, hrc, hc', hfr, hna, hgr, hlast, hB⟩ := hrel
      have HFR := Lib.hid hfr; have HNA := Lib.hid hna; have HGR := Lib.hid hgr; have HLAST := Lib.hid hlast; have HB := Lib.hid hB; have HREST := Lib.hid hrest
      clear hfr hna hgr hlast hB
      by_cases h0 : 0 < rest
      · have e2 : decide ((0 : Int) < (rest : Int)) = true := decide_eq_true (by omega)
        have e2' : decide (0 < rest) = true := decide_eq_true h0
        have hld : (l.drop (i * m)).length = rest := by rw [List.length_drop, HL.out, hrest]
        obtain ⟨b, o, rfl, hcc⟩ := HFR.out.at (by rw [hld]; exact h0)
        clear hcc
        obtain ⟨k, hk⟩ : ∃ k, k = min m rest := ⟨_, rfl⟩
        have hkm : k ≤ m := by omega
        have hkr : k ≤ rest := by omega
        have hk1 : 1 ≤ k := by omega
        have hmin : ∀ ats W, (Builtin.min_ ats 3 #[.int .i64 (m : Int), .int .i64 (rest : Int)]).run Try.prog W = .ok (.int .i64 ((k : Nat) : Int)) W := fun ats W => by
          rw [run_min]; congr 2; omega
        have hrow : row m l i = (l.drop (i * m)).take k := by
          unfold row
          by_cases hmr : m ≤ rest
          · rw [show k = m by omega]
          · rw [List.take_of_length_le (by omega), List.take_of_length_le (by omega)]
        have hcl := HCL.out wr (some ⟨b, o, none⟩) k c' ((l.drop (i * m)).take k) (by rw [List.length_take, hld]; omega) (by omega) ((HFR.out.below HB.out).take k) ((HF.out.drop _).take _) (fun h => by cases h)
        have hcl2 := HCL.out wr (some ⟨b, o, none⟩) k k ((l.drop (i * m)).take k) (by rw [List.length_take, hld]; omega) (by omega) ((HFR.out.below HB.out).take k) ((HF.out.drop _).take _) (fun h => by cases h)
        have hdrop : FR w (some ⟨b, o + k * 37, none⟩) 37 (l.drop ((i + 1) * m)) := by
          by_cases hmr : m ≤ rest
          · have := HFR.out.drop k
            rw [List.drop_drop, show i * m + k = (i + 1) * m by rw [Nat.add_mul, Nat.one_mul]; omega] at this
            exact this
          · have e : l.drop ((i + 1) * m) = [] := List.drop_eq_nil_of_le (by rw [HL.out, Nat.add_mul, Nat.one_mul]; omega)
            rw [e]; exact .inl rfl
        have hnil : rest - k = 0 → FR w (some ⟨b, o, none⟩) 37 (l.drop ((i + 1) * m)) := fun h => by
          have e : l.drop ((i + 1) * m) = [] := List.drop_eq_nil_of_le (by rw [HL.out, Nat.add_mul, Nat.one_mul]; omega)
          rw [e]; exact .inl rfl
        have hnext : rest - k = n - (i + 1) * m := by rw [Nat.add_mul, Nat.one_mul]; omega
        have hlast' : (i + 1 = 0 ∨ (i + 1 - 1) * m < n) := .inr (by rw [Nat.add_sub_cancel]; omega)
        have HCL1 := Lib.hid hcl; have HROW := Lib.hid hrow; have HDR := Lib.hid hdrop; have HNIL := Lib.hid hnil; have HNX := Lib.hid hnext; have HLS := Lib.hid hlast'
        have hin : i ≤ n := by
          have h1 := Nat.le_mul_of_pos_right i m1
          omega
        clear hcl hcl2 hrow hdrop hnil hnext hlast' hld hrest
        have i1 : (0 : Int) ≤ (k : Int) := by omega
        have i2 : (k : Int) ≤ (c' : Int) := by omega
        have i3 : (k : Int) ≤ (rest : Int) := by omega
        clear hk
        have hgrow : ∀ (w2 : World), Below wr.heap.size wr w2 → ∀ (k2 : Option Addr) (kc2 : Nat), FO w2 51 37 wr.heap.size k2 k kc2 ((l.drop (i * m)).take k) → FO w2 51 37 w.heap.size k2 k kc2 (row m l i) := fun w2 hb k2 kc2 h => by rw [HROW.out]; exact h.low HB.out.size
        have HGROW := Lib.hid hgrow
        clear hgrow
        by_cases hck : c' = k
        · subst hck
          obtain rfl : rest = c' := by omega
          go_wp2_with (first
            | (go_at_call 27; refine HCL1.out.mono ?_; rintro e w2 ⟨k2, kc2, rfl, hO2, hB2⟩; have HO2 := Lib.hid (HGROW.out w2 hB2 k2 kc2 hO2); have HB2 := Lib.hid hB2; have HG2 := Lib.hid (HGR.out.below hB2); clear hO2 hB2)
            | (at_builtin; (refine append_gr rfl _ _ rfl w.heap.size i kc w2.heap.size ko (rowsOf m l i) (row m l i) k2 rest kc2 rfl (HG2.out.below ((Below.refl _ _).alloc (Nat.le_refl _) (.cells #[.slice k2 rest kc2] 22))) rfl (heap_alloc_new _ _) (HO2.out.below ((Below.refl _ _).alloc (Nat.le_refl _) (.cells #[.slice k2 rest kc2] 22))) (by omega) (by have := HB.out.size; have := HB2.out.size; simp; omega) ?_; intro ko3 kc3 w3 hG3 hB3; have HG3 := Lib.hid hG3; have HB3 : Hid (Below w.heap.size w w3) := (HB.out.trans ((HB2.out.trans ((Below.refl _ _).alloc (Nat.le_refl _) (.cells #[.slice k2 rest kc2] 22) |>.mono HB2.out.size)).mono HB.out.size)).trans hB3; clear hG3 hB3)))
          go_roundw
          case rel => exact ⟨i + 1, 0, _, _, _, _, rfl, rfl, by have := HNX.out; omega, by omega, by omega, HNIL.out (by omega), (fun h => by cases h), (by rw [rowsOf_succ]; exact HG3.out), HLS.out, HB3.out⟩
          case measure => simp [lenOf]; omega
        · go_wp2_with (first
            | (go_at_call 27; refine HCL1.out.mono ?_; rintro e w2 ⟨k2, kc2, rfl, hO2, hB2⟩; have HO2 := Lib.hid (HGROW.out w2 hB2 k2 kc2 hO2); have HB2 := Lib.hid hB2; have HG2 := Lib.hid (HGR.out.below hB2); clear hO2 hB2)
            | (at_builtin; (refine append_gr rfl _ _ rfl w.heap.size i kc w2.heap.size ko (rowsOf m l i) (row m l i) k2 k kc2 rfl (HG2.out.below ((Below.refl _ _).alloc (Nat.le_refl _) (.cells #[.slice k2 k kc2] 22))) rfl (heap_alloc_new _ _) (HO2.out.below ((Below.refl _ _).alloc (Nat.le_refl _) (.cells #[.slice k2 k kc2] 22))) (by omega) (by have := HB.out.size; have := HB2.out.size; simp; omega) ?_; intro ko3 kc3 w3 hG3 hB3; have HG3 := Lib.hid hG3; have HB3 : Hid (Below w.heap.size w w3) := (HB.out.trans ((HB2.out.trans ((Below.refl _ _).alloc (Nat.le_refl _) (.cells #[.slice k2 k kc2] 22) |>.mono HB2.out.size)).mono HB.out.size)).trans hB3; clear hG3 hB3)))
          go_roundw
          case rel => exact ⟨i + 1, rest - k, _, _, _, _, rfl, rfl, HNX.out, by omega, by omega, HDR.out, (fun h => by cases h), (by rw [rowsOf_succ]; exact HG3.out), HLS.out, HB3.out⟩
          case measure => simp [lenOf]; omega
      · have e2 : decide ((0 : Int) < (rest : Int)) = false := decide_eq_false (by omega)
        have e2' : decide (0 < rest) = false := decide_eq_false h0
        go_wp2
        go_ret
        exact ⟨ko, i, kc, rfl, HGR.out, ⟨by rw [HL.out]; have := HREST.out; omega, by rw [HL.out]; exact HLAST.out⟩, HB.out⟩

set_option maxHeartbeats 4000000 in
theorem rbatch_any (ao : Option Addr) (n c : Nat) (p : Int) (l : Row) (w : World) (hl : l.length = n) (hn : n ≤ 1000000) (hnc : n ≤ c) (hcm : c ≤ maxLen) (hr : FR w ao 37 l) (hf : Flat 37 l) (ha : ao = none → c = 0) :
    Calls Try.prog 10 #[.slice ao n c, .int .i64 p] w (BPost w (mostOf p) l) := by
  unfold maxLen at hcm
  have HL := Lib.hid hl; have HR := Lib.hid hr; have HF := Lib.hid hf; have HA := Lib.hid ha
  obtain ⟨m, hm⟩ : ∃ m, m = mostOf p := ⟨_, rfl⟩
  obtain ⟨m1, m64⟩ := most_facts p
  rw [← hm] at m1 m64 ⊢
  have hp : (p < 1 ∧ m = 64) ∨ (¬ p < 1 ∧ 64 < p ∧ m = 64) ∨ (¬ p < 1 ∧ ¬ 64 < p ∧ p = m) := by
    rw [hm]; unfold mostOf
    by_cases h1 : p < 1
    · exact .inl ⟨h1, by rw [if_pos (.inl h1)]⟩
    · by_cases h2 : 64 < p
      · exact .inr (.inl ⟨h1, h2, by rw [if_pos (.inr h2)]⟩)
      · exact .inr (.inr ⟨h1, h2, by rw [if_neg (by omega)]; omega⟩)
  clear hl hr hf ha hm
  have hd : (decide (p < 1) = true ∧ m = 64) ∨ (decide (p < 1) = false ∧ decide (64 < p) = true ∧ m = 64) ∨ (decide (p < 1) = false ∧ decide (64 < p) = false ∧ p = m) := by
    rcases hp with ⟨h1, h2⟩ | ⟨h1, h2, h3⟩ | ⟨h1, h2, h3⟩
    · exact .inl ⟨decide_eq_true h1, h2⟩
    · exact .inr (.inl ⟨decide_eq_false h1, decide_eq_true h2, h3⟩)
    · exact .inr (.inr ⟨decide_eq_false h1, decide_eq_false h2, h3⟩)
  clear hp
  go_enter Try.func10, Try.ntmps10
  rcases hd with ⟨d1, hm64⟩ | ⟨d1, d2, hm64⟩ | ⟨d1, d2, hpm⟩
  · go_upto_region 5 with (fail)
    rw [show (64 : Int) = (m : Int) by omega]
    clear d1 hm64
    go_loopw [5, 6] (fun s5 s6 wr => ∃ (i q : Nat) (ko : Option Addr) (kc : Nat), s5 = .slice ko i kc ∧ s6 = .int .i64 q ∧ q = i * m ∧ GR wr w.heap.size ko i kc (rowsOf m l i) ∧ (i = 0 ∨ (i - 1) * m < n) ∧ Below w.heap.size w wr) (fun _ s6 _ => n - (intOf s6).toNat)
    case atStart => exact ⟨0, 0, none, 0, rfl, rfl, by simp, GR.nil_ _ _, .inl rfl, Below.refl _ _⟩
    case round =>
      obtain ⟨i, q, ko, kc, rfl, rfl, hq, hgr, hlast, hB⟩ := hrel
      have HGR := Lib.hid hgr; have HLAST := Lib.hid hlast; have HB := Lib.hid hB; have HQ := Lib.hid hq
      clear hgr hlast hB
      by_cases h0 : q < n
      · have e2 : decide ((q : Int) < (n : Int)) = true := decide_eq_true (by omega)
        have e2' : decide (q < n) = true := decide_eq_true h0
        obtain ⟨b, o, rfl, hcc⟩ := HR.out.at (by rw [HL.out]; omega)
        clear hcc
        obtain ⟨k, hk⟩ : ∃ k, k = min m (n - q) := ⟨_, rfl⟩
        have hkm : k ≤ m := by omega
        have hk1 : 1 ≤ k := by omega
        have hqk : q + k ≤ n := by omega
        have hld : (l.drop q).length = n - q := by rw [List.length_drop, HL.out]
        have hmin : ∀ ats W, (Builtin.min_ ats 3 #[.int .i64 ((q : Int) + (m : Int)), .int .i64 (n : Int)]).run Try.prog W = .ok (.int .i64 ((q + k : Nat) : Int)) W := fun ats W => by
          rw [run_min]; congr 2; omega
        have hrow : row m l i = (l.drop q).take k := by
          unfold row
          rw [← hq]
          by_cases hmr : m ≤ n - q
          · rw [show k = m by omega]
          · rw [List.take_of_length_le (by omega), List.take_of_length_le (by omega)]
        have hfr : FR w (some ⟨b, o + q * 37, none⟩) 37 ((l.drop q).take k) := (HR.out.drop q).take k
        have hnext : q + m = (i + 1) * m := by rw [Nat.add_mul, Nat.one_mul]; omega
        have hlast' : (i + 1 = 0 ∨ (i + 1 - 1) * m < n) := .inr (by rw [Nat.add_sub_cancel]; omega)
        have hin : i ≤ n := by
          have h1 := Nat.le_mul_of_pos_right i m1
          omega
        have hlen : ((l.drop q).take k).length = k := by rw [List.length_take, hld]; omega
        have HROW := Lib.hid hrow; have HFR := Lib.hid hfr; have HNX := Lib.hid hnext; have HLS := Lib.hid hlast'; have HLN := Lib.hid hlen
        have b1 : IntKind.i64.wrap ((q : Int) + (m : Int)) = (q : Int) + (m : Int) := IntWalk.i64_in _ (by omega)
        have i1 : (0 : Int) ≤ (q : Int) := by omega
        have i2 : (q : Int) ≤ ((q + k : Nat) : Int) := by omega
        have i3 : ((q + k : Nat) : Int) ≤ (c : Int) := by omega
        clear hk hrow hfr hnext hlast' hld hlen hq
        go_wp2_with (first
          | (at_builtin; (refine append_fl 22 51 37 fi22 rfl _ _ rfl wr.heap.size 0 0 (q + k - q) (c - q) none (some ⟨b, o + q * 37, none⟩) [] ((l.drop q).take k) rfl (FO.nil_ _ _ _ _) rfl (HFR.out.below HB.out) ((HF.out.drop _).take _) (by rw [HLN.out]; omega) (fun h => by cases h) (by omega) (Nat.le_refl _) ?_; intro k2 kc2 w2 hO2 hgr2 hB2; simp only [Nat.zero_add, Nat.add_sub_cancel_left, List.nil_append] at hO2 ⊢; have HO2 : Hid (FO w2 51 37 w.heap.size k2 k kc2 (row m l i)) := (by show FO _ _ _ _ _ _ _ _; rw [HROW.out]; exact hO2.low HB.out.size); have HB2 := Lib.hid hB2; have HG2 := Lib.hid (HGR.out.below hB2); clear hO2 hgr2 hB2))
          | (at_builtin; (refine append_gr rfl _ _ rfl w.heap.size i kc w2.heap.size ko (rowsOf m l i) (row m l i) k2 k kc2 rfl (HG2.out.below ((Below.refl _ _).alloc (Nat.le_refl _) (.cells #[.slice k2 k kc2] 22))) rfl (heap_alloc_new _ _) (HO2.out.below ((Below.refl _ _).alloc (Nat.le_refl _) (.cells #[.slice k2 k kc2] 22))) (by omega) (by have := HB.out.size; have := HB2.out.size; simp; omega) ?_; intro ko3 kc3 w3 hG3 hB3; have HG3 := Lib.hid hG3; have HB3 : Hid (Below w.heap.size w w3) := (HB.out.trans ((HB2.out.trans ((Below.refl _ _).alloc (Nat.le_refl _) (.cells #[.slice k2 k kc2] 22) |>.mono HB2.out.size)).mono HB.out.size)).trans hB3; clear hG3 hB3)))
        go_roundw
        case rel => exact ⟨i + 1, q + m, _, _, rfl, by go_num, HNX.out, (by rw [rowsOf_succ]; exact HG3.out), HLS.out, HB3.out⟩
        case measure => simp [intOf]; omega
      · have e2 : decide ((q : Int) < (n : Int)) = false := decide_eq_false (by omega)
        have e2' : decide (q < n) = false := decide_eq_false h0
        clear hq
        go_wp2
        go_ret
        exact ⟨ko, i, kc, rfl, HGR.out, ⟨by rw [HL.out]; have := HQ.out; omega, by rw [HL.out]; exact HLAST.out⟩, HB.out⟩
  · go_upto_region 5 with (fail)
    rw [show (64 : Int) = (m : Int) by omega]
    clear d1 d2 hm64
    go_loopw [5, 6] (fun s5 s6 wr => ∃ (i q : Nat) (ko : Option Addr) (kc : Nat), s5 = .slice ko i kc ∧ s6 = .int .i64 q ∧ q = i * m ∧ GR wr w.heap.size ko i kc (rowsOf m l i) ∧ (i = 0 ∨ (i - 1) * m < n) ∧ Below w.heap.size w wr) (fun _ s6 _ => n - (intOf s6).toNat)
    case atStart => exact ⟨0, 0, none, 0, rfl, rfl, by simp, GR.nil_ _ _, .inl rfl, Below.refl _ _⟩
    case round =>
      obtain ⟨i, q, ko, kc, rfl, rfl, hq, hgr, hlast, hB⟩ := hrel
      have HGR := Lib.hid hgr; have HLAST := Lib.hid hlast; have HB := Lib.hid hB; have HQ := Lib.hid hq
      clear hgr hlast hB
      by_cases h0 : q < n
      · have e2 : decide ((q : Int) < (n : Int)) = true := decide_eq_true (by omega)
        have e2' : decide (q < n) = true := decide_eq_true h0
        obtain ⟨b, o, rfl, hcc⟩ := HR.out.at (by rw [HL.out]; omega)
        clear hcc
        obtain ⟨k, hk⟩ : ∃ k, k = min m (n - q) := ⟨_, rfl⟩
        have hkm : k ≤ m := by omega
        have hk1 : 1 ≤ k := by omega
        have hqk : q + k ≤ n := by omega
        have hld : (l.drop q).length = n - q := by rw [List.length_drop, HL.out]
        have hmin : ∀ ats W, (Builtin.min_ ats 3 #[.int .i64 ((q : Int) + (m : Int)), .int .i64 (n : Int)]).run Try.prog W = .ok (.int .i64 ((q + k : Nat) : Int)) W := fun ats W => by
          rw [run_min]; congr 2; omega
        have hrow : row m l i = (l.drop q).take k := by
          unfold row
          rw [← hq]
          by_cases hmr : m ≤ n - q
          · rw [show k = m by omega]
          · rw [List.take_of_length_le (by omega), List.take_of_length_le (by omega)]
        have hfr : FR w (some ⟨b, o + q * 37, none⟩) 37 ((l.drop q).take k) := (HR.out.drop q).take k
        have hnext : q + m = (i + 1) * m := by rw [Nat.add_mul, Nat.one_mul]; omega
        have hlast' : (i + 1 = 0 ∨ (i + 1 - 1) * m < n) := .inr (by rw [Nat.add_sub_cancel]; omega)
        have hin : i ≤ n := by
          have h1 := Nat.le_mul_of_pos_right i m1
          omega
        have hlen : ((l.drop q).take k).length = k := by rw [List.length_take, hld]; omega
        have HROW := Lib.hid hrow; have HFR := Lib.hid hfr; have HNX := Lib.hid hnext; have HLS := Lib.hid hlast'; have HLN := Lib.hid hlen
        have b1 : IntKind.i64.wrap ((q : Int) + (m : Int)) = (q : Int) + (m : Int) := IntWalk.i64_in _ (by omega)
        have i1 : (0 : Int) ≤ (q : Int) := by omega
        have i2 : (q : Int) ≤ ((q + k : Nat) : Int) := by omega
        have i3 : ((q + k : Nat) : Int) ≤ (c : Int) := by omega
        clear hk hrow hfr hnext hlast' hld hlen hq
        go_wp2_with (first
          | (at_builtin; (refine append_fl 22 51 37 fi22 rfl _ _ rfl wr.heap.size 0 0 (q + k - q) (c - q) none (some ⟨b, o + q * 37, none⟩) [] ((l.drop q).take k) rfl (FO.nil_ _ _ _ _) rfl (HFR.out.below HB.out) ((HF.out.drop _).take _) (by rw [HLN.out]; omega) (fun h => by cases h) (by omega) (Nat.le_refl _) ?_; intro k2 kc2 w2 hO2 hgr2 hB2; simp only [Nat.zero_add, Nat.add_sub_cancel_left, List.nil_append] at hO2 ⊢; have HO2 : Hid (FO w2 51 37 w.heap.size k2 k kc2 (row m l i)) := (by show FO _ _ _ _ _ _ _ _; rw [HROW.out]; exact hO2.low HB.out.size); have HB2 := Lib.hid hB2; have HG2 := Lib.hid (HGR.out.below hB2); clear hO2 hgr2 hB2))
          | (at_builtin; (refine append_gr rfl _ _ rfl w.heap.size i kc w2.heap.size ko (rowsOf m l i) (row m l i) k2 k kc2 rfl (HG2.out.below ((Below.refl _ _).alloc (Nat.le_refl _) (.cells #[.slice k2 k kc2] 22))) rfl (heap_alloc_new _ _) (HO2.out.below ((Below.refl _ _).alloc (Nat.le_refl _) (.cells #[.slice k2 k kc2] 22))) (by omega) (by have := HB.out.size; have := HB2.out.size; simp; omega) ?_; intro ko3 kc3 w3 hG3 hB3; have HG3 := Lib.hid hG3; have HB3 : Hid (Below w.heap.size w w3) := (HB.out.trans ((HB2.out.trans ((Below.refl _ _).alloc (Nat.le_refl _) (.cells #[.slice k2 k kc2] 22) |>.mono HB2.out.size)).mono HB.out.size)).trans hB3; clear hG3 hB3)))
        go_roundw
        case rel => exact ⟨i + 1, q + m, _, _, rfl, by go_num, HNX.out, (by rw [rowsOf_succ]; exact HG3.out), HLS.out, HB3.out⟩
        case measure => simp [intOf]; omega
      · have e2 : decide ((q : Int) < (n : Int)) = false := decide_eq_false (by omega)
        have e2' : decide (q < n) = false := decide_eq_false h0
        clear hq
        go_wp2
        go_ret
        exact ⟨ko, i, kc, rfl, HGR.out, ⟨by rw [HL.out]; have := HQ.out; omega, by rw [HL.out]; exact HLAST.out⟩, HB.out⟩
  · subst hpm
    go_upto_region 5 with (fail)
    clear d1 d2
    go_loopw [5, 6] (fun s5 s6 wr => ∃ (i q : Nat) (ko : Option Addr) (kc : Nat), s5 = .slice ko i kc ∧ s6 = .int .i64 q ∧ q = i * m ∧ GR wr w.heap.size ko i kc (rowsOf m l i) ∧ (i = 0 ∨ (i - 1) * m < n) ∧ Below w.heap.size w wr) (fun _ s6 _ => n - (intOf s6).toNat)
    case atStart => exact ⟨0, 0, none, 0, rfl, rfl, by simp, GR.nil_ _ _, .inl rfl, Below.refl _ _⟩
    case round =>
      obtain ⟨i, q, ko, kc, rfl, rfl, hq, hgr, hlast, hB⟩ := hrel
      have HGR := Lib.hid hgr; have HLAST := Lib.hid hlast; have HB := Lib.hid hB; have HQ := Lib.hid hq
      clear hgr hlast hB
      by_cases h0 : q < n
      · have e2 : decide ((q : Int) < (n : Int)) = true := decide_eq_true (by omega)
        have e2' : decide (q < n) = true := decide_eq_true h0
        obtain ⟨b, o, rfl, hcc⟩ := HR.out.at (by rw [HL.out]; omega)
        clear hcc
        obtain ⟨k, hk⟩ : ∃ k, k = min m (n - q) := ⟨_, rfl⟩
        have hkm : k ≤ m := by omega
        have hk1 : 1 ≤ k := by omega
        have hqk : q + k ≤ n := by omega
        have hld : (l.drop q).length = n - q := by rw [List.length_drop, HL.out]
        have hmin : ∀ ats W, (Builtin.min_ ats 3 #[.int .i64 ((q : Int) + (m : Int)), .int .i64 (n : Int)]).run Try.prog W = .ok (.int .i64 ((q + k : Nat) : Int)) W := fun ats W => by
          rw [run_min]; congr 2; omega
        have hrow : row m l i = (l.drop q).take k := by
          unfold row
          rw [← hq]
          by_cases hmr : m ≤ n - q
          · rw [show k = m by omega]
          · rw [List.take_of_length_le (by omega), List.take_of_length_le (by omega)]
        have hfr : FR w (some ⟨b, o + q * 37, none⟩) 37 ((l.drop q).take k) := (HR.out.drop q).take k
        have hnext : q + m = (i + 1) * m := by rw [Nat.add_mul, Nat.one_mul]; omega
        have hlast' : (i + 1 = 0 ∨ (i + 1 - 1) * m < n) := .inr (by rw [Nat.add_sub_cancel]; omega)
        have hin : i ≤ n := by
          have h1 := Nat.le_mul_of_pos_right i m1
          omega
        have hlen : ((l.drop q).take k).length = k := by rw [List.length_take, hld]; omega
        have HROW := Lib.hid hrow; have HFR := Lib.hid hfr; have HNX := Lib.hid hnext; have HLS := Lib.hid hlast'; have HLN := Lib.hid hlen
        have b1 : IntKind.i64.wrap ((q : Int) + (m : Int)) = (q : Int) + (m : Int) := IntWalk.i64_in _ (by omega)
        have i1 : (0 : Int) ≤ (q : Int) := by omega
        have i2 : (q : Int) ≤ ((q + k : Nat) : Int) := by omega
        have i3 : ((q + k : Nat) : Int) ≤ (c : Int) := by omega
        clear hk hrow hfr hnext hlast' hld hlen hq
        go_wp2_with (first
          | (at_builtin; (refine append_fl 22 51 37 fi22 rfl _ _ rfl wr.heap.size 0 0 (q + k - q) (c - q) none (some ⟨b, o + q * 37, none⟩) [] ((l.drop q).take k) rfl (FO.nil_ _ _ _ _) rfl (HFR.out.below HB.out) ((HF.out.drop _).take _) (by rw [HLN.out]; omega) (fun h => by cases h) (by omega) (Nat.le_refl _) ?_; intro k2 kc2 w2 hO2 hgr2 hB2; simp only [Nat.zero_add, Nat.add_sub_cancel_left, List.nil_append] at hO2 ⊢; have HO2 : Hid (FO w2 51 37 w.heap.size k2 k kc2 (row m l i)) := (by show FO _ _ _ _ _ _ _ _; rw [HROW.out]; exact hO2.low HB.out.size); have HB2 := Lib.hid hB2; have HG2 := Lib.hid (HGR.out.below hB2); clear hO2 hgr2 hB2))
          | (at_builtin; (refine append_gr rfl _ _ rfl w.heap.size i kc w2.heap.size ko (rowsOf m l i) (row m l i) k2 k kc2 rfl (HG2.out.below ((Below.refl _ _).alloc (Nat.le_refl _) (.cells #[.slice k2 k kc2] 22))) rfl (heap_alloc_new _ _) (HO2.out.below ((Below.refl _ _).alloc (Nat.le_refl _) (.cells #[.slice k2 k kc2] 22))) (by omega) (by have := HB.out.size; have := HB2.out.size; simp; omega) ?_; intro ko3 kc3 w3 hG3 hB3; have HG3 := Lib.hid hG3; have HB3 : Hid (Below w.heap.size w w3) := (HB.out.trans ((HB2.out.trans ((Below.refl _ _).alloc (Nat.le_refl _) (.cells #[.slice k2 k kc2] 22) |>.mono HB2.out.size)).mono HB.out.size)).trans hB3; clear hG3 hB3)))
        go_roundw
        case rel => exact ⟨i + 1, q + m, _, _, rfl, by go_num, HNX.out, (by rw [rowsOf_succ]; exact HG3.out), HLS.out, HB3.out⟩
        case measure => simp [intOf]; omega
      · have e2 : decide ((q : Int) < (n : Int)) = false := decide_eq_false (by omega)
        have e2' : decide (q < n) = false := decide_eq_false h0
        clear hq
        go_wp2
        go_ret
        exact ⟨ko, i, kc, rfl, HGR.out, ⟨by rw [HL.out]; have := HQ.out; omega, by rw [HL.out]; exact HLAST.out⟩, HB.out⟩
end Go.Proofs.Ytliponaabgcceaa
