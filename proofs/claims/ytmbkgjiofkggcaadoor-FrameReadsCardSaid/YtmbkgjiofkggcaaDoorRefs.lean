/-
  The contracts of the document's own label.
-/
import Derived.Test.YtmbkgjiofkggcaaDoorUnlike
import Derived.Deep.AppendLies
namespace Go.Proofs.YtmbkgjiofkggcaaDoor
open Go.RowKit
set_option linter.unusedVariables false

theorem step_append_bytes {w : World} {ops : Array Oper} {o : Oper} {a : Act} {K : Act → World → Prop} {Q : Exit → Act → World → Prop} {E : Prop} (hgd : o.guard = none) (s x : Operand)
    (ho : o.op = .call { callee := .builtin .append, args := #[s, x], argTypes := #[27, 27] })
    (base n kc m mc : Nat) (ko : Option Addr) (ad : Addr) (xs ys : List Int) (hs : a.eval s = .slice ko n kc) (hown : Ow w base ko n kc xs) (hx : a.eval x = .slice (some ad) m mc) (hr : Rd w (some ad) ys) (hl : ys.length = m)
    (hm : n + m ≤ 1000000000) (hb : base ≤ w.heap.size)
    (h : ∀ ko' kc' w', Ow w' base ko' (n + m) kc' (xs ++ ys) → Below base w w' → K (a.put o.dst (.slice ko' (n + m) kc')) w') :
    if Region.wanted o (yielded ops a.tmps) = true then Oper.wp Tryd.prog o a w K Q else E := by
  obtain ⟨i0, hi, hz0, hz1, hz2⟩ := info_parts Tryd.info5
  have hlx := hown.1
  have hw : Region.wanted o (yielded ops a.tmps) = true := by simp [Region.wanted, hgd]
  rw [if_pos hw]
  refine wp_append_own w s x 27 ho base 5 i0 (.int .u8 0) 1 1 Tryd.underlying27 hi hz0 hz1 hz2 rfl (by decide) _ n _ hs hown.2.2.2 ad m mc (ys.map (.int .u8)) hx (by simp [hl]) (hr.cells ad rfl) (ints_oneCell _ _) (by unfold maxLen; omega) (by omega) hb ?_
  intro v' w' ho' hg' _
  rw [← List.map_append] at ho'
  obtain ⟨ko', kc', rfl, how⟩ := Ow.of (by simp [hlx, hl]) ho'
  exact h ko' kc' w' how (Below.grown (Below.refl _ _) hg' hb (own_ge hown.2.2.2))

theorem rlabel_any (v p e : Int) (w : World) : Calls Tryd.prog 34 #[.agg #[.int .i64 v, .int .i64 p, .int .i64 e]] w fun r w' => (lok v p e ∧ r = .returned (.bool true) ∨ ¬ lok v p e ∧ r = .returned (.bool false)) ∧ Below w.heap.size w w' := by
  have hB : ∀ A, Below w.heap.size w (w.alloc (.cells A 54)) := fun A => (Below.refl _ _).alloc (Nat.le_refl _) _
  have HB := Lib.hid hB
  clear hB
  by_cases h1 : 0 ≤ v
  · have d1 : decide (0 ≤ v) = true := decide_eq_true h1
    by_cases h2 : v < 8
    · have d2 : decide (v < 8) = true := decide_eq_true h2
      by_cases h3 : 0 ≤ p
      · have d3 : decide (0 ≤ p) = true := decide_eq_true h3
        by_cases h4 : p ≤ 1
        · have d4 : decide (p ≤ 1) = true := decide_eq_true h4
          by_cases h5 : 0 ≤ e
          · have d5 : decide (0 ≤ e) = true := decide_eq_true h5
            by_cases h6 : e ≤ 1048576
            · have d6 : decide (e ≤ 1048576) = true := decide_eq_true h6
              have HL : Hid (lok v p e) := ⟨h1, h2, h3, h4, h5, h6⟩
              go_enter Tryd.func34, Tryd.ntmps34
              go_wp2
              go_ret
              exact ⟨.inl ⟨HL.out, rfl⟩, HB.out _⟩
            · have d6 : decide (e ≤ 1048576) = false := decide_eq_false h6
              have HL : Hid (¬ lok v p e) := fun h => h6 h.2.2.2.2.2
              go_enter Tryd.func34, Tryd.ntmps34
              go_wp2
              go_ret
              exact ⟨.inr ⟨HL.out, rfl⟩, HB.out _⟩
          · have d5 : decide (0 ≤ e) = false := decide_eq_false h5
            have HL : Hid (¬ lok v p e) := fun h => h5 h.2.2.2.2.1
            go_enter Tryd.func34, Tryd.ntmps34
            go_wp2
            go_ret
            exact ⟨.inr ⟨HL.out, rfl⟩, HB.out _⟩
        · have d4 : decide (p ≤ 1) = false := decide_eq_false h4
          have HL : Hid (¬ lok v p e) := fun h => h4 h.2.2.2.1
          go_enter Tryd.func34, Tryd.ntmps34
          go_wp2
          go_ret
          exact ⟨.inr ⟨HL.out, rfl⟩, HB.out _⟩
      · have d3 : decide (0 ≤ p) = false := decide_eq_false h3
        have HL : Hid (¬ lok v p e) := fun h => h3 h.2.2.1
        go_enter Tryd.func34, Tryd.ntmps34
        go_wp2
        go_ret
        exact ⟨.inr ⟨HL.out, rfl⟩, HB.out _⟩
    · have d2 : decide (v < 8) = false := decide_eq_false h2
      have HL : Hid (¬ lok v p e) := fun h => h2 h.2.1
      go_enter Tryd.func34, Tryd.ntmps34
      go_wp2
      go_ret
      exact ⟨.inr ⟨HL.out, rfl⟩, HB.out _⟩
  · have d1 : decide (0 ≤ v) = false := decide_eq_false h1
    have HL : Hid (¬ lok v p e) := fun h => h1 h.1
    go_enter Tryd.func34, Tryd.ntmps34
    go_wp2
    go_ret
    exact ⟨.inr ⟨HL.out, rfl⟩, HB.out _⟩

theorem be_take_succ (n size k : Nat) (hk : k < size) : (be n size).take (k + 1) = (be n size).take k ++ [digit n size k] := by
  rw [List.take_succ_eq_append_getElem (by rw [be_length]; exact hk)]
  congr 2
  have := be_get n size k hk
  simpa [List.getD, be_length, hk] using this

set_option maxHeartbeats 2000000 in
theorem rbe_ok (n size : Nat) (w : World) (h1 : 1 ≤ size) (h2 : size ≤ 7) (hn : n < 9223372036854775807) :
    Calls Tryd.prog 51 #[.int .i64 n, .int .i64 size] w (R1 w size (be n size)) := by
  go_enter Tryd.func51, Tryd.ntmps51
  go_wp2
  go_loopw [5, 6] (fun v i wr => ∃ (m : Nat) (ko : Option Addr) (kc : Nat), m ≤ size ∧ i = .int .i64 ((m : Int) - 1) ∧ v = .slice ko (size - m) kc ∧ Ow wr w.heap.size ko (size - m) kc ((be n size).take (size - m)) ∧ Below w.heap.size w wr) (fun _ i _ => (intOf i + 1).toNat)
  case atStart => exact ⟨size, none, 0, Nat.le_refl _, rfl, by rw [Nat.sub_self], by rw [Nat.sub_self]; exact ⟨rfl, Nat.le_refl _, Nat.zero_le _, World.ownsRow_nil _ _ _ _⟩, Below.refl _ _⟩
  case round =>
    obtain ⟨m, ko, kc, hm1, hi', rfl, how, hB⟩ := hrel
    have HOW := Lib.hid how; have HB := Lib.hid hB
    clear how hB
    rcases m with _ | m
    · rw [show (((0 : Nat) : Int) - 1) = -1 by rfl] at hi'
      subst hi'
      go_wp2
      go_ret
      refine ⟨ko, kc, rfl, ?_, HB.out⟩
      have := HOW.out
      rw [Nat.sub_zero, List.take_of_length_le (by rw [be_length]; exact Nat.le_refl _)] at this
      exact this
    · rw [show (((m + 1 : Nat) : Int) - 1) = (m : Int) by omega] at hi'
      subst hi'
      have hdig : ((n : Int) / 2 ^ (8 * m) % 256) = digit n size (size - (m + 1)) := by
        have := digit_int n size (size - (m + 1))
        rwa [show size - 1 - (size - (m + 1)) = m by omega] at this
      obtain ⟨x, hx⟩ : ∃ x, x = (n : Int) / 2 ^ (8 * m) % 256 := ⟨_, rfl⟩
      have HX := Lib.hid hx; have HD := Lib.hid hdig
      have hnew : Hid (Rd (wr.alloc (.cells #[.int .u8 ((n : Int) / 2 ^ (8 * m) % 256)] 5)) (some ⟨wr.heap.size, 0, none⟩) [(n : Int) / 2 ^ (8 * m) % 256]) := .inr ⟨wr.heap.size, 0, rfl, fun j hj => by
        have : j = 0 := by simp at hj; omega
        subst this
        rw [World.cell?_alloc_mark]; rfl⟩
      clear hdig hx
      go_wp2_with (at_builtin; refine append_bytes rfl (.tmp 13) (.tmp 20) rfl w.heap.size (size - (m + 1)) kc 1 1 ko (some ⟨wr.heap.size, 0, none⟩) _ [(n : Int) / 2 ^ (8 * m) % 256] rfl (HOW.out.below ((Below.refl _ _).alloc (Nat.le_refl _) _)) rfl hnew.out rfl (fun h => by cases h) (by omega) (by have := HB.out.size; simp; omega) ?_; intro ko' kc' w3 how3 hB3; have HO3 := Lib.hid how3; have HB3 := Lib.hid ((HB.out.alloc HB.out.size _).trans hB3); clear how3 hB3)
      go_roundw
      case rel => exact ⟨m, ko', kc', by omega, rfl, by rw [show size - m = size - (m + 1) + 1 by omega], by
        have := HO3.out
        rw [show size - (m + 1) + 1 = size - m by omega] at this
        rw [show size - m = size - (m + 1) + 1 by omega, be_take_succ n size _ (by omega), ← HD.out, show size - (m + 1) + 1 = size - m by omega]; exact this, HB3.out⟩
      case measure => first | (simp [intOf]; done) | (simp [intOf]; omega)

end Go.Proofs.YtmbkgjiofkggcaaDoor
