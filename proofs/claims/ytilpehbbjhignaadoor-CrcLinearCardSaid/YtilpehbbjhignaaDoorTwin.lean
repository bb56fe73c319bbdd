/-
  The contracts of the twin of bytes, and of the comparison.
-/
import Derived.Test.YtilpehbbjhignaaDoorWakes
namespace Go.Proofs.YtilpehbbjhignaaDoor
open Go.RowKit
set_option linter.unusedVariables false

theorem Tryd.info5 : (Tryd.prog.info? 5).map (fun i => (i.zero, i.size, i.bytes)) = some (some (.int .u8 0), 1, 1) := by kernel_rfl

/-- The bytes zs lie in a row that is owned from base on. -/
def Ow (w : World) (base : Nat) (ao : Option Addr) (n cap : Nat) (zs : List Int) : Prop :=
  zs.length = n ∧ n ≤ cap ∧ cap ≤ maxLen ∧ w.ownsRow base 5 1 (.slice ao n cap) n (zs.map (Value.int .u8))
theorem Ow.rd {w : World} {base : Nat} {ao : Option Addr} {n cap : Nat} {zs : List Int} (h : Ow w base ao n cap zs) : Rd w ao zs := by
  obtain ⟨h1, h2, h3, h4⟩ := h
  rcases h4.2 with ⟨q, hn⟩ | ⟨g, c, cur, q, _⟩
  · exact .inl (List.eq_nil_of_length_eq_zero (by omega))
  · simp only [Value.slice.injEq] at q
    obtain ⟨rfl, _, rfl⟩ := q
    exact Rd.of_owns h4
theorem owns_below {w w' : World} {base e n : Nat} {v : Value} {xs : List Value} (h : w.ownsRow base e 1 v n xs) (hB : Below w.heap.size w w') : w'.ownsRow base e 1 v n xs := by
  obtain ⟨h1, h2⟩ := h
  refine ⟨h1, ?_⟩
  rcases h2 with h2 | ⟨g, cap, cur, q1, q2, q3, q4⟩
  · exact .inl h2
  · exact .inr ⟨g, cap, cur, q1, q2, by rw [hB.block g (Array.getElem?_eq_some_iff.1 q3).1, q3], q4⟩
theorem owns_base {w : World} {base base' e n : Nat} {v : Value} {xs : List Value} (h : w.ownsRow base e 1 v n xs) (hb : base' ≤ base) : w.ownsRow base' e 1 v n xs := by
  obtain ⟨h1, h2⟩ := h
  refine ⟨h1, ?_⟩
  rcases h2 with h2 | ⟨g, cap, cur, q1, q2, q3⟩
  · exact .inl h2
  · exact .inr ⟨g, cap, cur, q1, by omega, q3⟩
theorem Ow.below {w w' : World} {base : Nat} {ao : Option Addr} {n cap : Nat} {zs : List Int} (h : Ow w base ao n cap zs) (hB : Below w.heap.size w w') : Ow w' base ao n cap zs :=
  ⟨h.1, h.2.1, h.2.2.1, owns_below h.2.2.2 hB⟩
theorem Ow.of {w : World} {base n : Nat} {v : Value} {zs : List Int} (hl : zs.length = n) (h : w.ownsRow base 5 1 v n (zs.map (Value.int .u8))) : ∃ ao cap, v = .slice ao n cap ∧ Ow w base ao n cap zs := by
  rcases h.2 with ⟨q, hn⟩ | ⟨g, c, cur, q, _, _, q1, q2, _⟩
  · subst q; subst hn
    exact ⟨none, 0, rfl, hl, Nat.le_refl _, Nat.zero_le _, h⟩
  · subst q
    exact ⟨_, c, rfl, hl, q1, q2, h⟩
/-- An owned row is nil and empty, or lies at a block's head. -/
theorem Ow.at {w : World} {base : Nat} {ao : Option Addr} {n cap : Nat} {zs : List Int} (h : Ow w base ao n cap zs) (h0 : 0 < n) : ∃ g, ao = some ⟨g, 0, none⟩ ∧ base ≤ g := by
  rcases h.2.2.2.2 with ⟨_, hn⟩ | ⟨g, c, cur, q, hg, _⟩
  · exact absurd hn (by omega)
  · simp only [Value.slice.injEq] at q
    exact ⟨g, q.1, hg⟩
theorem Ow.nil {w : World} {base n cap : Nat} {ao : Option Addr} {zs : List Int} (h : Ow w base ao n cap zs) (hn : ao = none) : cap = 0 := by
  rcases h.2.2.2.2 with ⟨q, _⟩ | ⟨g, c, cur, q, _⟩
  · simp only [Value.slice.injEq] at q; exact q.2.2
  · simp only [Value.slice.injEq] at q; rw [hn] at q; cases q.1
theorem Ow.part {w : World} {base n cap : Nat} {ao : Option Addr} {zs : List Int} (h : Ow w base ao n cap zs) (hz : Bts zs) : Part.ok w ⟨ao, n, cap, zs⟩ :=
  ⟨h.rd, h.1, hz, Nat.le_trans h.2.1 h.2.2.1, h.nil⟩

/-- What Twin leaves. -/
def R1 (w : World) (n : Nat) (zs : List Int) (e : Ending) (w' : World) : Prop :=
  ∃ ko kc, e = .returned (.slice ko n kc) ∧ Ow w' w.heap.size ko n kc zs ∧ Below w.heap.size w w'

theorem twin_nil (w : World) : Calls Tryd.prog 18 #[.slice none 0 0] w fun e w' => e = .returned (.slice none 0 0) ∧ w = w' := by
  go_enter Tryd.func18, Tryd.ntmps18
  go_wp2
  go_ret
  exact ⟨rfl, rfl⟩

theorem twin_some (ad : Addr) (n cap : Nat) (zs : List Int) (w : World) (hl : zs.length = n) (hm : n ≤ 1000000) (h : Rd w (some ad) zs) :
    Calls Tryd.prog 18 #[.slice (some ad) n cap] w (R1 w n zs) := by
  obtain ⟨i0, hi, hz0, hz1, hz2⟩ := info_parts Tryd.info5
  have H := Lib.hid h; have HL := Lib.hid hl
  have HO : Hid (w.ownsRow w.heap.size 5 1 (.slice none 0 0) 0 []) := World.ownsRow_nil _ _ _ _
  clear h hl
  go_enter Tryd.func18, Tryd.ntmps18
  go_wp2_with (at_builtin; refine wpList_append_own _ rfl (.tmp 4) (.tmp 5) 25 rfl w.heap.size 5 i0 (.int .u8 0) 1 1 Tryd.underlying25 hi hz0 hz1 hz2 rfl (by decide) _ 0 _ rfl HO.out ad n cap (zs.map (.int .u8)) rfl ?c0 ?c1 ?c2 ?c3 ?c4 ?c5 ?_)
  case c0 => simp [HL.out]
  case c1 => exact H.out.cells _ rfl
  case c2 => exact ints_oneCell _ _
  case c3 => unfold maxLen; omega
  case c4 => omega
  case c5 => exact Nat.le_refl _
  intro v' w1 hown1 hgrow1 hnil
  have HB1 := Lib.hid (Below.grown (Below.refl _ _) hgrow1 (Nat.le_refl _) (fun k h => by cases h))
  have hv := Ow.of HL.out (by simpa using hown1)
  obtain ⟨ko, kc, hv, how⟩ := hv
  rw [hv]
  have HOW := Lib.hid how
  clear how hown1 hgrow1 hnil hv
  go_wp2
  go_ret
  exact ⟨ko, kc, rfl, HOW.out, HB1.out⟩

theorem twin_any (ao : Option Addr) (n cap : Nat) (zs : List Int) (w : World) (hl : zs.length = n) (hm : n ≤ 1000000) (h : Rd w ao zs) (hn : ao = none → cap = 0) :
    Calls Tryd.prog 18 #[.slice ao n cap] w (R1 w n zs) := by
  cases ao with
  | some ad => exact twin_some ad n cap zs w hl hm h
  | none =>
    obtain rfl := hn rfl
    have hz : zs = [] := by
      rcases h with h | ⟨b, o, h, _⟩
      · exact h
      · cases h
    subst hz
    obtain rfl : n = 0 := hl.symm
    refine (twin_nil w).mono ?_
    rintro e w' ⟨rfl, rfl⟩
    exact ⟨none, 0, rfl, ⟨rfl, Nat.le_refl _, Nat.zero_le _, World.ownsRow_nil _ _ _ _⟩, Below.refl _ _⟩

theorem ne_of_len {xs ys : List Int} (h : xs.length ≠ ys.length) : decide (xs = ys) = false := decide_eq_false (fun e => h (by rw [e]))
/-- THE COMPARISON OF BYTES: it only reads. -/
theorem bytes_cmp (a b : Option Addr) (n m ca cb : Nat) (xs ys : List Int) (w : World) (hx : xs.length = n) (hy : ys.length = m) (hm : n ≤ maxLen) (h1 : Rd w a xs) (h2 : Rd w b ys) :
    Calls Tryd.prog 14 #[.slice a n ca, .slice b m cb] w fun e w' => e = .returned (.bool (decide (xs = ys))) ∧ ∃ q, w' = w.drewN q := by
  unfold maxLen at hm
  by_cases hnm : n = m
  · subst hnm
    obtain ⟨r, hr⟩ : ∃ r, r = decide (xs = ys) := ⟨_, rfl⟩
    rw [← hr]
    have HR := Lib.hid hr; have H1 := Lib.hid h1; have H2 := Lib.hid h2; have HX := Lib.hid hx; have HY := Lib.hid hy
    have d0 : ((n : Int) != n) = false := by simp
    clear hr h1 h2 hx hy
    go_enter Tryd.func14, Tryd.ntmps14
    go_wp2
    go_loopw [5] (fun i wr => ∃ k q : Nat, k ≤ n ∧ i = .int .i64 k ∧ wr = w.drewN q ∧ xs.take k = ys.take k) (fun i _ => n - (intOf i).toNat)
    case atStart => exact ⟨0, 0, Nat.zero_le _, rfl, rfl, rfl⟩
    case round =>
      obtain ⟨k, q, hk, rfl, hw, ht⟩ := hrel
      have HW := Lib.hid hw; have HT := Lib.hid ht
      by_cases hlt : k < n
      · obtain ⟨b1, o1, rfl, c1⟩ := H1.out.at (by rw [HX.out]; omega)
        obtain ⟨b2, o2, rfl, c2⟩ := H2.out.at (by rw [HY.out]; omega)
        have g1 : wr.cell? ⟨b1, o1 + k, none⟩ = some (.int .u8 (xs.getD k 0)) := by rw [hw]; exact c1 k (by rw [HX.out]; exact hlt)
        have g2 : wr.cell? ⟨b2, o2 + k, none⟩ = some (.int .u8 (ys.getD k 0)) := by rw [hw]; exact c2 k (by rw [HY.out]; exact hlt)
        obtain ⟨c, hc⟩ : ∃ c, c = xs.getD k 0 := ⟨_, rfl⟩
        obtain ⟨d, hd⟩ : ∃ d, d = ys.getD k 0 := ⟨_, rfl⟩
        rw [← hc] at g1; rw [← hd] at g2
        have HC := Lib.hid hc; have HD := Lib.hid hd
        clear c1 c2 hc hd hw ht
        have lx : k < xs.length := by rw [HX.out]; exact hlt
        have ly : k < ys.length := by rw [HY.out]; exact hlt
        by_cases hcd : c = d
        · subst hcd
          have d1 : (c != c) = false := by simp
          have HS : Hid (xs.take (k + 1) = ys.take (k + 1)) := by
            show _ = _
            rw [List.take_succ_eq_append_getElem lx, List.take_succ_eq_append_getElem ly, HT.out]
            have e1 := HC.out; have e2 := HD.out
            simp only [List.getD, List.getElem?_eq_getElem lx, List.getElem?_eq_getElem ly, Option.getD_some] at e1 e2
            rw [← e1, ← e2]
          go_wp2
          go_quiet (fail)
          go_wp2
          go_roundw
          case rel => exact ⟨k + 1, q + nq, by omega, by go_num, by rw [HW.out, World.drewN_drewN], HS.out⟩
          case measure => simp [intOf]; omega
        · have d1 : (c != d) = true := by simp [hcd]
          have hne : r = false := by
            rw [HR.out]
            refine decide_eq_false (fun e => hcd ?_)
            rw [HC.out, HD.out, e]
          subst hne
          clear hcd lx ly
          go_wp2
          go_quiet (fail)
          go_wp2
          go_ret
          exact ⟨rfl, q + nq, by rw [HW.out, World.drewN_drewN]⟩
      · obtain rfl : k = n := by omega
        have ht' : r = true := by
          rw [HR.out]
          rw [List.take_of_length_le (by rw [HX.out]; exact Nat.le_refl _), List.take_of_length_le (by rw [HY.out]; exact Nat.le_refl _)] at ht
          exact decide_eq_true ht
        subst ht'
        clear hw ht
        go_wp2
        go_ret
        exact ⟨rfl, q, HW.out⟩
  · have hne : decide (xs = ys) = false := ne_of_len (by omega)
    rw [hne]
    have d0 : ((n : Int) != m) = true := by simp; omega
    clear hne hx hy h1 h2
    go_enter Tryd.func14, Tryd.ntmps14
    go_wp2
    go_ret
    exact ⟨rfl, 0, rfl⟩

end Go.Proofs.YtilpehbbjhignaaDoor
