/-
  The script: what is done; which are left out.
-/
import Derived.Test.YtmcbmemgeegodaaOpen
import Derived.Test.YtmcbmemgeegodaaDr8
namespace Go.Proofs.Ytmcbmemgeegodaa
open Go.ChangeShapes Go.WideShapes Go.ChangeAt Go.RowKit Go.Deep
set_option linter.unusedVariables false

/-- What is done. -/
structure Done where
  o : Int
  i : Int
  n : Int
  b : Part
  t : Int
structure Done.ok (w : World) (a : Done) : Prop where
  b : a.b.ok w
  i : a.i ≤ 9223372036854775807
  n : a.n ≤ 9223372036854775807
theorem Done.ok.below {w w' : World} {a : Done} (h : a.ok w) (hB : Below w.heap.size w w') : a.ok w' :=
  ⟨h.b.below hB, h.i, h.n⟩
/-- Its cells lie at o. -/
def Done.at' (w : World) (b o : Nat) (a : Done) : Prop :=
  w.cell? ⟨b, o, none⟩ = some (.int .i64 a.o) ∧ w.cell? ⟨b, o + 1, none⟩ = some (.int .i64 a.i) ∧ w.cell? ⟨b, o + 2, none⟩ = some (.int .i64 a.n) ∧ w.cell? ⟨b, o + 3, none⟩ = some (.slice a.b.a a.b.l a.b.c) ∧ w.cell? ⟨b, o + 4, none⟩ = some (.int .i64 a.t)
theorem Done.at'.below {w w' : World} {b o : Nat} {a : Done} (h : Done.at' w b o a) (hB : Below w.heap.size w w') : Done.at' w' b o a := by
  obtain ⟨h0, h1, h2, h3, h4⟩ := h
  exact ⟨by rw [hB.cell (cell_lt h0)]; exact h0, by rw [hB.cell (cell_lt h1)]; exact h1, by rw [hB.cell (cell_lt h2)]; exact h2, by rw [hB.cell (cell_lt h3)]; exact h3, by rw [hB.cell (cell_lt h4)]; exact h4⟩
/-- THE LIST xs LIES AT ao. -/
def Ds (w : World) (ao : Option Addr) (xs : List Done) : Prop :=
  xs = [] ∨ ∃ b o, ao = some ⟨b, o, none⟩ ∧ ∀ i, (h : i < xs.length) → Done.at' w b (o + i * 5) xs[i] ∧ xs[i].ok w
theorem Ds.below {w w' : World} {ao : Option Addr} {xs : List Done} (h : Ds w ao xs) (hB : Below w.heap.size w w') : Ds w' ao xs := by
  rcases h with h | ⟨b, o, ha, hc⟩
  · exact .inl h
  · exact .inr ⟨b, o, ha, fun i hi => ⟨(hc i hi).1.below hB, (hc i hi).2.below hB⟩⟩
theorem Ds.at {w : World} {ao : Option Addr} {xs : List Done} (h : Ds w ao xs) {i : Nat} (hi : i < xs.length) : ∃ b o, ao = some ⟨b, o, none⟩ ∧ Done.at' w b (o + i * 5) xs[i] ∧ xs[i].ok w := by
  rcases h with h | ⟨b, o, ha, hc⟩
  · rw [h] at hi; exact absurd hi (Nat.not_lt_zero _)
  · exact ⟨b, o, ha, (hc i hi).1, (hc i hi).2⟩

section
variable {H : Type} {enc : TypeId × Value → H} {W : World} {base : Nat} {held : Bool}
set_option maxRecDepth 100000 in
/-- One of them that came in. -/
theorem open_done {fuel : Nat} {cs : List Value} {x : DataW H × List MemPlace} (h : DataW.trod enc Try.prog W base (fun _ => true) held fuel 44 cs = some x) : ∃ a : Done, cs = [.int .i64 a.o, .int .i64 a.i, .int .i64 a.n, .slice a.b.a a.b.l a.b.c, .int .i64 a.t] ∧ a.ok W := by
  obtain ⟨xs, n, _, _, hl, hlen, hf⟩ := DataW.trod_struct Try.underlying44 h
  have hlen' : cs.length = 5 := hl.trans (by kernel_rfl)
  match cs, hlen', xs, hlen with
  | [v0, v1, v2, v3, v4], _, [y0, y1, y2, y3, y4], _ =>
    have h0 : DataW.trod enc Try.prog W base (fun _ => true) held n 3 [v0] = some y0 := by
      have := hf 0 _ rfl
      simpa [show Try.prog.cellsOf 3 = 1 by kernel_rfl] using this
    have h1 : DataW.trod enc Try.prog W base (fun _ => true) held n 3 [v1] = some y1 := by
      have := hf 1 _ rfl
      simpa [show Try.prog.cellsOf 3 = 1 by kernel_rfl] using this
    have h2 : DataW.trod enc Try.prog W base (fun _ => true) held n 3 [v2] = some y2 := by
      have := hf 2 _ rfl
      simpa [show Try.prog.cellsOf 3 = 1 by kernel_rfl] using this
    have h3 : DataW.trod enc Try.prog W base (fun _ => true) held n 42 [v3] = some y3 := by
      have := hf 3 _ rfl
      simpa [show Try.prog.cellsOf 42 = 1 by kernel_rfl] using this
    have h4 : DataW.trod enc Try.prog W base (fun _ => true) held n 3 [v4] = some y4 := by
      have := hf 4 _ rfl
      simpa [show Try.prog.cellsOf 3 = 1 by kernel_rfl] using this
    obtain ⟨k0, e0, _, _⟩ := DataW.trod_int Try.underlying3 h0
    obtain ⟨k1, e1, _, hw1⟩ := DataW.trod_int Try.underlying3 h1
    obtain ⟨k2, e2, _, hw2⟩ := DataW.trod_int Try.underlying3 h2
    obtain ⟨d, e3, hd⟩ := open_part h3
    obtain ⟨k4, e4, _, _⟩ := DataW.trod_int Try.underlying3 h4
    simp only [List.cons.injEq, and_true] at e0 e1 e2 e3 e4
    subst e0; subst e1; subst e2; subst e3; subst e4
    refine ⟨⟨k0, k1, k2, d, k4⟩, rfl, hd, ?_, ?_⟩
    · simp [Lit.wf, IntKind.min, IntKind.max, IntKind.signed, IntKind.bits] at hw1
      simp only; omega
    · simp [Lit.wf, IntKind.min, IntKind.max, IntKind.signed, IntKind.bits] at hw2
      simp only; omega
set_option maxRecDepth 100000 in
/-- A list of them that came in. -/
theorem open_dones {fuel : Nat} {cs : List Value} {x : DataW H × List MemPlace} (h : DataW.trod enc Try.prog W base (fun _ => true) held fuel 25 cs = some x) : ∃ (ao : Option Addr) (len cap : Nat) (l : List Done), cs = [.slice ao len cap] ∧ l.length = len ∧ len ≤ maxLen ∧ Ds W ao l := by
  rcases open_slice Try.underlying25 h with ⟨rfl, _⟩ | ⟨a, len, cap, m, n, D, Pl, rfl, _, hl, hm, hmm, _, hx⟩
  · exact ⟨none, 0, 0, [], rfl, rfl, Nat.zero_le _, .inl rfl⟩
  · have hlm : len ≤ m := by rw [hmm]; split <;> omega
    have hc7 : Try.prog.cellsOf 44 = 5 := by kernel_rfl
    by_cases h0 : len = 0
    · subst h0
      exact ⟨some a, 0, cap, [], rfl, rfl, Nat.zero_le _, .inl rfl⟩
    · obtain ⟨b, o, spot⟩ := a
      have hspot : spot = none := by
        obtain ⟨cs', h1, h2⟩ := hx 0 (by omega)
        rw [hc7] at h1
        obtain ⟨_, hlen, hcell⟩ := World.cells?_some h1
        obtain ⟨r, rfl, _⟩ := open_done h2
        have := hcell 0 (by omega)
        rw [Go.Deep.add_add] at this
        simpa [Addr.add] using World.cell?_spot (v := .int .i64 r.o) this
      subst hspot
      obtain ⟨l, hrl, hrs⟩ := list_of (P := fun (i : Nat) (r : Done) => Done.at' W b (o + i * 5) r ∧ r.ok W) len fun i hi => by
        obtain ⟨cs', h1, h2⟩ := hx i (by omega)
        rw [hc7] at h1
        obtain ⟨_, hlen, hcell⟩ := World.cells?_some h1
        obtain ⟨r, rfl, hr⟩ := open_done h2
        have c0 := hcell 0 (by omega)
        have c1 := hcell 1 (by omega)
        have c2 := hcell 2 (by omega)
        have c3 := hcell 3 (by omega)
        have c4 := hcell 4 (by omega)
        rw [Go.Deep.add_add, Addr.add_lit] at c0 c1 c2 c3 c4
        exact ⟨r, ⟨c0, c1, c2, c3, c4⟩, hr⟩
      exact ⟨_, len, cap, l, rfl, hrl, Nat.le_trans hl hm, .inr ⟨b, o, rfl, fun i hi => hrs i hi⟩⟩
end

theorem heavys_any (ao : Option Addr) (n cap : Nat) (l : List Done) (w : World) (hl : l.length = n) (hm : n ≤ maxLen) (h : Ds w ao l) :
    Calls Try.prog 9 #[.slice ao n cap] w fun e w' => (e = .returned (.bool true) ∨ (e = .returned (.bool false) ∧ n ≤ 200 ∧ ∀ i, (hi : i < l.length) → i < 50 → l[i].b.l ≤ 300)) ∧ w = w' := by
  have HL := Lib.hid hl; have HR := Lib.hid h
  unfold maxLen at hm
  clear hl h
  by_cases h80 : 200 < n
  · have d1 : decide ((200 : Int) < (n : Int)) = true := decide_eq_true (by omega)
    have d1' : decide (200 < n) = true := decide_eq_true h80
    go_enter Try.func9, Try.ntmps9
    go_wp2
    go_ret
    exact ⟨.inl rfl, rfl⟩
  have d1 : decide ((200 : Int) < (n : Int)) = false := decide_eq_false (by omega)
  have d1' : decide (200 < n) = false := decide_eq_false h80
  go_enter Try.func9, Try.ntmps9
  go_wp2
  go_loop [3] (fun i => ∃ k : Nat, k ≤ n ∧ i = .int .i64 k ∧ k ≤ 50 ∧ ∀ j, (hj : j < l.length) → j < k → l[j].b.l ≤ 300) (fun i => n - (intOf i).toNat)
  case atStart => exact ⟨0, Nat.zero_le _, rfl, by omega, fun j _ hj => absurd hj (Nat.not_lt_zero _)⟩
  case round =>
    obtain ⟨k, hk, rfl, hk6, hall⟩ := hrel
    have HALL := Lib.hid hall
    by_cases hlt : k < n
    · have d2 : decide ((k : Int) < (n : Int)) = true := decide_eq_true (by omega)
      have d2' : decide (k < n) = true := decide_eq_true hlt
      by_cases hk60 : k < 50
      · have d3 : decide ((k : Int) < 50) = true := decide_eq_true (by omega)
        obtain ⟨b, o, rfl, hat, hok⟩ := HR.out.at (i := k) (by rw [HL.out]; exact hlt)
        obtain ⟨c0, c1, c2, c3, c4⟩ := hat
        obtain ⟨r, hr⟩ : ∃ r, r = l[k]'(by rw [HL.out]; exact hlt) := ⟨_, rfl⟩
        rw [← hr] at c3
        have HRR := Lib.hid hr
        have i1 : (0 : Int) ≤ (k : Int) := by omega
        have i2 : (k : Int) < (n : Int) := by omega
        clear hall hok c0 c1 c2 c4 hr
        by_cases h4 : 300 < r.b.l
        · have d4 : decide ((300 : Int) < (r.b.l : Int)) = true := decide_eq_true (by omega)
          have d4' : decide (300 < r.b.l) = true := decide_eq_true h4
          go_wp2
          go_ret
          exact ⟨.inl rfl, rfl⟩
        have d4 : decide ((300 : Int) < (r.b.l : Int)) = false := decide_eq_false (by omega)
        have d4' : decide (300 < r.b.l) = false := decide_eq_false h4
        go_wp2
        go_round
        case rel => exact ⟨k + 1, by omega, by go_num, by omega, fun j hj hjk => by
          by_cases hjk' : j < k
          · exact HALL.out j hj hjk'
          · obtain rfl : j = k := by omega
            rw [← HRR.out]; omega⟩
        case measure => simp [intOf]; omega
      · have d3 : decide ((k : Int) < 50) = false := decide_eq_false (by omega)
        clear hall
        go_wp2
        go_ret
        exact ⟨.inr ⟨rfl, by omega, fun i hi h6 => HALL.out i hi (by omega)⟩, rfl⟩
    · have d2 : decide ((k : Int) < (n : Int)) = false := decide_eq_false (by omega)
      have d2' : decide (k < n) = false := decide_eq_false hlt
      clear hall
      go_wp2
      go_ret
      exact ⟨.inr ⟨rfl, by omega, fun i hi _ => HALL.out i hi (by rw [HL.out] at hi; omega)⟩, rfl⟩

end Go.Proofs.Ytmcbmemgeegodaa
