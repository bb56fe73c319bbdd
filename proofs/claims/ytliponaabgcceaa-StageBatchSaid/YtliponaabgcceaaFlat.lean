/-
  Rows of flat records: each a list of k cells; those that came in, those of one's own; append.
-/
import Derived.Test.YtliponaabgcceaaProg
import Derived.WalkKit
import Derived.WalkSpells
import Derived.WalkSmall
import Derived.Outline
import Derived.Lib.Hide
import Derived.Deep.QuietTactic
import Derived.BigQuiet
import Derived.Laws.CopyOwn
import Derived.Laws.Rows
import Derived.Laws.AppendOwnNone
import Derived.Deep.RegionHeld3
import Derived.Deep.RegionLaw
import Derived.Deep.AppendLies
import Derived.Deep.MidRow
import Derived.Deep.Slices
import Derived.Deep.Fields
import Derived.Deep.Strs
import Derived.ChangeSame
import Derived.Lib.SmallJoins
import Derived.OpenShut
import Derived.IntWalk
namespace Go.Proofs.Ytliponaabgcceaa
open Go.RowKit
set_option linter.unusedVariables false

theorem fl_cell_lt {w : World} {a : Addr} {v : Value} (h : w.cell? a = some v) : a.block < w.heap.size := World.block_lt_of_cell? w a h
theorem rangeAt_below {w w' : World} {b o : Nat} {cs : List Value} (h : w.rangeAt b o cs) (hB : Below w.heap.size w w') : w'.rangeAt b o cs := fun j v hj => by
  have := h j v hj
  rw [hB.cell (fl_cell_lt this)]; exact this
/-- THE RECORDS rs, of k cells each, LIE AT ao. -/
def FR (w : World) (ao : Option Addr) (k : Nat) (rs : List (List Value)) : Prop :=
  rs = [] ∨ ∃ b o, ao = some ⟨b, o, none⟩ ∧ ∀ i, (h : i < rs.length) → w.rangeAt b (o + i * k) rs[i]
theorem FR.below {w w' : World} {ao : Option Addr} {k : Nat} {rs : List (List Value)} (h : FR w ao k rs) (hB : Below w.heap.size w w') : FR w' ao k rs := by
  rcases h with h | ⟨b, o, ha, hc⟩
  · exact .inl h
  · exact .inr ⟨b, o, ha, fun i hi => rangeAt_below (hc i hi) hB⟩
theorem FR.at {w : World} {ao : Option Addr} {k : Nat} {rs : List (List Value)} (h : FR w ao k rs) (h0 : 0 < rs.length) : ∃ b o, ao = some ⟨b, o, none⟩ ∧ ∀ i, (hi : i < rs.length) → w.rangeAt b (o + i * k) rs[i] := by
  rcases h with h | h
  · rw [h] at h0; exact absurd h0 (Nat.not_lt_zero _)
  · exact h
theorem FR.nil (w : World) (ao : Option Addr) (k : Nat) : FR w ao k [] := .inl rfl
theorem FR.take {w : World} {ao : Option Addr} {k : Nat} {rs : List (List Value)} (h : FR w ao k rs) (n : Nat) : FR w ao k (rs.take n) := by
  rcases h with h | ⟨b, o, ha, hc⟩
  · exact .inl (by rw [h]; simp)
  · exact .inr ⟨b, o, ha, fun i hi => by
      rw [List.getElem_take]
      exact hc i (by simp at hi; omega)⟩
theorem FR.drop {w : World} {b o k : Nat} {rs : List (List Value)} (h : FR w (some ⟨b, o, none⟩) k rs) (n : Nat) : FR w (some ⟨b, o + n * k, none⟩) k (rs.drop n) := by
  rcases h with h | ⟨b', o', ha, hc⟩
  · exact .inl (by rw [h]; simp)
  · cases ha
    exact .inr ⟨b, o + n * k, rfl, fun i hi => by
      rw [List.getElem_drop]
      have := hc (n + i) (by simp at hi; omega)
      rw [show o + n * k + i * k = o + (n + i) * k by rw [Nat.add_mul]; omega]
      exact this⟩
/-- Each of k cells, each of one. -/
def Flat (k : Nat) (rs : List (List Value)) : Prop := ∀ r ∈ rs, r.length = k ∧ ∀ v ∈ r, v.oneCell' = true
theorem Flat.nil (k : Nat) : Flat k [] := fun r h => by cases h
theorem Flat.app {k : Nat} {rs ss : List (List Value)} (h : Flat k rs) (h' : Flat k ss) : Flat k (rs ++ ss) := fun r hr => by
  rcases List.mem_append.1 hr with h1 | h1
  · exact h r h1
  · exact h' r h1
theorem Flat.one {k : Nat} {r : List Value} (h : r.length = k) (h' : ∀ v ∈ r, v.oneCell' = true) : Flat k [r] := fun x hx => by
  rw [List.mem_singleton] at hx; subst hx; exact ⟨h, h'⟩
theorem Flat.take {k : Nat} {rs : List (List Value)} (h : Flat k rs) (n : Nat) : Flat k (rs.take n) := fun r hr => h r (List.mem_of_mem_take hr)
theorem Flat.drop {k : Nat} {rs : List (List Value)} (h : Flat k rs) (n : Nat) : Flat k (rs.drop n) := fun r hr => h r (List.mem_of_mem_drop hr)
theorem Flat.len {k : Nat} : ∀ {rs : List (List Value)}, Flat k rs → rs.flatten.length = rs.length * k
  | [], _ => by simp
  | r :: rs, h => by
    have h1 := (h r (List.mem_cons_self ..)).1
    have h2 := Flat.len (rs := rs) (fun x hx => h x (List.mem_cons_of_mem _ hx))
    simp only [List.flatten_cons, List.length_append, h1, h2, List.length_cons, Nat.add_mul, Nat.one_mul]
    omega
theorem Flat.get {k : Nat} : ∀ {rs : List (List Value)}, Flat k rs → ∀ i, (h : i < rs.length) → ∀ j, j < k → rs.flatten[i * k + j]? = rs[i][j]?
  | [], _, i, h, _, _ => absurd h (Nat.not_lt_zero _)
  | r :: rs, hf, i, h, j, hj => by
    have h1 := (hf r (List.mem_cons_self ..)).1
    cases i with
    | zero =>
      rw [Nat.zero_mul, Nat.zero_add, List.flatten_cons, List.getElem?_append_left (by omega)]
      rfl
    | succ i =>
      have ih := Flat.get (rs := rs) (fun x hx => hf x (List.mem_cons_of_mem _ hx)) i (by simp at h; omega) j hj
      rw [List.flatten_cons, List.getElem?_append_right (by rw [h1, Nat.add_mul, Nat.one_mul]; omega), h1, show (i + 1) * k + j - k = i * k + j by rw [Nat.add_mul, Nat.one_mul]; omega, ih]
      rfl
theorem Flat.one_ {k : Nat} {rs : List (List Value)} (h : Flat k rs) : ∀ u ∈ rs.flatten, u.oneCell' = true := fun u hu => by
  obtain ⟨r, hr, hur⟩ := List.mem_flatten.1 hu
  exact (h r hr).2 u hur
/-- The cells, as the laws on append ask for them. -/
theorem FR.cells {w : World} {ao : Option Addr} {k : Nat} {rs : List (List Value)} (h : FR w ao k rs) (hf : Flat k rs) (hk : 0 < k) : ∀ ad, ao = some ad → ∀ j u, rs.flatten[j]? = some u → w.cell? (ad.add j) = some u := by
  intro ad ha j u hj
  rcases h with h | ⟨b, o, hb, hc⟩
  · rw [h] at hj; cases hj
  · rw [hb] at ha
    cases ha
    have hlt : j < rs.length * k := by rw [← hf.len]; exact (List.getElem?_eq_some_iff.1 hj).1
    have hi : j / k < rs.length := Nat.div_lt_of_lt_mul (by rw [Nat.mul_comm]; exact hlt)
    have hm : j % k < k := Nat.mod_lt _ hk
    have e : j / k * k + j % k = j := by rw [Nat.mul_comm]; exact Nat.div_add_mod j k
    have hg := hf.get (j / k) hi (j % k) hm
    rw [e, hj] at hg
    have := hc (j / k) hi (j % k) u hg.symm
    rw [Addr.add_lit]
    rw [Nat.add_assoc, e] at this
    exact this
/-- THE RECORDS rs LIE IN A ROW OF ONE's OWN. -/
structure FO (w : World) (e k base : Nat) (ko : Option Addr) (n kc : Nat) (rs : List (List Value)) : Prop where
  len : rs.length = n
  room : n ≤ kc
  cm : kc ≤ maxLen
  flat : Flat k rs
  row : w.ownsRow base e k (.slice ko n kc) n rs.flatten
theorem FO.nil_ (w : World) (e k base : Nat) : FO w e k base none 0 0 [] := ⟨rfl, Nat.le_refl _, Nat.zero_le _, Flat.nil k, World.ownsRow_nil _ _ _ _⟩
theorem fo_owns_below {w w' : World} {base e n size : Nat} {v : Value} {xs : List Value} (h : w.ownsRow base e size v n xs) (hB : Below w.heap.size w w') : w'.ownsRow base e size v n xs := by
  refine ⟨h.1, ?_⟩
  rcases h.2 with h2 | ⟨g, cap, cur, q1, q2, q3, q4⟩
  · exact .inl h2
  · exact .inr ⟨g, cap, cur, q1, q2, by rw [hB.block g (Array.getElem?_eq_some_iff.1 q3).1]; exact q3, q4⟩
theorem fo_owns_ge {w : World} {base e n size : Nat} {v : Value} {xs : List Value} (h : w.ownsRow base e size v n xs) : ∀ k, v.ownBlock = some k → base ≤ k := by
  intro k hk
  rcases h.2 with ⟨h2, _⟩ | ⟨g, cap, cur, q1, q2, q3, q4⟩
  · subst h2; cases hk
  · subst q1; cases hk; exact q2
/-- An own row of another kind stays where this one grows. -/
theorem fo_grown {w w' : World} {base base2 e e2 n n2 size size2 : Nat} {v v2 : Value} {xs xs2 : List Value} (he : e ≠ e2) (h : w.ownsRow base e size v n xs) (ho : w.ownsRow base2 e2 size2 v2 n2 xs2) (hg : w.grownBy w' v2.ownBlock) : w'.ownsRow base e size v n xs := by
  refine ⟨h.1, ?_⟩
  rcases h.2 with h2 | ⟨g, cap, cur, q1, q2, q3, q4⟩
  · exact .inl h2
  · refine .inr ⟨g, cap, cur, q1, q2, ?_, q4⟩
    have hne : some g ≠ v2.ownBlock := by
      intro e'
      rcases ho.2 with ⟨q', _⟩ | ⟨g', cap, cur', p1, p2, p3, p4⟩
      · subst q'; cases e'
      · subst p1
        cases e'
        rw [p3] at q3
        simp only [Option.some.injEq, Obj.cells.injEq] at q3
        exact he q3.2.1.symm
    rw [hg.block g (Array.getElem?_eq_some_iff.1 q3).1 hne]; exact q3
theorem FO.below {w w' : World} {e k base : Nat} {ko : Option Addr} {n kc : Nat} {rs : List (List Value)} (h : FO w e k base ko n kc rs) (hB : Below w.heap.size w w') : FO w' e k base ko n kc rs :=
  ⟨h.len, h.room, h.cm, h.flat, fo_owns_below h.row hB⟩
theorem FO.low {w : World} {e k base b : Nat} {ko : Option Addr} {n kc : Nat} {rs : List (List Value)} (h : FO w e k base ko n kc rs) (hb : b ≤ base) : FO w e k b ko n kc rs := by
  refine ⟨h.len, h.room, h.cm, h.flat, h.row.1, ?_⟩
  rcases h.row.2 with h2 | ⟨g, cap, cur, q1, q2, q3⟩
  · exact .inl h2
  · exact .inr ⟨g, cap, cur, q1, Nat.le_trans hb q2, q3⟩
theorem FO.nil {w : World} {e k base : Nat} {ko : Option Addr} {n kc : Nat} {rs : List (List Value)} (h : FO w e k base ko n kc rs) (hn : ko = none) : kc = 0 := by
  rcases h.row.2 with ⟨q, _⟩ | ⟨g, c, cur, q, _⟩
  · simp only [Value.slice.injEq] at q; exact q.2.2
  · simp only [Value.slice.injEq] at q; rw [hn] at q; cases q.1
theorem FO.fr {w : World} {e k base : Nat} {ko : Option Addr} {n kc : Nat} {rs : List (List Value)} (h : FO w e k base ko n kc rs) : FR w ko k rs := by
  rcases h.row.2 with ⟨q, hn⟩ | ⟨g, c, cur, q, _⟩
  · exact .inl (List.eq_nil_of_length_eq_zero (by rw [h.len]; exact hn))
  · simp only [Value.slice.injEq] at q
    obtain ⟨rfl, _, rfl⟩ := q
    refine .inr ⟨g, 0, rfl, fun i hi => ?_⟩
    intro j v hj
    have hk : j < k := by
      have := (h.flat rs[i] (List.getElem_mem hi)).1
      have := (List.getElem?_eq_some_iff.1 hj).1
      omega
    rw [Nat.zero_add, h.row.cellAt (i * k + j) (by
      have : i + 1 ≤ n := by rw [← h.len]; exact hi
      have := Nat.mul_le_mul_right k this
      rw [Nat.add_mul, Nat.one_mul] at this
      omega), h.flat.get i hi j hk, hj]
/-- Where a row of one's own that is not empty lies. -/
theorem FO.addr {w : World} {e k base : Nat} {ko : Option Addr} {n kc : Nat} {rs : List (List Value)} (h : FO w e k base ko n kc rs) (h0 : 0 < n) : ∃ g, ko = some ⟨g, 0, none⟩ ∧ base ≤ g ∧ g < w.heap.size := by
  rcases h.row.2 with ⟨q, hn⟩ | ⟨g, c, cur, q, hb, hh, _⟩
  · omega
  · simp only [Value.slice.injEq] at q
    exact ⟨g, q.1, hb, (Array.getElem?_eq_some_iff.1 hh).1⟩
/-- What a type of slices of records must be. -/
structure FI (P : Program) (t e k : Nat) : Prop where
  un : P.underlying t = some (.slice e)
  info : ∃ i z bytes, P.info? e = some i ∧ i.zero = some z ∧ i.size = k ∧ i.bytes = bytes ∧ z.cells.size = k ∧ 0 < k ∧ bytes ≤ 100000
theorem FI.of {P : Program} {t e k : Nat} {z : Value} {b : Nat} (un : P.underlying t = some (.slice e)) (h : (P.info? e).map (fun i => (i.zero, i.size, i.bytes)) = some (some z, k, b)) (hz : z.cells.size = k) (hk : 0 < k) (hb : b ≤ 100000) : FI P t e k := by
  refine ⟨un, ?_⟩
  cases hi : P.info? e with
  | none => rw [hi] at h; cases h
  | some i =>
    rw [hi] at h
    simp only [Option.map_some, Option.some.injEq, Prod.mk.injEq] at h
    obtain ⟨h1, h2, h3⟩ := h
    exact ⟨i, z, b, rfl, h1, h2, h3, hz, hk, hb⟩
/-- append, of whatever records onto a row of one's own. -/
theorem append_fl {P : Program} {w : World} {ops : Array Oper} {rest : List Oper} {o : Oper} {a : Act} {Q : Exit → Act → World → Prop} (t e k : Nat) (hI : FI P t e k) (hgd : o.guard = none) (s x : Operand)
    (ho : o.op = .call { callee := .builtin .append, args := #[s, x], argTypes := #[t, t] })
    (base n kc m mc : Nat) (ko bo : Option Addr) (xs ys : List (List Value)) (hs : a.eval s = .slice ko n kc) (hown : FO w e k base ko n kc xs) (hx : a.eval x = .slice bo m mc) (hr : FR w bo k ys) (hf : Flat k ys) (hl : ys.length = m) (hn : bo = none → mc = 0)
    (hm : n + m ≤ 1000000000) (hb : base ≤ w.heap.size)
    (h : ∀ ko' kc' w', FO w' e k base ko' (n + m) kc' (xs ++ ys) → w.grownBy w' (Value.slice ko n kc).ownBlock → Below base w w' → wpList P ops Q rest (a.put o.dst (.slice ko' (n + m) kc')) w') : wpList P ops Q (o :: rest) a w := by
  obtain ⟨i0, z, bytes, hi, hz0, hz1, hz2, hz3, hk, hbb⟩ := hI.info
  obtain ⟨h1, h2, h3, h4, h5⟩ := hown
  cases bo with
  | none =>
    obtain rfl := hn rfl
    have hy : ys = [] := by
      rcases hr with h | ⟨_, _, h, _⟩
      · exact h
      · cases h
    subst hy
    obtain rfl : m = 0 := hl.symm
    refine wpList_append_own_none hgd s x t ho base e i0 k hI.un hi _ n _ hs h5 hx ?_
    exact h ko kc w (by simpa using (⟨h1, h2, h3, h4, h5⟩ : FO w e k base ko n kc xs)) ⟨rfl, rfl, rfl, Nat.le_refl _, fun _ _ _ => rfl⟩ (Below.refl _ _)
  | some ad =>
    refine wpList_append_own _ hgd s x t ho base e i0 z k bytes hI.un hi hz0 hz1 hz2 hz3 hk _ n _ hs h5 ad m mc ys.flatten hx (by rw [hf.len, hl]) (hr.cells hf hk ad rfl) hf.one_ (by unfold maxLen; omega) (by
      have : (n + m) * bytes ≤ 1000000000 * 100000 := Nat.mul_le_mul hm hbb
      omega) hb ?_
    intro v' w' ho' hg' hnil
    rw [← List.flatten_append] at ho'
    have hv : ∃ ko' kc', v' = .slice ko' (n + m) kc' ∧ n + m ≤ kc' ∧ kc' ≤ maxLen := by
      rcases ho'.2 with ⟨e1, h0⟩ | ⟨g', cap', cur, q1, _, _, q4, q5, _⟩
      · exact ⟨none, 0, by rw [e1, h0], by omega, Nat.zero_le _⟩
      · exact ⟨_, cap', q1, q4, q5⟩
    obtain ⟨ko', kc', rfl, hk1, hk2⟩ := hv
    exact h ko' kc' w' ⟨by rw [List.length_append, h1, hl], hk1, hk2, h4.app hf, ho'⟩ hg' (Below.grown (Below.refl _ _) hg' hb (fo_owns_ge h5))
/-- .. of one record that was built. -/
theorem append_fl1 {P : Program} {w : World} {ops : Array Oper} {rest : List Oper} {o : Oper} {a : Act} {Q : Exit → Act → World → Prop} (t e k : Nat) (hI : FI P t e k) (hgd : o.guard = none) (s x : Operand)
    (ho : o.op = .call { callee := .builtin .append, args := #[s, x], argTypes := #[t, t] })
    (base n kc g te : Nat) (ko : Option Addr) (xs : List (List Value)) (r : List Value) (hs : a.eval s = .slice ko n kc) (hown : FO w e k base ko n kc xs) (hx : a.eval x = .slice (some ⟨g, 0, none⟩) 1 1)
    (hg : w.heap[g]? = some (.cells r.toArray te (0, 0))) (hrk : r.length = k) (h1 : ∀ v ∈ r, v.oneCell' = true)
    (hm : n ≤ 900000000) (hb : base ≤ w.heap.size)
    (h : ∀ ko' kc' w', FO w' e k base ko' (n + 1) kc' (xs ++ [r]) → w.grownBy w' (Value.slice ko n kc).ownBlock → Below base w w' → wpList P ops Q rest (a.put o.dst (.slice ko' (n + 1) kc')) w') : wpList P ops Q (o :: rest) a w := by
  refine append_fl t e k hI hgd s x ho base n kc 1 1 ko (some ⟨g, 0, none⟩) xs [r] hs hown hx (.inr ⟨g, 0, rfl, fun i hi => ?_⟩) (Flat.one hrk h1) rfl (fun h => by cases h) (by omega) hb h
  have : i = 0 := by simp at hi; omega
  subst this
  intro j v hj
  simp only [Nat.zero_mul, Nat.zero_add, List.getElem_cons_zero] at hj ⊢
  simp [World.cell?, hg, hj]
end Go.Proofs.Ytliponaabgcceaa
