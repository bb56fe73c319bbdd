/-
  DiskSafe: what stays safe.
-/
import Derived.Test.YtaajdaikfabchaaReads
import Derived.Test.YtaajdaikfabchaaErases
import Derived.Test.YtaajdaikfabchaaAct
namespace Go.Proofs.Ytaajdaikfabchaa
open Go.RowKit
set_option linter.unusedVariables false

theorem get_safe {D : DS} {n : Nat} {j : Nat} (hj : j < n) (ht : (D.ns.getD j Sec.none).t = false) : D.get false n (j : Int) = (0, full (D.ns.getD j Sec.none).d.z) := by
  unfold DS.get
  rw [if_neg (by decide), if_pos ⟨by omega, by omega⟩, Int.toNat_natCast, ht]; rfl
/-- What a sector says. -/
def Sec.key (s : Sec) : List Int × Bool := (full s.d.z, s.t)
theorem getD_set_ne {ss : List Sec} {i j : Nat} {s : Sec} (h : i ≠ j) : (ss.set i s).getD j Sec.none = ss.getD j Sec.none := by
  rw [List.getD, List.getD, List.getElem?_set_ne h]
theorem getD_set_self {ss : List Sec} {i : Nat} {s : Sec} (h : i < ss.length) : (ss.set i s).getD i Sec.none = s := by
  rw [List.getD, List.getElem?_set_self h]; rfl
theorem safeAt_not {P : PP} {xs : List Wr} {ss : List Sec} {j : Nat} (h : ∀ x ∈ xs, x.i ≠ j) : ∀ k, (safeAt P xs ss k).getD j Sec.none = ss.getD j Sec.none := by
  intro k
  induction k with
  | zero => rfl
  | succ k ih =>
    unfold safeAt
    split
    · exact ih
    · next x hx =>
      have hne := h x (List.mem_of_getElem? hx)
      split
      · rw [getD_set_ne hne]; exact ih
      · split
        · rw [getD_set_ne hne]; exact ih
        · exact ih
theorem laidAt_not {xs : List Wr} {src ns : List Sec} {j : Nat} (h : ∀ x ∈ xs, x.i ≠ j) : ∀ k, (laidAt xs src ns k).getD j Sec.none = ns.getD j Sec.none := by
  intro k
  induction k with
  | zero => rfl
  | succ k ih =>
    unfold laidAt
    split
    · exact ih
    · next x hx => rw [getD_set_ne (h x (List.mem_of_getElem? hx))]; exact ih
theorem safeAt_len {P : PP} {xs : List Wr} {ss : List Sec} : ∀ k, (safeAt P xs ss k).length = ss.length := by
  intro k
  induction k with
  | zero => rfl
  | succ k ih =>
    unfold safeAt
    split
    · exact ih
    · split
      · rw [List.length_set]; exact ih
      · split
        · rw [List.length_set]; exact ih
        · exact ih
theorem laidAt_len {xs : List Wr} {src ns : List Sec} : ∀ k, (laidAt xs src ns k).length = ns.length := by
  intro k
  induction k with
  | zero => rfl
  | succ k ih =>
    unfold laidAt
    split
    · exact ih
    · rw [List.length_set]; exact ih
theorem laidAt_in {xs : List Wr} {src ns : List Sec} {j : Nat} (hj : j < ns.length) : ∀ k, (∃ q, q < k ∧ ∃ x, xs[q]? = some x ∧ x.i = j) → (laidAt xs src ns k).getD j Sec.none = src.getD j Sec.none := by
  intro k
  induction k with
  | zero => rintro ⟨q, hq, _⟩; omega
  | succ k ih =>
    rintro ⟨q, hq, x, hx, hxj⟩
    unfold laidAt
    split
    · next hn =>
      by_cases e : q = k
      · subst e; rw [hx] at hn; cases hn
      · exact ih ⟨q, by omega, x, hx, hxj⟩
    · next y hy =>
      by_cases e : y.i = j
      · subst e
        rw [getD_set_self (by rw [laidAt_len]; exact hj)]
      · rw [getD_set_ne e]
        by_cases e2 : q = k
        · subst e2
          rw [hx] at hy
          cases hy
          exact absurd hxj e
        · exact ih ⟨q, by omega, x, hx, hxj⟩

/-- The first m sectors are safe, and say Z. -/
structure Good (Z : Nat → List Int) (m : Nat) (D : DS) : Prop where
  n : ∀ j, j < m → (D.ns.getD j Sec.none).key = (Z j, false)
  s : ∀ j, j < m → (D.ss.getD j Sec.none).key = (Z j, false)
  x : ∀ x ∈ D.xs, 10 ≤ x.i
  m : m ≤ 10
theorem Good.wake {Z : Nat → List Int} {m : Nat} {D : DS} (h : Good Z m D) (P : PP) : Good Z m (D.wake P) := by
  unfold DS.wake
  split
  · exact h
  · split
    · exact h
    · have hm := h.m
      have hne : ∀ j, j < m → ∀ x ∈ D.xs, x.i ≠ j := fun j hj x hx => by have := h.x x hx; omega
      refine ⟨fun j hj => ?_, fun j hj => ?_, (fun x hx => by cases hx), hm⟩
      · show ((laidAt _ _ _ _).getD j Sec.none).key = _
        rw [laidAt_not (hne j hj)]; exact h.n j hj
      · show ((safeAt _ _ _ _).getD j Sec.none).key = _
        rw [safeAt_not (hne j hj)]; exact h.s j hj
theorem Good.put {Z : Nat → List Int} {m : Nat} {D : DS} (h : Good Z m D) {i : Nat} (hi : 10 ≤ i) (d : Part) : Good Z m (D.put i d) :=
  ⟨fun j hj => by
    have := h.m
    show ((D.ns.set i _).getD j Sec.none).key = _
    rw [getD_set_ne (by omega)]; exact h.n j hj, h.s, fun x hx => by
    rcases List.mem_append.1 hx with hx | hx
    · exact h.x x hx
    · obtain rfl := List.mem_singleton.1 hx
      exact hi, h.m⟩
theorem Good.sync {Z : Nat → List Int} {m : Nat} {D : DS} (h : Good Z m D) : Good Z m D.sync :=
  ⟨h.n, fun j hj => by
    have := h.m
    show ((laidAt _ _ _ _).getD j Sec.none).key = _
    rw [laidAt_not fun x hx => by have := h.x x hx; omega]; exact h.s j hj, (fun x hx => by cases hx), h.m⟩
theorem Good.syn {Z : Nat → List Int} {m : Nat} {D : DS} (h : Good Z m D) (P : PP) : Good Z m (D.syn P) := by
  unfold DS.syn
  split
  · exact h.wake P
  · split
    · exact (h.wake P).sync
    · exact h.wake P
/-- How many writes are open. -/
theorem xs_wake (D : DS) (P : PP) : (D.wake P).xs.length ≤ D.xs.length := by
  unfold DS.wake
  split
  · exact Nat.le_refl _
  · split
    · exact Nat.le_refl _
    · exact Nat.zero_le _
theorem xs_syn (D : DS) (P : PP) : (D.syn P).xs.length ≤ D.xs.length := by
  unfold DS.syn
  split
  · exact xs_wake D P
  · split
    · exact Nat.zero_le _
    · exact xs_wake D P
/-- What is read of a good disk. -/
theorem Good.get {Z : Nat → List Int} {m : Nat} {D : DS} (h : Good Z m D) {n j : Nat} (hj : j < m) (hn : j < n) : D.get false n (j : Int) = (0, Z j) := by
  have h1 := h.n j hj
  unfold Sec.key at h1
  simp only [Prod.mk.injEq] at h1
  rw [get_safe hn h1.2, h1.1]

/-- Before it is safe: the first q sectors say Z, each has a write that is open. -/
structure Pre (Z : Nat → List Int) (q : Nat) (D : DS) : Prop where
  n : ∀ j, j < q → (D.ns.getD j Sec.none).key = (Z j, false)
  x : ∀ j, j < q → ∃ (p : Nat) (x : Wr), D.xs[p]? = some x ∧ x.i = j
theorem Pre.put {Z : Nat → List Int} {q : Nat} {D : DS} (h : Pre Z q D) (hl : q < D.ns.length) {d : Part} (hd : full d.z = Z q) : Pre Z (q + 1) (D.put q d) :=
  ⟨fun j hj => by
    show ((D.ns.set q _).getD j Sec.none).key = _
    by_cases e : q = j
    · subst e; rw [getD_set_self hl]; unfold Sec.key; rw [hd]
    · rw [getD_set_ne e]; exact h.n j (by omega), fun j hj => by
    show ∃ (p : Nat) (x : Wr), (D.xs ++ [_])[p]? = some x ∧ x.i = j
    by_cases e : q = j
    · exact ⟨D.xs.length, ⟨q, d⟩, by simp, e⟩
    · obtain ⟨p, x, hx, hj'⟩ := h.x j (by omega)
      exact ⟨p, x, by rw [List.getElem?_append_left (List.getElem?_eq_some_iff.1 hx).1]; exact hx, hj'⟩⟩
theorem Pre.sync {Z : Nat → List Int} {m : Nat} {D : DS} (h : Pre Z m D) (hm : m ≤ 10) (hl : m ≤ D.ss.length) : Good Z m D.sync :=
  ⟨h.n, fun j hj => by
    obtain ⟨p, x, hx, hxj⟩ := h.x j hj
    show ((laidAt _ _ _ _).getD j Sec.none).key = _
    rw [laidAt_in (by omega) _ ⟨p, (List.getElem?_eq_some_iff.1 hx).1, x, hx, hxj⟩]
    exact h.n j hj, (fun x hx => by cases hx), hm⟩
theorem Sys.lens {w0 w : World} {B Bp g gp n : Nat} {D : DS} {P : PP} (h : Sys w0 w B Bp g gp n D P) : D.ns.length = n ∧ D.ss.length = n := by
  obtain ⟨gn, gs, oo, k, oc, h⟩ := h
  exact ⟨h.d.ln, h.d.ls⟩
theorem cut_off_ (P : PP) (k : List Bool) (t : Int) : (P.cut k t).off = true := by
  unfold PP.cut; split
  · assumption
  · rfl
theorem start_off_ (P : PP) : P.start.off = false := by
  unfold PP.start; split
  · rfl
  · next h => simpa using h
theorem cut_life (P : PP) (k : List Bool) (t : Int) : (P.cut k t).life = P.life := by unfold PP.cut; split <;> rfl
theorem trip_life (P : PP) (n : Int) (k : List Bool) (t : Int) : (P.trip n k t).life = P.life := by unfold PP.trip; split <;> rfl
theorem start_life (P : PP) : P.life ≤ P.start.life ∧ P.start.life ≤ P.life + 1 := by unfold PP.start; split <;> first | omega | (simp only; omega)
theorem spend_life (P : PP) : P.spend.life = P.life := by unfold PP.spend; split <;> (try rfl); split <;> (try rfl); split <;> rfl
theorem syn_life (P : PP) : P.syn.life = P.life := by unfold PP.syn; split <;> (try rfl); exact spend_life P

end Go.Proofs.Ytaajdaikfabchaa
