/-
  A statement whose order is open, operation by operation: whatever has come up left what it says, and goes on to say it.
-/
import Derived.Test.YtmbkgjiofkggcaaDoorProg
import Derived.Orders
import Derived.WalkKit
namespace Go.Proofs.YtmbkgjiofkggcaaDoor
open Go.RowKit
set_option linter.unusedVariables false

/-- One value more. -/
def setAt (v : Nat → Value) (i : Nat) (u : Value) : Nat → Value := fun j => if j = i then u else v j

theorem getD_setAt (listed : Array Bool) (i j : Nat) (hi : i < listed.size) : (listed.setIfInBounds i true).getD j false = if j = i then true else listed.getD j false := by
  rw [Array.getD_eq_getD_getElem?, Array.getD_eq_getD_getElem?, Array.getElem?_setIfInBounds]
  by_cases e : j = i
  · subst e; simp [hi]
  · rw [if_neg (Ne.symm e), if_neg e]
theorem getD_bool (listed : Array Bool) (i : Nat) (hi : i < listed.size) (b c : Bool) : listed.getD i b = listed.getD i c := by
  rw [Array.getD_eq_getD_getElem?, Array.getD_eq_getD_getElem?, Array.getElem?_eq_getElem hi]; rfl

section
variable {P : Program} {ops : Array Oper} {Q : Exit → Act → World → Prop} {F : (Nat → Value) → Act} {S : World → Prop} {J : Nat → Value → World → Prop} {R : World → World → Prop}

theorem ready_nil_all {listed : Array Bool} (hac : ∀ (i : Nat) (o : Oper), ops[i]? = some o → ∀ e ∈ o.after, Region.binds .any e = true → e.on < i) (hs : listed.size = ops.size) (h : Region.ready .any ops listed = []) : ∀ i, i < ops.size → listed.getD i false = true := by
  intro i
  induction i using Nat.strongRecOn with
  | _ i ih =>
    intro hi
    by_cases hl : listed.getD i false = true
    · exact hl
    · have hin : i ∈ Region.ready .any ops listed := by
        refine mem_ready.2 ⟨?_, ops[i], by simp [hi], fun e he hb => ?_⟩
        · rw [getD_bool listed i (by omega) true false]; simpa using hl
        · exact ih e.on (hac i ops[i] (by simp [hi]) e he hb) (Nat.lt_trans (hac i ops[i] (by simp [hi]) e he hb) hi)
      rw [h] at hin; cases hin

/-- How many have not come up. -/
def left (n : Nat) (listed : Array Bool) : Nat := ((List.range n).filter fun i => !listed.getD i false).length

theorem left_set {n i : Nat} {listed : Array Bool} (hn : i < n) (hs : listed.size = n) (hl : listed.getD i false = false) : left n (listed.setIfInBounds i true) < left n listed := by
  unfold left
  have hsub : ((List.range n).filter fun j => !(listed.setIfInBounds i true).getD j false).Sublist ((List.range n).filter fun j => !listed.getD j false) := by
    have : ((List.range n).filter fun j => !(listed.setIfInBounds i true).getD j false) = ((List.range n).filter fun j => !listed.getD j false).filter fun j => !(listed.setIfInBounds i true).getD j false := by
      rw [List.filter_filter]
      refine List.filter_congr fun j _ => ?_
      rw [getD_setAt listed i j (by omega)]
      by_cases e : j = i
      · subst e; simp
      · rw [if_neg e]; simp
    rw [this]; exact List.filter_sublist
  rcases Nat.lt_or_ge ((List.range n).filter fun j => !(listed.setIfInBounds i true).getD j false).length ((List.range n).filter fun j => !listed.getD j false).length with h | h
  · exact h
  · have he := hsub.eq_of_length_le h
    have hin : i ∈ (List.range n).filter fun j => !listed.getD j false := List.mem_filter.2 ⟨List.mem_range.2 hn, by rw [hl]; rfl⟩
    rw [← he] at hin
    have := (List.mem_filter.1 hin).2
    rw [getD_setAt listed i i (by omega), if_pos rfl] at this
    cases this

theorem any_of (hac : ∀ (i : Nat) (o : Oper), ops[i]? = some o → ∀ e ∈ o.after, Region.binds .any e = true → e.on < i)
    (hput : ∀ (i : Nat) (o : Oper), ops[i]? = some o → ∀ v u, (F v).put o.dst u = F (setAt v i u))
    (hmono : ∀ j v w w', R w w' → J j v w → J j v w')
    (hstep : ∀ (i : Nat) (o : Oper), ops[i]? = some o → ∀ v w, S w → (∀ e ∈ o.after, Region.binds .any e = true → J e.on (v e.on) w) → wpOp P ops Q i (fun a' w' => ∃ u, a' = (F v).put o.dst u ∧ S w' ∧ R w w' ∧ J i u w') (F v) w)
    (hend : ∀ v w, S w → (∀ i, i < ops.size → J i (v i) w) → Q .normal (F v) w) :
    ∀ (fuel : Nat) (listed : Array Bool) (v : Nat → Value) (w : World), listed.size = ops.size → left ops.size listed ≤ fuel → S w → (∀ i, listed.getD i false = true → J i (v i) w) → wpAny P .any ops Q fuel listed (F v) w := by
  intro fuel
  induction fuel with
  | zero =>
    intro listed v w hs hf hS hJ
    have hall : ∀ i, i < ops.size → listed.getD i false = true := by
      intro i hi
      by_cases hl : listed.getD i false = true
      · exact hl
      · exact absurd (Nat.lt_of_lt_of_le (left_set hi hs (by simpa using hl)) hf) (Nat.not_lt_zero _)
    refine ⟨?_, hend v w hS fun i hi => hJ i (hall i hi)⟩
    by_cases hr : Region.ready .any ops listed = []
    · exact hr
    · obtain ⟨i, hi⟩ := List.exists_mem_of_ne_nil _ hr
      obtain ⟨h1, o, ho, _⟩ := mem_ready.1 hi
      have hi' : i < ops.size := (Array.getElem?_eq_some_iff.1 ho).1
      have := hall i hi'
      rw [getD_bool listed i (by omega) true false] at h1
      rw [this] at h1; cases h1
  | succ fuel ih =>
    intro listed v w hs hf hS hJ
    refine ⟨fun hr => hend v w hS fun i hi => hJ i (ready_nil_all hac hs hr i hi), fun i hi => ?_⟩
    obtain ⟨h1, o, ho, hdep⟩ := mem_ready.1 hi
    have hi' : i < ops.size := (Array.getElem?_eq_some_iff.1 ho).1
    rw [getD_bool listed i (by omega) true false] at h1
    refine wpOp_mono ?_ (hstep i o ho v w hS fun e he hb => hJ e.on (hdep e he hb))
    rintro a' w' ⟨u, rfl, hS', hR, hJi⟩
    rw [hput i o ho v u]
    refine ih _ _ _ (by simp [hs]) (by have := left_set hi' hs h1; omega) hS' fun j hj => ?_
    by_cases e : j = i
    · subst e; simpa [setAt] using hJi
    · have hj' : listed.getD j false = true := by
        rw [getD_setAt listed i j (by omega), if_neg e] at hj; exact hj
      simp only [setAt, if_neg e]
      exact hmono j _ w w' hR (hJ j hj')

/-- A REGION THAT DRAWS ITS ORDER. -/
theorem wp_region_each {id : Nat} (hm : P.follows .mixedOrders = true) (hac : ∀ (i : Nat) (o : Oper), ops[i]? = some o → ∀ e ∈ o.after, Region.binds .any e = true → e.on < i)
    (hput : ∀ (i : Nat) (o : Oper), ops[i]? = some o → ∀ v u, (F v).put o.dst u = F (setAt v i u))
    (hmono : ∀ j v w w', R w w' → J j v w → J j v w')
    (hstep : ∀ (i : Nat) (o : Oper), ops[i]? = some o → ∀ v w, S w → (∀ e ∈ o.after, Region.binds .any e = true → J e.on (v e.on) w) → wpOp P ops Q i (fun a' w' => ∃ u, a' = (F v).put o.dst u ∧ S w' ∧ R w w' ∧ J i u w') (F v) w)
    (hend : ∀ v w, S w → (∀ i, i < ops.size → J i (v i) w) → Q .normal (F v) w) (v0 : Nat → Value) {w : World} (hS : S w.drew) : (Code.region id ops true).wp P Q (F v0) w :=
  wp_region_any hm (any_of hac hput hmono hstep hend ops.size _ v0 w.drew (by simp) (by
    unfold left
    refine Nat.le_trans (List.length_filter_le _ _) (by simp)) hS fun i hi => by
      rcases Nat.lt_or_ge i ops.size with h | h
      · simp [Array.getD, h] at hi
      · simp [Array.getD, Nat.not_lt.2 h] at hi)

theorem each_of {i : Nat} {o : Oper} {a : Act} {w : World} {K : Act → World → Prop} (hi : ops[i]? = some o) (hw : Region.wanted o (yielded ops a.tmps) = true) (h : o.wp P a w K Q) : wpOp P ops Q i K a w := by
  unfold wpOp
  simp only [hi, hw, if_true]
  exact .inl h
/-- An operation that yields a value. -/
theorem each_value {i : Nat} {o : Oper} {a : Act} {w w' : World} {u : Value} {K : Act → World → Prop} (hi : ops[i]? = some o) (hw : Region.wanted o (yielded ops a.tmps) = true) (hrun : (execOp a.eval o).run P w = .ok (.value u) w') (h : K (a.put o.dst u) w') : wpOp P ops Q i K a w := by
  refine each_of hi hw ?_
  unfold Oper.wp
  rw [hrun]
  exact h
/-- A call. -/
theorem each_call {i : Nat} {o : Oper} {a : Act} {w : World} {f : Nat} {args : Array Value} {post : Ending → World → Prop} {K : Act → World → Prop} (hi : ops[i]? = some o) (hw : Region.wanted o (yielded ops a.tmps) = true) (hrun : (execOp a.eval o).run P w = .ok (.enter f args) w) (hc : Calls P f args w post)
    (h : ∀ e w', post e w' → ∃ u, e = .returned u ∧ K (a.put o.dst u) w') : wpOp P ops Q i K a w := by
  refine each_of hi hw ?_
  unfold Oper.wp
  rw [hrun]
  refine Calls.mono hc fun e w' he => ?_
  obtain ⟨u, rfl, hk⟩ := h e w' he
  exact hk
end

end Go.Proofs.YtmbkgjiofkggcaaDoor
