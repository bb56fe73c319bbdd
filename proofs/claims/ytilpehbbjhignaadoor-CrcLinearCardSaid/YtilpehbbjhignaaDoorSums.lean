/-
  The sum of parts that lie side by side in a row just made, in whatever world has its cells.
-/
import Derived.Test.YtilpehbbjhignaaDoorFlat
import Derived.Test.YtilpehbbjhignaaDoorUnlike
namespace Go.Proofs.YtilpehbbjhignaaDoor
open Go.RowKit
set_option linter.unusedVariables false

theorem Tab.congr {V W : World} (h : Tab W) (hc : ∀ a, V.cell? a = W.cell? a) : Tab V := fun k hk => by rw [hc]; exact h k hk
theorem Rd.congr {V W : World} {ao : Option Addr} {zs : List Int} (h : Rd W ao zs) (hc : ∀ a, V.cell? a = W.cell? a) : Rd V ao zs := by
  rcases h with h | ⟨b, o, ha, hr⟩
  · exact .inl h
  · exact .inr ⟨b, o, ha, fun j hj => by rw [hc]; exact hr j hj⟩
theorem Part.ok.congr {V W : World} {p : Part} (h : p.ok W) (hc : ∀ a, V.cell? a = W.cell? a) : p.ok V := ⟨h.rd.congr hc, h.len, h.bts, h.small, h.nil⟩
theorem Ps.congr {V W : World} {ao : Option Addr} {ps : List Part} (h : Ps W ao ps) (hc : ∀ a, V.cell? a = W.cell? a) : Ps V ao ps := by
  rcases h with h | ⟨b, o, ha, hr⟩
  · exact .inl h
  · exact .inr ⟨b, o, ha, fun r hr' => ⟨by rw [hc]; exact (hr r hr').1, (hr r hr').2.congr hc⟩⟩

theorem sum_side (W : World) (ps : List Part) (n g : Nat) (C : Array Value) (s : Int) (hs : s = ((sumOf (flat ps)).toNat : Int)) (hC : C = (ps.map Part.v).toArray) (hn : ps.length = n) (hg : g = W.heap.size) (hm : n ≤ maxLen) (hT : Tab W) (h : ∀ p ∈ ps, p.ok W)
    (V : World) (hV : ∀ a, V.cell? a = (W.alloc (.cells C 25)).cell? a) :
    Calls Tryd.prog 11 #[.slice (some ⟨g, 0, none⟩) n n] V fun e w' => e = .returned (.int .u32 s) ∧ V = w' := by
  subst hC; subst hg; subst hs
  exact sum_any _ n n ps V hn hm ((hT.below ((Below.refl _ _).alloc (Nat.le_refl _) _)).congr hV) ((ps_new W ps 25 (fun r hr => h _ (List.getElem_mem hr))).congr hV)

theorem Part.ok.take {w : World} {a : Option Addr} {n c : Nat} {z : List Int} (h : Part.ok w ⟨a, n, c, z⟩) (k : Nat) (hk : k ≤ n) : Part.ok w ⟨a, k, c, z.take k⟩ :=
  ⟨h.rd.take k, by have := h.len; simp at this ⊢; omega, h.bts.take k, Nat.le_trans hk h.small, h.nil⟩
theorem Part.ok.drop {w : World} {b o n c k : Nat} {z : List Int} (h : Part.ok w ⟨some ⟨b, o, none⟩, n, c, z⟩) (c' : Nat) (hk : k ≤ n) : Part.ok w ⟨some ⟨b, o + k, none⟩, n - k, c', z.drop k⟩ :=
  ⟨h.rd.drop k, by have := h.len; simp at this ⊢; omega, h.bts.drop k, Nat.le_trans (Nat.sub_le _ _) h.small, fun h => by cases h⟩
theorem Part.ok.empty (w : World) (a : Option Addr) (c : Nat) (h : a = none → c = 0) : Part.ok w ⟨a, 0, c, []⟩ := ⟨Rd.nil _ _, rfl, Bts.nil, Nat.zero_le _, h⟩
/-- What is left from k on: at the end of its room a slice keeps its address. -/
theorem Part.ok.rest {w : World} {b n c k : Nat} {z : List Int} (h : Part.ok w ⟨some ⟨b, 0, none⟩, n, c, z⟩) (hk : k ≤ n) (hc : n ≤ c) : Part.ok w ⟨if c = k then some ⟨b, 0, none⟩ else some ⟨b, k, none⟩, n - k, c - k, z.drop k⟩ := by
  by_cases e : c = k
  · rw [if_pos e]
    have hz : z.drop k = [] := List.drop_of_length_le (by have := h.len; simp at this; omega)
    have hn : n - k = 0 := by omega
    rw [hz, hn]
    exact Part.ok.empty _ _ _ (fun h => by cases h)
  · rw [if_neg e]
    have := h.drop (c - k) hk
    rwa [Nat.zero_add] at this

end Go.Proofs.YtilpehbbjhignaaDoor
