/-
  The drive: rows that come in; what is told when the power trips.
-/
import Derived.Test.YtmcbmemgeegodaaDr7
import Derived.Test.YtmcbmemgeegodaaOpen
import Derived.IntWalk
namespace Go.Proofs.Ytmcbmemgeegodaa
open Go.RowKit
set_option linter.unusedVariables false

/-- THE PARTS ps LIE AT ao. -/
def Ps (w : World) (ao : Option Addr) (ps : List Part) : Prop :=
  ps = [] ∨ ∃ b o, ao = some ⟨b, o, none⟩ ∧ ∀ r, (h : r < ps.length) → w.cell? ⟨b, o + r, none⟩ = some (.slice ps[r].a ps[r].l ps[r].c) ∧ ps[r].ok w
theorem Ps.below {w w' : World} {ao : Option Addr} {ps : List Part} (h : Ps w ao ps) (hB : Below w.heap.size w w') : Ps w' ao ps := by
  rcases h with h | ⟨b, o, ha, hc⟩
  · exact .inl h
  · exact .inr ⟨b, o, ha, fun r hr => ⟨by rw [hB.cell (cell_lt (hc r hr).1)]; exact (hc r hr).1, (hc r hr).2.below hB⟩⟩
theorem Ps.at {w : World} {ao : Option Addr} {ps : List Part} (h : Ps w ao ps) {r : Nat} (hr : r < ps.length) : ∃ b o, ao = some ⟨b, o, none⟩ ∧ w.cell? ⟨b, o + r, none⟩ = some (.slice ps[r].a ps[r].l ps[r].c) ∧ ps[r].ok w := by
  rcases h with h | ⟨b, o, ha, hc⟩
  · rw [h] at hr; exact absurd hr (Nat.not_lt_zero _)
  · exact ⟨b, o, ha, (hc r hr).1, (hc r hr).2⟩
/-- A slice of slices of numbers. -/
def IsRows (k : IntKind) (w : World) (a : Option Addr) (len cap : Nat) (A : Nat → Option Addr) (L C : Nat → Nat) (Z : Nat → List Int) : Prop :=
  (a = none ∧ len = 0 ∧ cap = 0) ∨
  ∃ x, a = some x ∧ len ≤ cap ∧ cap ≤ maxLen ∧ ∀ r, r < cap → w.cell? (x.add r) = some (.slice (A r) (L r) (C r)) ∧ L r ≤ C r ∧ C r ≤ maxLen ∧ (Z r).length = C r ∧ (∀ n ∈ Z r, (Lit.int k n).wf = true) ∧
    (A r = none → C r = 0) ∧ ∀ a', A r = some a' → ∀ c, c < C r → w.cell? (a'.add c) = some (.int k ((Z r).getD c 0))
theorem IsRows.parts {w : World} {a : Option Addr} {len cap : Nat} {A : Nat → Option Addr} {L C : Nat → Nat} {Z : Nat → List Int} (h : IsRows .u8 w a len cap A L C Z) :
    ∃ ps : List Part, ps.length = len ∧ len ≤ maxLen ∧ Ps w a ps := by
  rcases h with ⟨rfl, rfl, rfl⟩ | ⟨x, rfl, h1, h2, h3⟩
  · exact ⟨[], rfl, Nat.zero_le _, .inl rfl⟩
  · refine ⟨(List.range len).map fun r => ⟨A r, L r, C r, (Z r).take (L r)⟩, by simp, Nat.le_trans h1 h2, ?_⟩
    by_cases h0 : len = 0
    · subst h0; exact .inl rfl
    · obtain ⟨b, o, spot⟩ := x
      have hspot : spot = none := by simpa [Addr.add] using World.cell?_spot (h3 0 (by omega)).1
      subst hspot
      refine .inr ⟨b, o, rfl, fun r hr => ?_⟩
      simp only [List.length_map, List.length_range] at hr
      obtain ⟨k1, k2, k3, k4, k5, k6, k7⟩ := h3 r (by omega)
      simp only [List.getElem_map, List.getElem_range]
      refine ⟨by rw [← Addr.add_lit]; exact k1, ?_, by simp; omega, (bts_of_wf k5).take _, Nat.le_trans k2 k3, k6, k2, k3⟩
      rcases ha : A r with _ | a'
      · exact .inl (by simp; have := k6 ha; omega)
      · exact rd_of_ints k4 k2 (fun i hi => k7 a' ha i (by omega))

theorem urem_at (a M : Int) (h : 0 < M) (hM : M ≤ 1000000000) : ∃ k : Nat, (k : Int) < M ∧ (IntKind.u64.wrap a).tmod M = k := by
  have h0 : 0 ≤ IntKind.u64.wrap a := by rw [IntKind.wrap_u64]; omega
  refine ⟨((IntKind.u64.wrap a) % M).toNat, ?_, ?_⟩
  · have := Int.emod_lt_of_pos (IntKind.u64.wrap a) h; have := Int.emod_nonneg (IntKind.u64.wrap a) (by omega : M ≠ 0); omega
  · rw [Int.tmod_eq_emod_of_nonneg h0]
    have h1 := Int.emod_lt_of_pos (IntKind.u64.wrap a) h; have h2 := Int.emod_nonneg (IntKind.u64.wrap a) (by omega : M ≠ 0)
    omega

theorem writeK_ok {p : Int} {ks : List Key} {k : Nat} {z : List Int} (hk : k ≤ ks.length) (hp : (k : Int) ≠ p) (h1 : 1 ≤ z.length) (h2 : z.length ≤ 256) : writeK p ks k z = (0, p, ks.take k ++ [(1, z, false)]) := by
  have hc : ce p ks.length k z.length = 0 := by unfold ce; rw [if_neg (by omega), if_neg (by omega), if_neg hp]
  unfold writeK
  rw [if_pos hc, Int.toNat_natCast]
theorem loc_first (p : Int) (ks : List Key) (a k : Nat) (hk : k ≤ ks.length) (hm : marks ks = 0) : TD.loc ⟨p, ks, a⟩ false 0 k = (0, k) := by
  unfold TD.loc
  simp only [Bool.false_eq_true, if_false, Int.toNat_zero, fileC_zero, Int.toNat_natCast, Nat.zero_add]
  rw [if_neg (by omega), if_neg (by decide), if_neg (by omega), if_neg (by rw [mkd_none _ _ _ hm]; decide)]
theorem wri_ok (p : Int) (ks : List Key) (k : Nat) (z : List Int) (hk : k ≤ ks.length) (hp : (k : Int) ≠ p) (h1 : 1 ≤ z.length) (h2 : z.length ≤ 256) : TD.wri ⟨p, ks, k⟩ PP.new z = (0, ⟨p, ks.take k ++ [(1, z, false)], k + 1⟩, PP.new) := by
  unfold TD.wri
  rw [if_neg (show ¬ PP.new.off = true by decide)]
  simp only
  rw [writeK_ok hk hp h1 h2, if_neg (show ¬ (0 : Int) ≠ 0 by decide), if_pos (show PP.new.spent = true by decide)]
  rfl
/-- A block that holds z. -/
def bk (z : List Int) : Key := (1, z, false)
theorem marks_bk (l : List Part) : marks (l.map fun p => bk p.z) = 0 := by
  unfold marks
  rw [List.length_eq_zero_iff, List.filter_eq_nil_iff]
  intro x hx
  obtain ⟨p, _, rfl⟩ := List.mem_map.1 hx
  exact (show ¬ (((1 : Int) == 2) = true) by decide)
/-- The power that goes at the next change. -/
def PT (torn : Int) : PP := ⟨false, 0, [], -1, 1, [], torn⟩
def PL (torn : Int) : PP := ⟨true, 0, [], torn, 0, [], 0⟩
theorem trip_new (torn : Int) : PP.new.trip 1 [] torn = PT torn := rfl
/-- What is on the tape then. -/
def left (torn : Int) (ks X : List Key) (k : Nat) : List Key := if torn < 0 then ks else ks.take k ++ X
theorem wri_torn (torn p : Int) (ks : List Key) (k : Nat) (z : List Int) (hk : k ≤ ks.length) (hp : (k : Int) ≠ p) (h1 : 1 ≤ z.length) (h2 : z.length ≤ 256) :
    TD.wri ⟨p, ks, k⟩ (PT torn) z = (5, ⟨p, left torn ks [(3, z.take torn.toNat, false)] k, k⟩, PL torn) := by
  unfold TD.wri
  rw [if_neg (show ¬ (PT torn).off = true from fun h => by cases h)]
  simp only
  rw [writeK_ok hk hp h1 h2, if_neg (show ¬ (0 : Int) ≠ 0 by decide), if_neg (show ¬ (PT torn).spent = true from fun h => by cases h)]
  have hs : (PT torn).spend = PL torn := rfl
  rw [hs, show (PL torn).torn = torn from rfl]
  have hc : ce p ks.length k z.length = 0 := by unfold ce; rw [if_neg (by omega), if_neg (by omega), if_neg hp]
  unfold tearK left
  rw [if_pos hc]
  by_cases h : torn < 0
  · rw [if_pos h, if_pos h]
  · rw [if_neg h, if_neg h, Int.toNat_natCast]
theorem lays_torn (torn : Int) : (PT torn).lays = decide (0 ≤ torn) := by
  unfold PP.lays
  rw [show (PT torn).spent = false from rfl, show (PT torn).spend.torn = torn from rfl, Bool.false_or]
theorem mark_torn (torn p : Int) (ks : List Key) (k : Nat) (hk : k ≤ ks.length) (hp : (k : Int) ≠ p) :
    TD.mark ⟨p, ks, k⟩ (PT torn) = (5, ⟨p, left torn ks [(2, [], false)] k, k⟩, PL torn) := by
  have hm : markK p ks k = (0, p, ks.take k ++ [(2, [], false)]) := by
    unfold markK
    rw [if_pos (by omega), if_neg hp, Int.toNat_natCast]
  unfold TD.mark
  rw [if_neg (show ¬ (PT torn).off = true from fun h => by cases h)]
  simp only
  rw [hm, if_neg (show ¬ (0 : Int) ≠ 0 by decide), if_neg (show ¬ (PT torn).spent = true from fun h => by cases h), lays_torn, show (PT torn).spend = PL torn from rfl]
  unfold left
  by_cases h : torn < 0
  · rw [if_pos h, if_neg (by simp; omega)]
  · rw [if_neg h, if_pos (by simp; omega)]
theorem fin_torn (torn p : Int) (ks : List Key) (k : Nat) (hk : k ≤ ks.length) :
    TD.fin ⟨p, ks, k⟩ (PT torn) = (5, ⟨p, left torn ks [] k, k⟩, PL torn) := by
  have hm : endK p ks k = (0, p, ks.take k) := by
    unfold endK; rw [if_pos (by omega), Int.toNat_natCast]
  unfold TD.fin
  rw [if_neg (show ¬ (PT torn).off = true from fun h => by cases h)]
  simp only
  rw [hm, if_neg (show ¬ (0 : Int) ≠ 0 by decide), if_neg (show ¬ (PT torn).spent = true from fun h => by cases h), lays_torn, show (PT torn).spend = PL torn from rfl]
  unfold left
  by_cases h : torn < 0
  · rw [if_pos h, if_neg (by simp; omega)]
  · rw [if_neg h, if_pos (by simp; omega), List.append_nil]
theorem left_at {torn : Int} {ks X : List Key} {k i : Nat} (hk : k ≤ ks.length) (hi : i < k) : (left torn ks X k)[i]? = ks[i]? := by
  unfold left
  split
  · rfl
  · rw [List.getElem?_append_left (by rw [List.length_take]; omega), List.getElem?_take, if_pos hi]
theorem left_len {torn : Int} {ks X : List Key} {k : Nat} (hk : k ≤ ks.length) : k ≤ (left torn ks X k).length := by
  unfold left
  split
  · exact hk
  · rw [List.length_append, List.length_take]; omega
end Go.Proofs.Ytmcbmemgeegodaa
