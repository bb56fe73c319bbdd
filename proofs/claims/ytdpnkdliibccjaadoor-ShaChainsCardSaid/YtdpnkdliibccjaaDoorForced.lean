/-
  A statement that draws its order, but where all that matters comes in one order.
-/
import Derived.Test.YtdpnkdliibccjaaDoorAlone
import Derived.StillTail
import Derived.Deep.RegionHeld3
namespace Go.Proofs.YtdpnkdliibccjaaDoor
open Go.RowKit
set_option linter.unusedVariables false

section
variable {P : Program} {ops : Array Oper} {Q : Exit → Act → World → Prop}
/-- From here on one order alone is left. -/
def forcedB (ops : Array Oper) : List Nat → Array Bool → Bool
  | [], L => (Region.ready .any ops L).isEmpty
  | i :: is, L => decide (Region.ready .any ops L = [i]) && forcedB ops is (L.setIfInBounds i true)
/-- These may be taken first, and then one order alone is left. -/
def freeB (ops : Array Oper) : List Nat → List Nat → Array Bool → Bool
  | [], fs, L => forcedB ops fs L
  | i :: is, fs, L => (Region.ready .any ops L).contains i && Region.free .any ops L i && freeB ops is fs (L.setIfInBounds i true)
/-- Each yields what it yields in whatever world. -/
def wpYields (P : Program) (ops : Array Oper) (K : Act → Prop) : List Oper → Act → Prop
  | [], a => K a
  | o :: l, a => ∃ v, Yields P ops o v a ∧ wpYields P ops K l (a.put o.dst v)

theorem any_forced : ∀ (is : List Nat) (l : List Oper) (L : Array Bool) (a : Act) (w : World), is.map (fun i => ops[i]?) = l.map some → forcedB ops is L = true → wpList P ops Q l a w → wpAny P .any ops Q is.length L a w
  | [], [], L, a, w, _, hB, h => ⟨by simpa [forcedB] using hB, h⟩
  | [], o :: l, L, a, w, hl, hB, h => by cases hl
  | i :: is, [], L, a, w, hl, hB, h => by cases hl
  | i :: is, o :: l, L, a, w, hl, hB, h => by
    simp only [List.map_cons, List.cons.injEq] at hl
    obtain ⟨h0, hl⟩ := hl
    simp only [forcedB, Bool.and_eq_true, decide_eq_true_eq] at hB
    refine ⟨fun h1 => (by rw [hB.1] at h1; cases h1), fun j hj => ?_⟩
    rw [hB.1] at hj
    have hik : j = i := by simpa using hj
    subst hik
    have hw : wpOp P ops Q j (wpList P ops Q l) a w := by unfold wpOp; simp only [h0]; exact h
    exact wpOp_mono (fun a' w' h' => any_forced is l _ a' w' hl hB.2 h') hw

theorem any_free (hsel : Region.noSelect ops = true) (hQ : ∀ c a d v w, Q (.panic c) (Act.put a d v) w → Q (.panic c) a w) {fs : List Nat} {lf : List Oper} {w : World} (hf : fs.map (fun i => ops[i]?) = lf.map some) :
    ∀ (ps : List Nat) (lp : List Oper) (L : Array Bool) (a : Act), ps.map (fun i => ops[i]?) = lp.map some → freeB ops ps fs L = true → wpYields P ops (fun a' => wpList P ops Q lf a' w) lp a → wpAny P .any ops Q (ps.length + fs.length) L a w
  | [], [], L, a, _, hB, h => by
    have := any_forced fs lf L a w hf hB h
    simpa using this
  | [], o :: l, L, a, hl, hB, h => by cases hl
  | i :: is, [], L, a, hl, hB, h => by cases hl
  | i :: is, o :: l, L, a, hl, hB, h => by
    simp only [List.map_cons, List.cons.injEq] at hl
    obtain ⟨h0, hl⟩ := hl
    simp only [freeB, Bool.and_eq_true] at hB
    obtain ⟨v, hy, h⟩ := h
    have := wpAny_take (P := P) (Q := Q) (fuel := is.length + fs.length) (w := w) h0 hsel hB.1.2 hB.1.1 (fun c a w => hQ c a _ _ w) hy (any_free hsel hQ hf is l _ _ hl hB.2 h)
    rw [show (i :: is).length + fs.length = is.length + fs.length + 1 by simp; omega]
    exact this

theorem wp_region_forced {id : Nat} (ps fs : List Nat) (lp lf : List Oper) (hm : P.follows .mixedOrders = true) (hsel : Region.noSelect ops = true) (hB : freeB ops ps fs (Array.replicate ops.size false) = true) (hn : ps.length + fs.length = ops.size)
    (hp : ps.map (fun i => ops[i]?) = lp.map some) (hf : fs.map (fun i => ops[i]?) = lf.map some) {a : Act} {w : World}
    (h : wpYields P ops (fun a' => wpList P ops (NoPanic Q) lf a' w.drew) lp a) : (Code.region id ops true).wp P Q a w := by
  refine wp_region_noPanic (wp_region_any hm ?_)
  have := any_free hsel (fun _ _ _ _ _ h => h) hf ps lp _ _ hp hB h
  rw [hn] at this
  exact this
end

theorem bts_flat_wb (ws : List (BitVec 32)) : Bts (ws.flatMap wb) := by
  induction ws with
  | nil => exact Bts.nil
  | cons x ws ih => rw [List.flatMap_cons]; exact Bts.append (wb_bts x) ih
theorem sha_bts (m : List Int) : Bts (shaOf m) := by
  unfold shaOf St.bytes
  exact bts_flat_wb _
theorem blk_part {w : World} {g : Nat} {m : List Int} (h : Blk w g 25 (shaV m)) : Part.ok w ⟨some ⟨g, 0, none⟩, 32, 32, shaOf m⟩ :=
  ⟨Rd.block h, sha_blen m, sha_bts m, by show 32 ≤ maxLen; unfold maxLen; omega, (fun h => by cases h), Nat.le_refl _, by show 32 ≤ maxLen; unfold maxLen; omega⟩
end Go.Proofs.YtdpnkdliibccjaaDoor
