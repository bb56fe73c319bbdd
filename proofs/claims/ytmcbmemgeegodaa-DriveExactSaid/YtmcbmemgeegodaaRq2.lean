/-
  The document's drive in memory.
-/
import Derived.Test.YtmcbmemgeegodaaRq1
namespace Go.Proofs.Ytmcbmemgeegodaa
open Go.RowKit
set_option linter.unusedVariables false

/-- The kinds of blocks that the drive writes. -/
def KQ (t : Nat) : Bool := t == 80 || t == 41
/-- The drive in memory. -/
structure EqB (w : World) (base g gp : Nat) (p : Int) (ko : Option Addr) (n kc : Nat) (cs : List Cel) (at_ : Int) : Prop where
  blk : w.heap[g]? = some (.cells #[.pointer (some ⟨gp, 0, none⟩), .int .i64 p, .slice ko n kc, .int .i64 at_] 41 (0, 0))
  own : OCs w base ko n kc cs
  low : base ≤ g ∧ base ≤ gp ∧ base ≤ w.heap.size
/-- It and its power. -/
structure Ey (w0 w : World) (base Bp g gp : Nat) (ko : Option Addr) (n kc : Nat) (cs : List Cel) (T : TD) (P : PP) : Prop where
  d : EqB w base g gp T.p ko n kc cs T.at_
  ks : keys cs = T.ks
  good : goodK T.p T.ks = true
  at_ : T.at_ ≤ n
  pw : PqM w Bp gp P
  bel : Below base w0 w
  kt : KT KQ none w0 w
section
variable {w0 w w' : World} {base Bp g gp : Nat} {ko : Option Addr} {n kc : Nat} {cs : List Cel} {T : TD} {P : PP}
theorem EqB.c {p at_ : Int} (h : EqB w base g gp p ko n kc cs at_) : w.cell? ⟨g, 0, none⟩ = some (.pointer (some ⟨gp, 0, none⟩)) ∧ w.cell? ⟨g, 1, none⟩ = some (.int .i64 p) ∧ w.cell? ⟨g, 2, none⟩ = some (.slice ko n kc) ∧ w.cell? ⟨g, 3, none⟩ = some (.int .i64 at_) ∧ (∀ i, w.frozen? ⟨g, i, none⟩ = false) :=
  ⟨by rw [Joins.cell_of_block h.blk]; rfl, by rw [Joins.cell_of_block h.blk]; rfl, by rw [Joins.cell_of_block h.blk]; rfl, by rw [Joins.cell_of_block h.blk]; rfl, fun i => Joins.unfrozen_of_block h.blk i⟩
theorem Ey.tap (h : Ey w0 w base Bp g gp ko n kc cs T P) : Tap.ok w ⟨T.p, ko, n, kc, cs⟩ := h.d.own.tap T.p
theorem Ey.len (h : Ey w0 w base Bp g gp ko n kc cs T P) : T.ks.length = n := by rw [← h.ks, keys_len]; exact h.d.own.len
theorem Ey.below (h : Ey w0 w base Bp g gp ko n kc cs T P) (hB : Below w.heap.size w w') : Ey w0 w' base Bp g gp ko n kc cs T P :=
  ⟨⟨(KT.below (fun _ => false) none hB).keep _ _ _ _ (fun e => by cases e) rfl h.d.blk, h.d.own.below hB, ⟨h.d.low.1, h.d.low.2.1, Nat.le_trans h.d.low.2.2 hB.size⟩⟩, h.ks, h.good, h.at_, h.pw.below hB, h.bel.trans (hB.mono h.d.low.2.2), h.kt.trans (KT.below _ _ hB)⟩
theorem Ey.refl (h : Ey w0 w base Bp g gp ko n kc cs T P) : Ey w w base Bp g gp ko n kc cs T P := ⟨h.d, h.ks, h.good, h.at_, h.pw, Below.refl _ _, KT.refl _ _ _⟩
theorem Ey.spend {P' : PP} (h : Ey w0 w base Bp g gp ko n kc cs T P) (hp : PqM w' Bp gp P') (hB : Below gp w w') (ho : POn gp w w') : Ey w0 w' base Bp g gp ko n kc cs T P' := by
  obtain ⟨cp, hcp⟩ := h.pw.blk
  have hk : KT (fun t => t == 80) none w w' := KT.pon hcp rfl hB.size ho
  exact ⟨⟨hk.keep _ _ _ _ (fun e => by cases e) rfl h.d.blk, h.d.own.kt hk rfl rfl, ⟨h.d.low.1, h.d.low.2.1, Nat.le_trans h.d.low.2.2 hB.size⟩⟩, h.ks, h.good, h.at_, hp, h.bel.trans (hB.mono h.d.low.2.1), h.kt.trans (hk.mono fun t ht => by unfold KQ at ht; simp at ht ⊢; exact ht.1)⟩
/-- The place is set. -/
theorem Ey.setAt (h : Ey w0 w base Bp g gp ko n kc cs T P) {a : Nat} (ha : a ≤ n) : Ey w0 (w.setCell ⟨g, 3, none⟩ (.int .i64 (a : Int))) base Bp g gp ko n kc cs ⟨T.p, T.ks, a⟩ P := by
  have hb := h.d.blk
  have hk : KT (fun t => t == 41) none w (w.setCell ⟨g, 3, none⟩ (.int .i64 (a : Int))) := KT.set hb rfl _ _
  refine ⟨⟨?_, h.d.own.kt hk rfl rfl, ⟨h.d.low.1, h.d.low.2.1, Nat.le_trans h.d.low.2.2 hk.size⟩⟩, h.ks, h.good, ha, h.pw.kt hk rfl rfl (fun _ e => by cases e), h.bel.setCell h.d.low.1 _, h.kt.trans (hk.mono fun t ht => by unfold KQ at ht; simp at ht ⊢; exact ht.2)⟩
  have := Joins.block_setCell (i := 3) hb (.int .i64 (a : Int))
  simpa using this
/-- Another tape is laid in. -/
theorem Ey.setTape {ko' : Option Addr} {n' kc' : Nat} {cs' : List Cel} {p' : Int} {ks' : List Key} (h : Ey w0 w base Bp g gp ko n kc cs T P) (ho : OCs w base ko' n' kc' cs') (hk' : keys cs' = ks') (hg' : goodK p' ks' = true) (ha : T.at_ ≤ n') : Ey w0 ((w.setCell ⟨g, 1, none⟩ (.int .i64 p')).setCell ⟨g, 2, none⟩ (.slice ko' n' kc')) base Bp g gp ko' n' kc' cs' ⟨p', ks', T.at_⟩ P := by
  have hb := h.d.blk
  have hk1 : KT (fun t => t == 41) none w (w.setCell ⟨g, 1, none⟩ (.int .i64 p')) := KT.set hb rfl _ _
  have hb1 := Joins.block_setCell (i := 1) hb (.int .i64 p')
  have hk : KT (fun t => t == 41) none w ((w.setCell ⟨g, 1, none⟩ (.int .i64 p')).setCell ⟨g, 2, none⟩ (.slice ko' n' kc')) := hk1.trans (KT.set hb1 rfl _ _)
  have hb2 := Joins.block_setCell (i := 2) hb1 (.slice ko' n' kc')
  refine ⟨⟨?_, ho.kt hk rfl rfl, ⟨h.d.low.1, h.d.low.2.1, Nat.le_trans h.d.low.2.2 hk.size⟩⟩, hk', hg', ha, h.pw.kt hk rfl rfl (fun _ e => by cases e), (h.bel.setCell h.d.low.1 _).setCell h.d.low.1 _, h.kt.trans (hk.mono fun t ht => by unfold KQ at ht; simp at ht ⊢; exact ht.2)⟩
  simpa using hb2
end
/-- Its parts are there, whichever. -/
def Esy (w0 w : World) (base Bp g gp : Nat) (T : TD) (P : PP) : Prop := ∃ ko n kc cs, Ey w0 w base Bp g gp ko n kc cs T P
section
variable {w0 w w' : World} {base Bp g gp : Nat} {T T' : TD} {P P' : PP}
theorem Esy.below (h : Esy w0 w base Bp g gp T P) (hB : Below w.heap.size w w') : Esy w0 w' base Bp g gp T P := by
  obtain ⟨ko, n, kc, cs, h⟩ := h
  exact ⟨ko, n, kc, cs, h.below hB⟩
theorem Esy.refl (h : Esy w0 w base Bp g gp T P) : Esy w w base Bp g gp T P := by
  obtain ⟨ko, n, kc, cs, h⟩ := h
  exact ⟨ko, n, kc, cs, h.refl⟩
theorem Esy.bel (h : Esy w0 w base Bp g gp T P) : Below base w0 w := by
  obtain ⟨ko, n, kc, cs, h⟩ := h
  exact h.bel
theorem Esy.kt (h : Esy w0 w base Bp g gp T P) : KT KQ none w0 w := by
  obtain ⟨ko, n, kc, cs, h⟩ := h
  exact h.kt
theorem Esy.pw (h : Esy w0 w base Bp g gp T P) : PqM w Bp gp P := by
  obtain ⟨ko, n, kc, cs, h⟩ := h
  exact h.pw
theorem Esy.good (h : Esy w0 w base Bp g gp T P) : goodK T.p T.ks = true ∧ T.at_ ≤ T.ks.length := by
  obtain ⟨ko, n, kc, cs, h⟩ := h
  exact ⟨h.good, by rw [h.len]; exact h.at_⟩
theorem Esy.trans (h : Esy w0 w base Bp g gp T P) (h' : Esy w w' base Bp g gp T' P') : Esy w0 w' base Bp g gp T' P' := by
  obtain ⟨ko, n, kc, cs, h'⟩ := h'
  exact ⟨ko, n, kc, cs, h'.d, h'.ks, h'.good, h'.at_, h'.pw, h.bel.trans h'.bel, h.kt.trans h'.kt⟩
theorem Esy.spend (h : Esy w0 w base Bp g gp T P) (hp : PqM w' Bp gp P') (hB : Below gp w w') (ho : POn gp w w') : Esy w0 w' base Bp g gp T P' := by
  obtain ⟨ko, n, kc, cs, h⟩ := h
  exact ⟨ko, n, kc, cs, h.spend hp hB ho⟩
end


end Go.Proofs.Ytmcbmemgeegodaa
