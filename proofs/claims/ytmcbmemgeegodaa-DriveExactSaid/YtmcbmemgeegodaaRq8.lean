/-
  Both drives in one world.
-/
import Derived.Test.YtmcbmemgeegodaaRq6
import Derived.Test.YtmcbmemgeegodaaRq7
namespace Go.Proofs.Ytmcbmemgeegodaa
open Go.RowKit
set_option linter.unusedVariables false

theorem Esy.turn {S : Nat → Bool} {w0 w w' : World} {base Bp g gp : Nat} {T : TD} {P : PP} (h : Esy w0 w base Bp g gp T P) (hk : KT S none w w') (h41 : S 41 = false) (h62 : S 62 = false) (h5 : S 5 = false) (h80 : S 80 = false) (h4 : S 4 = false) : Esy w' w' base Bp g gp T P := by
  obtain ⟨ko, n, kc, cs, h⟩ := h
  exact ⟨ko, n, kc, cs, ⟨hk.keep _ _ _ _ (fun e => by cases e) h41 h.d.blk, h.d.own.kt hk h62 h5, h.d.low.1, h.d.low.2.1, Nat.le_trans h.d.low.2.2 hk.size⟩, h.ks, h.good, h.at_, h.pw.kt hk h80 h4 (fun _ e => by cases e), Below.refl _ _, KT.refl _ _ _⟩
theorem Dsy.turn {S : Nat → Bool} {w0 w w' : World} {base Bp g gp : Nat} {T : TD} {P : PP} (h : Dsy w0 w base Bp g gp T P) (hk : KT S none w w') (h84 : S 84 = false) (h62 : S 62 = false) (h5 : S 5 = false) (h78 : S 78 = false) (h4 : S 4 = false) : Dsy w' w' base Bp g gp T P := by
  obtain ⟨ko, n, kc, cs, h⟩ := h
  exact ⟨ko, n, kc, cs, ⟨hk.keep _ _ _ _ (fun e => by cases e) h84 h.d.blk, h.d.own.kt hk h62 h5, h.d.low.1, h.d.low.2.1, Nat.le_trans h.d.low.2.2 hk.size⟩, h.ks, h.good, h.at_, h.pw.kt hk h78 h4 (fun _ e => by cases e), Below.refl _ _, KT.refl _ _ _⟩
/-- Both, from base on, since w0. -/
structure EM (w0 w : World) (base Bp g gp g2 gp2 : Nat) (T R : TD) (P Q : PP) : Prop where
  a : Dsy w w base Bp g gp T P
  b : Esy w w base Bp g2 gp2 R Q
  bel : Below base w0 w
  bp : Bp ≤ w.heap.size
section
variable {w0 w w' : World} {base Bp g gp g2 gp2 : Nat} {T T' R R' : TD} {P P' Q Q' : PP}
theorem EM.stepA (h : EM w0 w base Bp g gp g2 gp2 T R P Q) (hs : Dsy w w' base Bp g gp T' P') : EM w0 w' base Bp g gp g2 gp2 T' R P' Q :=
  ⟨hs.refl, h.b.turn hs.kt rfl rfl rfl rfl rfl, h.bel.trans hs.bel, Nat.le_trans h.bp hs.kt.size⟩
theorem EM.stepB (h : EM w0 w base Bp g gp g2 gp2 T R P Q) (hs : Esy w w' base Bp g2 gp2 R' Q') : EM w0 w' base Bp g gp g2 gp2 T R' P Q' :=
  ⟨h.a.turn hs.kt rfl rfl rfl rfl rfl, hs.refl, h.bel.trans hs.bel, Nat.le_trans h.bp hs.kt.size⟩
theorem EM.below (h : EM w0 w base Bp g gp g2 gp2 T R P Q) (hB : Below w.heap.size w w') (hb : base ≤ w.heap.size) : EM w0 w' base Bp g gp g2 gp2 T R P Q :=
  ⟨(h.a.below hB).refl, (h.b.below hB).refl, h.bel.trans (hB.mono hb), Nat.le_trans h.bp hB.size⟩
/-- Its power is turned. -/
theorem EM.powA (h : EM w0 w base Bp g gp g2 gp2 T R P Q) (hp : PwM w' Bp gp P') (hB : Below gp w w') (ho : POn gp w w') : EM w0 w' base Bp g gp g2 gp2 T R P' Q := h.stepA (h.a.spend hp hB ho)
theorem EM.powB (h : EM w0 w base Bp g gp g2 gp2 T R P Q) (hp : PqM w' Bp gp2 Q') (hB : Below gp2 w w') (ho : POn gp2 w w') : EM w0 w' base Bp g gp g2 gp2 T R P Q' := h.stepB (h.b.spend hp hB ho)
end
end Go.Proofs.Ytmcbmemgeegodaa
