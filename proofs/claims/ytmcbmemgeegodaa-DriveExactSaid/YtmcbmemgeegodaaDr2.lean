/-
  The drive in memory; what stays.
-/
import Derived.Test.YtmcbmemgeegodaaDr1
import Derived.Test.YtmcbmemgeegodaaPow
namespace Go.Proofs.Ytmcbmemgeegodaa
open Go.RowKit
set_option linter.unusedVariables false

/-- Blocks of other kinds than S, but for block x, stay. -/
structure KT (S : Nat → Bool) (x : Option Nat) (w w' : World) : Prop where
  size : w.heap.size ≤ w'.heap.size
  keep : ∀ b cs t fr, x ≠ some b → S t = false → w.heap[b]? = some (.cells cs t fr) → w'.heap[b]? = some (.cells cs t fr)
theorem KT.refl (S : Nat → Bool) (x : Option Nat) (w : World) : KT S x w w := ⟨Nat.le_refl _, fun _ _ _ _ _ _ h => h⟩
theorem KT.trans {S : Nat → Bool} {x : Option Nat} {a b c : World} (h : KT S x a b) (k : KT S x b c) : KT S x a c :=
  ⟨Nat.le_trans h.size k.size, fun b cs t fr h1 h2 h3 => k.keep b cs t fr h1 h2 (h.keep b cs t fr h1 h2 h3)⟩
theorem KT.mono {S S' : Nat → Bool} {x : Option Nat} {a b : World} (h : KT S x a b) (hS : ∀ t, S' t = false → S t = false) : KT S' x a b :=
  ⟨h.size, fun b cs t fr h1 h2 h3 => h.keep b cs t fr h1 (hS t h2) h3⟩
theorem KT.below (S : Nat → Bool) (x : Option Nat) {w w' : World} (h : Below w.heap.size w w') : KT S x w w' :=
  ⟨h.size, fun b cs t fr _ _ hb => by rw [h.block b (Array.getElem?_eq_some_iff.1 hb).1]; exact hb⟩
theorem KT.set {S : Nat → Bool} {x : Option Nat} {w : World} {g t : Nat} {cs : Array Value} {fr : Nat × Nat} (hg : w.heap[g]? = some (.cells cs t fr)) (hS : S t = true) (i : Nat) (u : Value) : KT S x w (w.setCell ⟨g, i, none⟩ u) :=
  ⟨by simp [World.setCell], fun b cs' t' fr' _ h2 hb => by
    have hne : b ≠ g := fun e => by
      subst e
      rw [hg] at hb
      simp only [Option.some.injEq, Obj.cells.injEq] at hb
      rw [← hb.2.1, hS] at h2
      cases h2
    rw [set_far _ _ _ _ _ hne]; exact hb⟩
theorem KT.pon {S : Nat → Bool} {x : Option Nat} {w w' : World} {g t : Nat} {cs : Array Value} {fr : Nat × Nat} (hg : w.heap[g]? = some (.cells cs t fr)) (hS : S t = true) (hs : w.heap.size ≤ w'.heap.size) (h : POn g w w') : KT S x w w' :=
  ⟨hs, fun b cs' t' fr' _ h2 hb => by
    have hne : b ≠ g := fun e => by
      subst e
      rw [hg] at hb
      simp only [Option.some.injEq, Obj.cells.injEq] at hb
      rw [← hb.2.1, hS] at h2
      cases h2
    rw [h b (Array.getElem?_eq_some_iff.1 hb).1 hne]; exact hb⟩
theorem Own1.kt {S : Nat → Bool} {x : Option Nat} {w w' : World} {q : Part} (h : Own1 w q) (hk : KT S x w w') (hS : S 5 = false) (hx : ∀ g, q.a = some ⟨g, 0, none⟩ → x ≠ some g) : Own1 w' q := by
  rcases h.2 with h2 | ⟨g, cur, h2, h3⟩
  · have hz : q.z = [] := by
      rcases h.1.rd with h4 | ⟨b, o, h4, _⟩
      · exact h4
      · rw [h2] at h4; cases h4
    exact ⟨⟨.inl hz, h.1.len, h.1.bts, h.1.small, h.1.nil, h.1.room⟩, .inl h2⟩
  · have hb := hk.keep g _ _ _ (hx g h2) hS h3
    refine ⟨⟨?_, h.1.len, h.1.bts, h.1.small, h.1.nil, h.1.room⟩, .inr ⟨g, cur, h2, hb⟩⟩
    rcases h.1.rd with h4 | ⟨b, o, ha, hc⟩
    · exact .inl h4
    · rw [h2] at ha
      cases ha
      exact .inr ⟨g, 0, h2, fun j hj => by rw [← hc j hj]; exact World.cell?_of_block (hb.trans h3.symm)⟩
theorem own_heapT {w w' : World} {base e n size : Nat} {v : Value} {xs : List Value} (h : w.ownsRow base e size v n xs) (hh : ∀ (g : Nat) (cur : Array Value), w.heap[g]? = some (Obj.cells cur e (0, 0)) → w'.heap[g]? = w.heap[g]?) : w'.ownsRow base e size v n xs := by
  refine ⟨h.1, ?_⟩
  rcases h.2 with h2 | ⟨g, cap, cur, q1, q2, q3, q4⟩
  · exact .inl h2
  · exact .inr ⟨g, cap, cur, q1, q2, by rw [hh g cur q3]; exact q3, q4⟩
theorem tag_ne {w : World} {g g' t t' : Nat} {cs cs' : Array Value} {fr fr' : Nat × Nat} (h : w.heap[g]? = some (.cells cs t fr)) (h' : w.heap[g']? = some (.cells cs' t' fr')) (hne : t ≠ t') : g ≠ g' := fun e => by
  subst e
  rw [h] at h'
  simp only [Option.some.injEq, Obj.cells.injEq] at h'
  exact hne h'.2.1
theorem PwM.kt {S : Nat → Bool} {x : Option Nat} {w w' : World} {B g : Nat} {P : PP} (h : PwM w B g P) (hk : KT S x w w') (h61 : S 78 = false) (h4 : S 4 = false) (hx : ∀ b, x = some b → b < B ∧ b ≠ g) : PwM w' B g P := by
  obtain ⟨cs, hc⟩ := h.blk
  refine h.of ((hk.keep g _ _ _ (fun e => (hx g e).2 rfl) h61 hc).trans hc.symm) fun b cs fr hb hh => hk.keep b _ _ _ (fun e => ?_) h4 hh
  have := (hx b e).1; omega
theorem PwM.set {w : World} {B g : Nat} {P : PP} (h : PwM w B g P) {b t : Nat} {cs : Array Value} {fr : Nat × Nat} (hb : w.heap[b]? = some (.cells cs t fr)) (h61 : t ≠ 78) (h4 : t ≠ 4) (i : Nat) (u : Value) : PwM (w.setCell ⟨b, i, Option.none⟩ u) B g P :=
  h.kt (KT.set (S := fun s => s == t) (x := Option.none) hb (by simp) i u) (by simp; omega) (by simp; omega) (fun _ => nofun)
theorem PwM.due {w : World} {B g : Nat} {P : PP} (h : PwM w B g P) : P.due ≤ 9223372036854775807 := by
  obtain ⟨_, _, _, _, _, _, _, _, _, _, _, _, _, h, _⟩ := h
  exact h
theorem OCs.kt {S : Nat → Bool} {w w' : World} {base : Nat} {ko : Option Addr} {n kc : Nat} {cs : List Cel} (h : OCs w base ko n kc cs) (hk : KT S none w w') (h62 : S 62 = false) (h5 : S 5 = false) : OCs w' base ko n kc cs :=
  ⟨h.len, h.room, h.cm, own_heapT h.row fun g cur hg => (hk.keep _ _ _ _ (fun e => by cases e) h62 hg).trans hg.symm, fun i hi => ⟨(h.own i hi).1.kt hk h5 (fun _ _ e => by cases e), (h.own i hi).2⟩⟩
/-- The kinds of blocks that the drive writes. -/
def KV (t : Nat) : Bool := t == 78 || t == 84
/-- The drive in memory. -/
structure DrB (w : World) (base g gp : Nat) (p : Int) (ko : Option Addr) (n kc : Nat) (cs : List Cel) (at_ : Int) : Prop where
  blk : w.heap[g]? = some (.cells #[.int .i64 p, .slice ko n kc, .pointer (some ⟨gp, 0, none⟩), .int .i64 at_] 84 (0, 0))
  own : OCs w base ko n kc cs
  low : base ≤ g ∧ base ≤ gp ∧ base ≤ w.heap.size
/-- A drive, plainly. -/
structure TD where
  p : Int
  ks : List Key
  at_ : Nat
/-- It and its power. -/
structure Dy (w0 w : World) (base Bp g gp : Nat) (ko : Option Addr) (n kc : Nat) (cs : List Cel) (T : TD) (P : PP) : Prop where
  d : DrB w base g gp T.p ko n kc cs T.at_
  ks : keys cs = T.ks
  good : goodK T.p T.ks = true
  at_ : T.at_ ≤ n
  pw : PwM w Bp gp P
  bel : Below base w0 w
  kt : KT KV none w0 w
section
variable {w0 w w' : World} {base Bp g gp : Nat} {ko : Option Addr} {n kc : Nat} {cs : List Cel} {T : TD} {P : PP}
theorem DrB.c {p at_ : Int} (h : DrB w base g gp p ko n kc cs at_) : w.cell? ⟨g, 0, none⟩ = some (.int .i64 p) ∧ w.cell? ⟨g, 1, none⟩ = some (.slice ko n kc) ∧ w.cell? ⟨g, 2, none⟩ = some (.pointer (some ⟨gp, 0, none⟩)) ∧ w.cell? ⟨g, 3, none⟩ = some (.int .i64 at_) ∧ (∀ i, w.frozen? ⟨g, i, none⟩ = false) :=
  ⟨by rw [Joins.cell_of_block h.blk]; rfl, by rw [Joins.cell_of_block h.blk]; rfl, by rw [Joins.cell_of_block h.blk]; rfl, by rw [Joins.cell_of_block h.blk]; rfl, fun i => Joins.unfrozen_of_block h.blk i⟩
theorem Dy.tap (h : Dy w0 w base Bp g gp ko n kc cs T P) : Tap.ok w ⟨T.p, ko, n, kc, cs⟩ := h.d.own.tap T.p
theorem Dy.len (h : Dy w0 w base Bp g gp ko n kc cs T P) : T.ks.length = n := by rw [← h.ks, keys_len]; exact h.d.own.len
theorem Dy.below (h : Dy w0 w base Bp g gp ko n kc cs T P) (hB : Below w.heap.size w w') : Dy w0 w' base Bp g gp ko n kc cs T P :=
  ⟨⟨(KT.below (fun _ => false) none hB).keep _ _ _ _ (fun e => by cases e) rfl h.d.blk, h.d.own.below hB, ⟨h.d.low.1, h.d.low.2.1, Nat.le_trans h.d.low.2.2 hB.size⟩⟩, h.ks, h.good, h.at_, h.pw.below hB, h.bel.trans (hB.mono h.d.low.2.2), h.kt.trans (KT.below _ _ hB)⟩
theorem Dy.refl (h : Dy w0 w base Bp g gp ko n kc cs T P) : Dy w w base Bp g gp ko n kc cs T P := ⟨h.d, h.ks, h.good, h.at_, h.pw, Below.refl _ _, KT.refl _ _ _⟩
theorem Dy.spend {P' : PP} (h : Dy w0 w base Bp g gp ko n kc cs T P) (hp : PwM w' Bp gp P') (hB : Below gp w w') (ho : POn gp w w') : Dy w0 w' base Bp g gp ko n kc cs T P' := by
  obtain ⟨cp, hcp⟩ := h.pw.blk
  have hk : KT (fun t => t == 78) none w w' := KT.pon hcp rfl hB.size ho
  exact ⟨⟨hk.keep _ _ _ _ (fun e => by cases e) rfl h.d.blk, h.d.own.kt hk rfl rfl, ⟨h.d.low.1, h.d.low.2.1, Nat.le_trans h.d.low.2.2 hB.size⟩⟩, h.ks, h.good, h.at_, hp, h.bel.trans (hB.mono h.d.low.2.1), h.kt.trans (hk.mono fun t ht => by unfold KV at ht; simp at ht ⊢; exact ht.1)⟩
/-- The place is set. -/
theorem Dy.setAt (h : Dy w0 w base Bp g gp ko n kc cs T P) {a : Nat} (ha : a ≤ n) : Dy w0 (w.setCell ⟨g, 3, none⟩ (.int .i64 (a : Int))) base Bp g gp ko n kc cs ⟨T.p, T.ks, a⟩ P := by
  have hb := h.d.blk
  have hk : KT (fun t => t == 84) none w (w.setCell ⟨g, 3, none⟩ (.int .i64 (a : Int))) := KT.set hb rfl _ _
  refine ⟨⟨?_, h.d.own.kt hk rfl rfl, ⟨h.d.low.1, h.d.low.2.1, Nat.le_trans h.d.low.2.2 hk.size⟩⟩, h.ks, h.good, ha, h.pw.kt hk rfl rfl (fun _ e => by cases e), h.bel.setCell h.d.low.1 _, h.kt.trans (hk.mono fun t ht => by unfold KV at ht; simp at ht ⊢; exact ht.2)⟩
  have := Joins.block_setCell (i := 3) hb (.int .i64 (a : Int))
  simpa using this
/-- Another tape is laid in. -/
theorem Dy.setTape {ko' : Option Addr} {n' kc' : Nat} {cs' : List Cel} {p' : Int} {ks' : List Key} (h : Dy w0 w base Bp g gp ko n kc cs T P) (ho : OCs w base ko' n' kc' cs') (hk' : keys cs' = ks') (hg' : goodK p' ks' = true) (ha : T.at_ ≤ n') : Dy w0 ((w.setCell ⟨g, 0, none⟩ (.int .i64 p')).setCell ⟨g, 1, none⟩ (.slice ko' n' kc')) base Bp g gp ko' n' kc' cs' ⟨p', ks', T.at_⟩ P := by
  have hb := h.d.blk
  have hk1 : KT (fun t => t == 84) none w (w.setCell ⟨g, 0, none⟩ (.int .i64 p')) := KT.set hb rfl _ _
  have hb1 := Joins.block_setCell (i := 0) hb (.int .i64 p')
  have hk : KT (fun t => t == 84) none w ((w.setCell ⟨g, 0, none⟩ (.int .i64 p')).setCell ⟨g, 1, none⟩ (.slice ko' n' kc')) := hk1.trans (KT.set hb1 rfl _ _)
  have hb2 := Joins.block_setCell (i := 1) hb1 (.slice ko' n' kc')
  refine ⟨⟨?_, ho.kt hk rfl rfl, ⟨h.d.low.1, h.d.low.2.1, Nat.le_trans h.d.low.2.2 hk.size⟩⟩, hk', hg', ha, h.pw.kt hk rfl rfl (fun _ e => by cases e), (h.bel.setCell h.d.low.1 _).setCell h.d.low.1 _, h.kt.trans (hk.mono fun t ht => by unfold KV at ht; simp at ht ⊢; exact ht.2)⟩
  simpa using hb2
end
/-- Its parts are there, whichever. -/
def Dsy (w0 w : World) (base Bp g gp : Nat) (T : TD) (P : PP) : Prop := ∃ ko n kc cs, Dy w0 w base Bp g gp ko n kc cs T P
section
variable {w0 w w' : World} {base Bp g gp : Nat} {T T' : TD} {P P' : PP}
theorem Dsy.below (h : Dsy w0 w base Bp g gp T P) (hB : Below w.heap.size w w') : Dsy w0 w' base Bp g gp T P := by
  obtain ⟨ko, n, kc, cs, h⟩ := h
  exact ⟨ko, n, kc, cs, h.below hB⟩
theorem Dsy.refl (h : Dsy w0 w base Bp g gp T P) : Dsy w w base Bp g gp T P := by
  obtain ⟨ko, n, kc, cs, h⟩ := h
  exact ⟨ko, n, kc, cs, h.refl⟩
theorem Dsy.bel (h : Dsy w0 w base Bp g gp T P) : Below base w0 w := by
  obtain ⟨ko, n, kc, cs, h⟩ := h
  exact h.bel
theorem Dsy.kt (h : Dsy w0 w base Bp g gp T P) : KT KV none w0 w := by
  obtain ⟨ko, n, kc, cs, h⟩ := h
  exact h.kt
theorem Dsy.pw (h : Dsy w0 w base Bp g gp T P) : PwM w Bp gp P := by
  obtain ⟨ko, n, kc, cs, h⟩ := h
  exact h.pw
theorem Dsy.good (h : Dsy w0 w base Bp g gp T P) : goodK T.p T.ks = true ∧ T.at_ ≤ T.ks.length := by
  obtain ⟨ko, n, kc, cs, h⟩ := h
  exact ⟨h.good, by rw [h.len]; exact h.at_⟩
theorem Dsy.trans (h : Dsy w0 w base Bp g gp T P) (h' : Dsy w w' base Bp g gp T' P') : Dsy w0 w' base Bp g gp T' P' := by
  obtain ⟨ko, n, kc, cs, h'⟩ := h'
  exact ⟨ko, n, kc, cs, h'.d, h'.ks, h'.good, h'.at_, h'.pw, h.bel.trans h'.bel, h.kt.trans h'.kt⟩
theorem Dsy.spend (h : Dsy w0 w base Bp g gp T P) (hp : PwM w' Bp gp P') (hB : Below gp w w') (ho : POn gp w w') : Dsy w0 w' base Bp g gp T P' := by
  obtain ⟨ko, n, kc, cs, h⟩ := h
  exact ⟨ko, n, kc, cs, h.spend hp hB ho⟩
end

theorem good_keysK {p : Int} {ks : List Key} (h : goodK p ks = true) : 1 ≤ p ∧ p ≤ 400 ∧ (ks.length : Int) ≤ p := by
  unfold goodK at h
  simp at h
  exact ⟨h.1.1.1, h.1.1.2, h.1.2⟩
theorem doff {w0 w : World} {base Bp g gp : Nat} {T : TD} {P : PP} (h : Dsy w0 w base Bp g gp T P) : Calls Try.prog 47 #[.pointer (some ⟨g, 0, none⟩)] w fun e w' => e = .returned (.bool P.off) ∧ w = w' := by
  obtain ⟨ko, n, kc, cs, h⟩ := h
  obtain ⟨c0, c1, c2, c3, f⟩ := h.d.c
  have HO := Lib.hid (poff w Bp gp P h.pw)
  clear h
  go_enter Try.func47, Try.ntmps47
  go_wp2_with (go_at_call 40; refine HO.out.mono ?_; rintro e w1 ⟨rfl, rfl⟩)
  go_ret
  exact ⟨rfl, rfl⟩
theorem dplace {w0 w : World} {base Bp g gp : Nat} {T : TD} {P : PP} (h : Dsy w0 w base Bp g gp T P) : Calls Try.prog 37 #[.pointer (some ⟨g, 0, none⟩)] w fun e w' => e = .returned (.int .i64 T.at_) ∧ w = w' := by
  obtain ⟨ko, n, kc, cs, h⟩ := h
  obtain ⟨c0, c1, c2, c3, f⟩ := h.d.c
  clear h
  go_enter Try.func37, Try.ntmps37
  go_wp2
  go_ret
  exact ⟨rfl, rfl⟩
theorem dleft {w0 w : World} {base Bp g gp : Nat} {T : TD} {P : PP} (h : Dsy w0 w base Bp g gp T P) : Calls Try.prog 38 #[.pointer (some ⟨g, 0, none⟩)] w fun e w' => e = .returned (.int .i64 (T.p - T.at_)) ∧ ∃ q, w' = w.drewN q := by
  obtain ⟨ko, n, kc, cs, h⟩ := h
  obtain ⟨c0, c1, c2, c3, f⟩ := h.d.c
  have hl := h.len
  have hg := good_keysK h.good
  have b1 : (T.at_ : Int) ≤ T.p := by have := h.at_; omega
  have b2 : T.p ≤ 400 := hg.2.1
  clear h hg hl
  go_enter Try.func38, Try.ntmps38
  go_wp2
  go_quiet (fail)
  go_wp2
  go_ret
  exact ⟨rfl, nq, rfl⟩

/-- What the copy is. -/
def CPost (w : World) (p : Int) (ks : List Key) (e : Ending) (w' : World) : Prop :=
  ∃ ko n kc cs, e = .returned (.agg #[.int .i64 p, .slice ko n kc]) ∧ OCs w' w.heap.size ko n kc cs ∧ keys cs = ks ∧ Below w.heap.size w w'
set_option maxHeartbeats 2000000 in
theorem rl_copy (t : Tap) (w : World) (h : t.ok w) (hg : goodK t.p t.ks = true) : Calls Try.prog 46 #[.agg #[.int .i64 t.p, .slice t.a t.n t.c]] w (CPost w t.p t.ks) := by
  have hlen : t.ks.length = t.n := by unfold Tap.ks; rw [keys_len]; exact h.len
  have hc : ∀ V, Below w.heap.size w V → Calls Try.prog 73 #[.agg #[.int .i64 t.p, .slice t.a t.n t.c], .int .i64 t.n] V (MPost V (0, t.p, t.ks)) := fun V hV => by
    have := end_any t (t.n : Int) V (h.below hV) hg
    rwa [show endK t.p t.ks (t.n : Int) = (0, t.p, t.ks) by
      unfold endK
      rw [if_pos ⟨by omega, by omega⟩, Int.toNat_natCast, List.take_of_length_le (by omega)]] at this
  obtain ⟨ks, hks⟩ : ∃ ks, ks = t.ks := ⟨_, rfl⟩
  rw [← hks] at hc ⊢
  obtain ⟨p, a, n, c, cs⟩ := t
  simp only at hc ⊢
  have HC := Lib.hid hc
  have HL : Hid (∀ V, Calls Try.prog 57 #[.agg #[.int .i64 p, .slice a n c]] V fun e w' => e = .returned (.int .i64 n) ∧ Below V.heap.size V w') := fun V => rl_cells p a n c V
  clear h hg hc hks hlen
  go_enter Try.func46, Try.ntmps46
  go_wp2
  obtain ⟨g1, hg1⟩ : ∃ g1, g1 = w.heap.size + 1 := ⟨_, rfl⟩
  obtain ⟨g0, hg0⟩ : ∃ g0, g0 = w.heap.size := ⟨_, rfl⟩
  rw [← hg1]
  generalize hW0 : World.alloc _ (.cells #[.int .i64 0, .slice none 0 0] 24) = W0
  obtain ⟨hB0, x0, x1⟩ := two' hW0 hg1
  rw [← hg0] at x0 ⊢
  have hgn : w.heap.size ≤ g1 := by omega
  have HX0 : Hid (∀ V, Below W0.heap.size W0 V → V.cell? ⟨g0, 0, none⟩ = some (.int .i64 p) ∧ V.cell? ⟨g0, 1, none⟩ = some (.slice a n c)) := fun V hV => by
    obtain ⟨y0, y1, _⟩ := cells2 (cells2at x0 hV)
    exact ⟨y0, y1⟩
  have HX1 := Lib.hid x1; have HB0 := Lib.hid hB0
  clear hW0 hg1 hg0 x0 x1 hB0
  go_region_held3 (fun V => V.cell? ⟨g0, 0, none⟩ = some (.int .i64 p) ∧ V.cell? ⟨g0, 1, none⟩ = some (.slice a n c)) (first | exact HX0.out _ (HBV.out.alloc HBV.out.size _) | exact HX0.out _ ((HBV.out.setCell HBU.out.size _).setCell HBU.out.size _) | exact HX0.out _ ((HBV.out.setCell (Nat.le_refl _) _).setCell (Nat.le_refl _) _) | exact HX0.out _ HBV.out | exact HX0.out _ (HBU.out.alloc HBU.out.size _) | exact HX0.out _ HBU.out | exact HX0.out _ ((Below.refl _ _).alloc (Nat.le_refl _) _).drew | exact HX0.out _ (Below.refl _ _).drew)
    ((first
      | (go_at_call 57; (with_reducible refine (HL.out W0.drew).mono ?_); rintro e w1 ⟨rfl, hB1⟩;
         have HBU : Hid (Below W0.heap.size W0 w1) := (Below.refl _ _).drew.trans hB1;
         clear hB1)
      | (go_at_call 57; (with_reducible refine (HL.out (W0.alloc (.cells #[.int .i64 0, .slice none 0 0] 24)).drew).mono ?_); rintro e w1 ⟨rfl, hB1⟩;
         have HBU : Hid (Below W0.heap.size W0 w1) := ((Below.refl _ _).alloc (Nat.le_refl _) _).drew.trans (hB1.mono (by show _ ≤ (W0.alloc _).heap.size; rw [World.size_alloc]; exact Nat.le_succ _));
         have HM0 : Hid (w1.heap[W0.heap.size]? = some (.cells #[.int .i64 0, .slice none 0 0] 24 (0, 0))) := cells2at (w := (W0.alloc (.cells #[.int .i64 0, .slice none 0 0] 24)).drew) (new_cell (.int .i64 0) (.slice none 0 0) 24) hB1;
         clear hB1)
      | (have hm0 := HM0.out; go_at_call 73; (with_reducible refine (HC.out w1 (HB0.out.trans (HBU.out.mono HB0.out.size))).mono ?_);
         rintro e w2 ⟨ko, n', kc, cs', rfl, hO, hk, hB2⟩;
         have HBV : Hid (Below W0.heap.size W0 w2) := HBU.out.trans (hB2.mono HBU.out.size);
         have HO : Hid (OCs w2 w.heap.size ko n' kc cs') := hO.low (Nat.le_trans HB0.out.size HBU.out.size);
         have HK := Lib.hid hk;
         have zm0 := cells2at hm0 hB2;
         obtain ⟨q0, q1, qf⟩ := cells2 zm0;
         have ZM0 := Lib.hid zm0;
         clear hO hk hB2 hm0 zm0)
      | (go_at_call 73; (with_reducible refine (HC.out w1 (HB0.out.trans (HBU.out.mono HB0.out.size))).mono ?_);
         rintro e w2 ⟨ko, n', kc, cs', rfl, hO, hk, hB2⟩;
         have HBV : Hid (Below W0.heap.size W0 w2) := HBU.out.trans (hB2.mono HBU.out.size);
         have HO : Hid (OCs w2 w.heap.size ko n' kc cs') := hO.low (Nat.le_trans HB0.out.size HBU.out.size);
         have HK := Lib.hid hk;
         clear hO hk hB2)
      | (go_at_call 73; (with_reducible refine (HC.out (w1.alloc (.cells #[.int .i64 0, .slice none 0 0] 24)) (HB0.out.trans ((HBU.out.alloc HBU.out.size _).mono HB0.out.size))).mono ?_);
         rintro e w2 ⟨ko, n', kc, cs', rfl, hO, hk, hB2⟩;
         have HBV : Hid (Below W0.heap.size W0 w2) := (HBU.out.alloc HBU.out.size _).trans (hB2.mono (HBU.out.alloc HBU.out.size _).size);
         have HO : Hid (OCs w2 w.heap.size ko n' kc cs') := hO.low (Nat.le_trans HB0.out.size (HBU.out.alloc HBU.out.size _).size);
         have HK := Lib.hid hk;
         have zm1 := cells2at (w := w1.alloc (.cells #[.int .i64 0, .slice none 0 0] 24)) (new_cell (.int .i64 0) (.slice none 0 0) 24) hB2;
         obtain ⟨q0, q1, qf⟩ := cells2 zm1;
         have ZM1 := Lib.hid zm1;
         clear hO hk hB2 zm1)))
  all_goals
    first
      | (have hy := heap2 ZM0.out (.int .i64 p) (.slice ko n' kc)
         have hO3 := HO.out.set2 ZM0.out (.int .i64 p) (.slice ko n' kc) (by decide) (by decide)
         have hW3 := (HBV.out.setCell (Nat.le_refl _) (.int .i64 p) (p := ⟨W0.heap.size, 0, none⟩)).setCell (Nat.le_refl _) (.slice ko n' kc) (p := ⟨W0.heap.size, 1, none⟩))
      | (have hy := heap2 ZM1.out (.int .i64 p) (.slice ko n' kc)
         have hO3 := HO.out.set2 ZM1.out (.int .i64 p) (.slice ko n' kc) (by decide) (by decide)
         have hW3 := (HBV.out.setCell HBU.out.size (.int .i64 p) (p := ⟨w1.heap.size, 0, none⟩)).setCell HBU.out.size (.slice ko n' kc) (p := ⟨w1.heap.size, 1, none⟩))
      | (have hy := new_cell (w := w2) (.int .i64 p) (.slice ko n' kc) 24
         have hO3 := HO.out.below ((Below.refl w2.heap.size w2).alloc (Nat.le_refl _) (.cells #[.int .i64 p, .slice ko n' kc] 24))
         have hW3 := HBV.out.alloc HBV.out.size (.cells #[.int .i64 p, .slice ko n' kc] 24))
    have x2 := cells2at HX1.out hW3
    obtain ⟨z0, z1, zf⟩ := cells2 x2
    obtain ⟨y0, y1, yf⟩ := cells2 hy
    obtain ⟨f0, f1⟩ := store2 x2 (.int .i64 p) (.slice ko n' kc)
    have HO2 := Lib.hid (hO3.set2 x2 (.int .i64 p) (.slice ko n' kc) (by decide) (by decide))
    have HB2 := Lib.hid (below2 (HB0.out.trans (hW3.mono HB0.out.size)) hgn (.int .i64 p) (.slice ko n' kc))
    clear hO3 hW3 x2 HO HX0 HX1 HC hy
    (try clear q0 q1 qf)
    go_wp2
    refine bodyPost_ret (v := .agg #[.int .i64 p, .slice ko n' kc]) (by simp [results, Try.results46, go_sem, f0, f1]) rfl ?_
    exact ⟨ko, n', kc, cs', rfl, HO2.out, HK.out, HB2.out⟩

end Go.Proofs.Ytmcbmemgeegodaa
