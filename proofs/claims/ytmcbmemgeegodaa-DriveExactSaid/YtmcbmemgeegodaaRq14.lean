/-
  Both drives in one world: what holds ahead of an act; what reading and writing leave.
-/
import Derived.Test.YtmcbmemgeegodaaRq9
import Derived.Test.YtmcbmemgeegodaaRq11
namespace Go.Proofs.Ytmcbmemgeegodaa
open Go.RowKit
set_option linter.unusedVariables false

theorem PqM.raise {w : World} {B C g : Nat} (h : PqM w B g PP.new) (hg : g < C) : PqM w C g PP.new := by
  obtain ⟨ko, kl, kc, ko2, kl2, kc2, t2, h1, ⟨a1, a2, a3, _⟩, h4, h4', h5, h6⟩ := h
  exact ⟨ko, kl, kc, ko2, kl2, kc2, t2, h1, ⟨a1, a2, a3, .inl rfl⟩, h4, h4', fun h => absurd h (by decide), hg⟩
theorem PwM.raise {w : World} {B C g : Nat} (h : PwM w B g PP.new) (hg : g < C) : PwM w C g PP.new := by
  obtain ⟨ko, kl, kc, t1, lost, ko2, kl2, kc2, t2, h1, ⟨a1, a2, a3, _⟩, h3, h4, h4', h5, h6⟩ := h
  exact ⟨ko, kl, kc, t1, lost, ko2, kl2, kc2, t2, h1, ⟨a1, a2, a3, .inl rfl⟩, h3, h4, h4', fun h => absurd h (by decide), hg⟩
theorem cut_life (P : PP) (k : List Bool) (t : Int) : (P.cut k t).life = P.life := by unfold PP.cut; split <;> rfl
theorem trip_life (P : PP) (n : Int) (k : List Bool) (t : Int) : (P.trip n k t).life = P.life := by unfold PP.trip; split <;> rfl
theorem start_life (P : PP) : P.life ≤ P.start.life ∧ P.start.life ≤ P.life + 1 := by unfold PP.start; split <;> first | omega | (simp only; omega)
theorem spend_life (P : PP) : P.spend.life = P.life := by unfold PP.spend; split <;> (try rfl); split <;> (try rfl); split <;> rfl
theorem mark_p (T : TD) (P : PP) : (T.mark P).2.1.p = T.p ∧ (T.mark P).2.2.life = P.life := by
  unfold TD.mark
  split
  · exact ⟨rfl, rfl⟩
  · split
    · exact ⟨rfl, rfl⟩
    · split
      · exact ⟨rfl, spend_life P⟩
      · split
        · exact ⟨rfl, spend_life P⟩
        · exact ⟨rfl, spend_life P⟩
theorem fin_p (T : TD) (P : PP) : (T.fin P).2.1.p = T.p ∧ (T.fin P).2.2.life = P.life := by
  unfold TD.fin
  split
  · exact ⟨rfl, rfl⟩
  · split
    · exact ⟨rfl, rfl⟩
    · split
      · exact ⟨rfl, spend_life P⟩
      · split
        · exact ⟨rfl, spend_life P⟩
        · exact ⟨rfl, spend_life P⟩
theorem wri_p (T : TD) (P : PP) (z : List Int) : (T.wri P z).2.1.p = T.p ∧ (T.wri P z).2.2.life = P.life := by
  unfold TD.wri
  split
  · exact ⟨rfl, rfl⟩
  · split
    · exact ⟨rfl, rfl⟩
    · split
      · exact ⟨rfl, spend_life P⟩
      · exact ⟨rfl, spend_life P⟩
theorem gone_p (T : TD) (off : Bool) : (T.gone off).p = T.p := by
  unfold TD.gone
  split
  · rfl
  · split <;> rfl

/-- What holds ahead of act k. -/
structure XR (w0 w : World) (Bp g gp g2 gp2 : Nat) (p : Int) (k : Nat) (T : TD) (P : PP) : Prop where
  em : EM w0 w w0.heap.size Bp g gp g2 gp2 T T P P
  p : T.p = p
  l0 : 0 ≤ P.life
  l1 : P.life ≤ k
theorem XR.to {w0 w w' : World} {Bp g gp g2 gp2 : Nat} {p : Int} {k : Nat} {T T' : TD} {P P' : PP} (h : XR w0 w Bp g gp g2 gp2 p k T P) (hm : EM w0 w' w0.heap.size Bp g gp g2 gp2 T' T' P' P') (hp : T'.p = T.p) (h0 : P.life ≤ P'.life) (h1 : P'.life ≤ P.life + 1) : XR w0 w' Bp g gp g2 gp2 p (k + 1) T' P' :=
  ⟨hm, hp.trans h.p, by have := h.l0; omega, by have := h.l1; omega⟩
theorem XR.same {w0 w w' : World} {Bp g gp g2 gp2 : Nat} {p : Int} {k : Nat} {T : TD} {P : PP} (h : XR w0 w Bp g gp g2 gp2 p k T P) (hm : EM w0 w' w0.heap.size Bp g gp g2 gp2 T T P P) : XR w0 w' Bp g gp g2 gp2 p k T P := ⟨hm, h.p, h.l0, h.l1⟩

section
variable {w w' w9 : World} {base Bp g gp g2 gp2 : Nat} {ko ko2 : Option Addr} {n n2 kc kc2 : Nat} {cs cs2 : List Cel} {T T' R R' : TD} {P Q : PP}
theorem Ey.turn {S : Nat → Bool} (h : Ey w w base Bp g2 gp2 ko2 n2 kc2 cs2 R Q) (hk : KT S none w w') (h41 : S 41 = false) (h62 : S 62 = false) (h5 : S 5 = false) (h80 : S 80 = false) (h4 : S 4 = false) : Ey w' w' base Bp g2 gp2 ko2 n2 kc2 cs2 R Q :=
  ⟨⟨hk.keep _ _ _ _ (fun e => by cases e) h41 h.d.blk, h.d.own.kt hk h62 h5, h.d.low.1, h.d.low.2.1, Nat.le_trans h.d.low.2.2 hk.size⟩, h.ks, h.good, h.at_, h.pw.kt hk h80 h4 (fun _ e => by cases e), Below.refl _ _, KT.refl _ _ _⟩
theorem Dy.turn {S : Nat → Bool} (h : Dy w w base Bp g gp ko n kc cs T P) (hk : KT S none w w') (h84 : S 84 = false) (h62 : S 62 = false) (h5 : S 5 = false) (h78 : S 78 = false) (h4 : S 4 = false) : Dy w' w' base Bp g gp ko n kc cs T P :=
  ⟨⟨hk.keep _ _ _ _ (fun e => by cases e) h84 h.d.blk, h.d.own.kt hk h62 h5, h.d.low.1, h.d.low.2.1, Nat.le_trans h.d.low.2.2 hk.size⟩, h.ks, h.good, h.at_, h.pw.kt hk h78 h4 (fun _ e => by cases e), Below.refl _ _, KT.refl _ _ _⟩
/-- What spoiling bytes of one's own leaves: their block alone has turned. -/
def SpO (ao : Option Addr) (w w' : World) : Prop := w'.heap.size = w.heap.size ∧ (Below w.heap.size w w' ∨ ∃ Z : Nat, ao = some ⟨Z, 0, none⟩ ∧ (∃ cur, w.heap[Z]? = some (.cells cur 5 (0, 0))) ∧ ∀ b : Nat, b ≠ Z → w'.heap[b]? = w.heap[b]?)
theorem spoil_own (B : Nat) (ao : Option Addr) (m c : Nat) (z : List Int) (w : World) (h : Ow w B ao m c z) (hBw : B ≤ w.heap.size) : Calls Try.prog 20 #[.slice ao m c] w fun e w' => e = .returned (.tuple #[]) ∧ Below B w w' ∧ SpO ao w w' := by
  have hm : m ≤ maxLen := Nat.le_trans h.2.1 h.2.2.1
  rcases h.u8 with h0 | ⟨Z, e, hu, hb⟩
  · refine (spoilb_up w.heap.size 0 ao m c w hm (.inl h0)).mono ?_
    rintro e w' ⟨rfl, hS, hU⟩
    exact ⟨rfl, hS.1.mono hBw, hS.2.1, .inl hS.1⟩
  · refine (spoilb_up Z (Z + 1) ao m c w hm (.inr ⟨Z, e, hu, Nat.le_refl _, Nat.lt_succ_self _⟩)).mono ?_
    rintro e' w' ⟨rfl, hS, hU⟩
    obtain ⟨cur, hc, _⟩ := hu
    exact ⟨rfl, hS.1.mono hb, hS.2.1, .inr ⟨Z, e, ⟨cur, hc⟩, fun b hne => by
      by_cases hlt : b < Z
      · exact hS.1.block b hlt
      · exact hU b (by omega)⟩⟩
/-- A tape away from what was spoilt stays. -/
theorem OCs.spo {ao : Option Addr} (h : OCs w base ko n kc cs) (ha : Away ao cs) (hs : SpO ao w w') : OCs w' base ko n kc cs := by
  rcases hs.2 with h1 | ⟨Z, e, ⟨curz, hcz⟩, hz⟩
  · exact h.below h1
  refine ⟨h.len, h.room, h.cm, ?_, fun i hi => ⟨?_, (h.own i hi).2⟩⟩
  · refine ⟨h.row.1, ?_⟩
    rcases h.row.2 with h2 | ⟨g, cap, cur, q1, q2, q3, q4⟩
    · exact .inl h2
    · exact .inr ⟨g, cap, cur, q1, q2, by rw [hz g (tag_ne q3 hcz (by decide))]; exact q3, q4⟩
  · obtain ⟨hok, h2⟩ := (h.own i hi).1
    rcases h2 with h2 | ⟨g, cur, h2, h3⟩
    · have hz : cs[i].d.z = [] := by
        rcases hok.rd with h4 | ⟨b, o, h4, _⟩
        · exact h4
        · rw [h2] at h4; cases h4
      exact ⟨⟨.inl hz, hok.len, hok.bts, hok.small, hok.nil, hok.room⟩, .inl h2⟩
    · have hb : w'.heap[g]? = w.heap[g]? := hz g (fun e2 => ha _ e i hi (by rw [h2, e2]))
      refine ⟨⟨?_, hok.len, hok.bts, hok.small, hok.nil, hok.room⟩, .inr ⟨g, cur, h2, by rw [hb]; exact h3⟩⟩
      rcases hok.rd with h4 | ⟨b, o, ha, hc⟩
      · exact .inl h4
      · rw [h2] at ha
        cases ha
        exact .inr ⟨g, 0, h2, fun j hj => by rw [← hc j hj]; exact World.cell?_of_block hb⟩
theorem SpO.kt {ao : Option Addr} (hs : SpO ao w w') : KT (fun t => t == 5) none w w' := ⟨by rw [hs.1]; exact Nat.le_refl _, fun b c t fr _ ht hh => by
  rcases hs.2 with h | ⟨Z, e, ⟨curz, hcz⟩, hz⟩
  · exact (KT.below (fun _ => false) none h).keep b _ _ _ (fun e => by cases e) rfl hh
  · rw [hz b (tag_ne hh hcz (by simpa using ht))]; exact hh⟩
/-- Both drives, where bytes away from them were spoilt. -/
theorem DsyZ.spo {ao : Option Addr} (hA : DsyZ ao w w base Bp g gp T P) (hs : SpO ao w w') : Dsy w' w' base Bp g gp T P := by
  obtain ⟨ko, n, kc, cs, hA, ha⟩ := hA
  have hkt := hs.kt
  exact ⟨ko, n, kc, cs, ⟨hkt.keep _ _ _ _ (fun e => by cases e) rfl hA.d.blk, hA.d.own.spo ha hs, hA.d.low.1, hA.d.low.2.1, Nat.le_trans hA.d.low.2.2 hkt.size⟩, hA.ks, hA.good, hA.at_, hA.pw.kt hkt rfl rfl (fun _ e => by cases e), Below.refl _ _, KT.refl _ _ _⟩
theorem EsyZ.spo {ao : Option Addr} (hA : EsyZ ao w w base Bp g gp T P) (hs : SpO ao w w') : Esy w' w' base Bp g gp T P := by
  obtain ⟨ko, n, kc, cs, hA, ha⟩ := hA
  have hkt := hs.kt
  exact ⟨ko, n, kc, cs, ⟨hkt.keep _ _ _ _ (fun e => by cases e) rfl hA.d.blk, hA.d.own.spo ha hs, hA.d.low.1, hA.d.low.2.1, Nat.le_trans hA.d.low.2.2 hkt.size⟩, hA.ks, hA.good, hA.at_, hA.pw.kt hkt rfl rfl (fun _ e => by cases e), Below.refl _ _, KT.refl _ _ _⟩
theorem DsyZ.turn {S : Nat → Bool} {ao : Option Addr} (h : DsyZ ao w w base Bp g gp T P) (hk : KT S none w w') (h84 : S 84 = false) (h62 : S 62 = false) (h5 : S 5 = false) (h78 : S 78 = false) (h4 : S 4 = false) : DsyZ ao w' w' base Bp g gp T P := by
  obtain ⟨ko, n, kc, cs, h, ha⟩ := h
  exact ⟨ko, n, kc, cs, h.turn hk h84 h62 h5 h78 h4, ha⟩
theorem EsyZ.turn {S : Nat → Bool} {ao : Option Addr} (h : EsyZ ao w w base Bp g gp T P) (hk : KT S none w w') (h41 : S 41 = false) (h62 : S 62 = false) (h5 : S 5 = false) (h80 : S 80 = false) (h4 : S 4 = false) : EsyZ ao w' w' base Bp g gp T P := by
  obtain ⟨ko, n, kc, cs, h, ha⟩ := h
  exact ⟨ko, n, kc, cs, h.turn hk h41 h62 h5 h80 h4, ha⟩
theorem DsyZ.refl {w0 : World} {ao : Option Addr} (h : DsyZ ao w0 w base Bp g gp T P) : DsyZ ao w w base Bp g gp T P := by
  obtain ⟨ko, n, kc, cs, h, ha⟩ := h
  exact ⟨ko, n, kc, cs, h.refl, ha⟩
theorem EsyZ.refl {w0 : World} {ao : Option Addr} (h : EsyZ ao w0 w base Bp g gp T P) : EsyZ ao w w base Bp g gp T P := by
  obtain ⟨ko, n, kc, cs, h, ha⟩ := h
  exact ⟨ko, n, kc, cs, h.refl, ha⟩
/-- Tapes that were there lie away from what was made since. -/
theorem Dsy.z {ao : Option Addr} (h : Dsy w w base Bp g gp T P) (ha : ∀ ad, ao = some ad → w.heap.size ≤ ad.block) : DsyZ ao w w base Bp g gp T P := by
  obtain ⟨ko, n, kc, cs, h⟩ := h
  exact ⟨ko, n, kc, cs, h, h.d.own.away_new ha⟩
theorem Esy.z {ao : Option Addr} (h : Esy w w base Bp g gp T P) (ha : ∀ ad, ao = some ad → w.heap.size ≤ ad.block) : EsyZ ao w w base Bp g gp T P := by
  obtain ⟨ko, n, kc, cs, h⟩ := h
  exact ⟨ko, n, kc, cs, h, h.d.own.away_new ha⟩
theorem ow_ge {m c : Nat} {ao : Option Addr} {z : List Int} {B : Nat} (h : Ow w B ao m c z) : ∀ ad, ao = some ad → B ≤ ad.block := fun ad e => own_ge h.2.2.2 ad.block (by
  rcases h.2.2.2.2 with ⟨q, _⟩ | ⟨g', cap, cur, q, _⟩
  · simp only [Value.slice.injEq] at q; rw [q.1] at e; cases e
  · simp only [Value.slice.injEq] at q; rw [q.1] at e ⊢; cases e; rfl)
/-- A row of one's own stays where kinds but bytes are written. -/
theorem Ow.kt {S : Nat → Bool} {m c : Nat} {ao : Option Addr} {z : List Int} {B : Nat} (h : Ow w B ao m c z) (hk : KT S none w w') (hS : S 5 = false) : Ow w' B ao m c z :=
  ⟨h.1, h.2.1, h.2.2.1, own_heapT h.2.2.2 fun g cur hg => (hk.keep _ _ _ _ (fun e => by cases e) hS hg).trans hg.symm⟩
/-- What Read of the drive leaves: the tape lies away from what it tells. -/
theorem dread_z (h : Dsy w w base Bp g gp T P) : Calls Try.prog 17 #[.pointer (some ⟨g, 0, none⟩)] w fun e w' => ∃ ko kc, e = .returned (.tuple #[.slice ko (T.got P.off).2.length kc, .int .i64 (T.got P.off).1]) ∧ Ow w' w.heap.size ko (T.got P.off).2.length kc (T.got P.off).2 ∧ DsyZ ko w w' base Bp g gp (T.gone P.off) P := by
  obtain ⟨k1, n1, c1, cs1, h⟩ := h
  refine (dread2 h).mono ?_
  rintro e w' ⟨ko, kc, rfl, hO, hD, _⟩
  exact ⟨ko, kc, rfl, hO, k1, n1, c1, cs1, hD, h.d.own.away_new (ow_ge hO)⟩
/-- What Read of the document's drive leaves: likewise of whatever lay away. -/
theorem eread_z {ao : Option Addr} (h : EsyZ ao w w base Bp g gp T P) : Calls Try.prog 18 #[.pointer (some ⟨g, 0, none⟩)] w fun e w' => ∃ ko kc, e = .returned (.tuple #[.slice ko (T.got P.off).2.length kc, .int .i64 (T.got P.off).1]) ∧ Ow w' w.heap.size ko (T.got P.off).2.length kc (T.got P.off).2 ∧ EsyZ ao w w' base Bp g gp (T.gone P.off) P := by
  obtain ⟨k1, n1, c1, cs1, h, ha⟩ := h
  refine (eread2 h).mono ?_
  rintro e w' ⟨ko, kc, rfl, hO, hD, _⟩
  exact ⟨ko, kc, rfl, hO, k1, n1, c1, cs1, hD, ha⟩
end
end Go.Proofs.Ytmcbmemgeegodaa
