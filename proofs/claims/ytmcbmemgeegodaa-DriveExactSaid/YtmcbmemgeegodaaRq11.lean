/-
  Both drives: Read and Write, and which blocks they leave alone.
-/
import Derived.Test.YtmcbmemgeegodaaRq10
import Derived.Deep.RegionLaw
namespace Go.Proofs.Ytmcbmemgeegodaa
open Go.RowKit
set_option linter.unusedVariables false

/-- No cell's bytes lie at Z. -/
def Away (Z : Option Addr) (cs : List Cel) : Prop := ∀ ad, Z = some ad → ∀ i, (h : i < cs.length) → cs[i].d.a ≠ some ad
theorem OCs.away {w : World} {base : Nat} {Z : Option Addr} {ko : Option Addr} {n kc : Nat} {cs : List Cel} (h : OCs w base ko n kc cs) (hZ : ∀ ad, Z = some ad → ad.block < base) : Away Z cs := fun ad e i hi e2 => by
  have h1 := (h.own i hi).2 _ e2
  have h2 := hZ ad e
  omega
/-- .. what was made later. -/
theorem OCs.away_new {w : World} {base : Nat} {Z : Option Addr} {ko : Option Addr} {n kc : Nat} {cs : List Cel} (h : OCs w base ko n kc cs) (hZ : ∀ ad, Z = some ad → w.heap.size ≤ ad.block) : Away Z cs := fun ad e i hi e2 => by
  have h2 := hZ ad e
  rcases (h.own i hi).1.2 with h3 | ⟨g, cur, h3, h4⟩
  · rw [h3] at e2; cases e2
  · rw [h3] at e2
    cases e2
    have := (Array.getElem?_eq_some_iff.1 h4).1
    simp only at h2
    omega
def DsyZ (Z : Option Addr) (w0 w : World) (base Bp g gp : Nat) (T : TD) (P : PP) : Prop := ∃ ko n kc cs, Dy w0 w base Bp g gp ko n kc cs T P ∧ Away Z cs
def EsyZ (Z : Option Addr) (w0 w : World) (base Bp g gp : Nat) (T : TD) (P : PP) : Prop := ∃ ko n kc cs, Ey w0 w base Bp g gp ko n kc cs T P ∧ Away Z cs
theorem DsyZ.sy {Z : Option Addr} {w0 w : World} {base Bp g gp : Nat} {T : TD} {P : PP} (h : DsyZ Z w0 w base Bp g gp T P) : Dsy w0 w base Bp g gp T P := by
  obtain ⟨ko, n, kc, cs, h, _⟩ := h
  exact ⟨ko, n, kc, cs, h⟩
theorem EsyZ.sy {Z : Option Addr} {w0 w : World} {base Bp g gp : Nat} {T : TD} {P : PP} (h : EsyZ Z w0 w base Bp g gp T P) : Esy w0 w base Bp g gp T P := by
  obtain ⟨ko, n, kc, cs, h, _⟩ := h
  exact ⟨ko, n, kc, cs, h⟩

set_option maxHeartbeats 2000000 in
theorem dread2 {w0 w : World} {base Bp g gp : Nat} {ko : Option Addr} {n kc : Nat} {cs : List Cel} {T : TD} {P : PP} (h : Dy w0 w base Bp g gp ko n kc cs T P) : Calls Try.prog 17 #[.pointer (some ⟨g, 0, none⟩)] w fun e w' => ∃ ko' kc', e = .returned (.tuple #[.slice ko' (T.got P.off).2.length kc', .int .i64 (T.got P.off).1]) ∧ Ow w' w.heap.size ko' (T.got P.off).2.length kc' (T.got P.off).2 ∧ Dy w0 w' base Bp g gp ko n kc cs (T.gone P.off) P ∧ POn g w w' := by
  have hof := doff ⟨ko, n, kc, cs, h⟩
  have HH := Lib.hid h
  have hks : Tap.ks ⟨T.p, ko, n, kc, cs⟩ = T.ks := h.ks
  have hrr := fun V (hV : Below w.heap.size w V) => rl_read ⟨T.p, ko, n, kc, cs⟩ T.at_ V (h.tap.below hV) (by rw [hks]; exact h.good)
  rw [hks] at hrr
  have hcode := rd_codes h.good (by rw [h.len]; exact h.at_ : T.at_ ≤ T.ks.length)
  have hlen := h.len
  obtain ⟨c0, c1, c2, c3, f⟩ := h.d.c
  have HS := Lib.hid h
  have hT : ∃ G off, G = rd T.ks T.at_ ∧ off = P.off ∧ (T.got P.off = if off then (5, []) else G) ∧ (T.gone P.off = if off then T else if G.1 = 8 then T else ⟨T.p, T.ks, T.at_ + 1⟩) := ⟨_, _, rfl, rfl, rfl, rfl⟩
  obtain ⟨G, off, hG, hoff, hrd, hrdt⟩ := hT
  obtain ⟨Q, hQ⟩ : ∃ Q : Ending → World → Prop, Q = fun e w' => ∃ ko' kc', e = .returned (.tuple #[.slice ko' (T.got P.off).2.length kc', .int .i64 (T.got P.off).1]) ∧ Ow w' w.heap.size ko' (T.got P.off).2.length kc' (T.got P.off).2 ∧ Dy w0 w' base Bp g gp ko n kc cs (T.gone P.off) P ∧ POn g w w' := ⟨_, rfl⟩
  have HQ : Hid (∀ e w', Q e w' = ∃ ko' kc', e = .returned (.tuple #[.slice ko' (if off then ((5 : Int), ([] : List Int)) else G).2.length kc', .int .i64 (if off then ((5 : Int), ([] : List Int)) else G).1]) ∧ Ow w' w.heap.size ko' (if off then ((5 : Int), ([] : List Int)) else G).2.length kc' (if off then ((5 : Int), ([] : List Int)) else G).2 ∧ Dy w0 w' base Bp g gp ko n kc cs (if off then T else if G.1 = 8 then T else ⟨T.p, T.ks, T.at_ + 1⟩) P ∧ POn g w w') := fun e w' => by rw [hQ, hrd, hrdt]
  suffices hh : Calls Try.prog 17 #[.pointer (some ⟨g, 0, none⟩)] w (fun e w' => Hid (Q e w')) from hh.mono fun e w' h => by have := h.out; rw [hQ] at this; exact this
  rw [← hG] at hrr hcode
  rw [← hoff] at hof
  have HOF := Lib.hid hof; have HRR := Lib.hid hrr; have HCO := Lib.hid hcode; have HLN := Lib.hid hlen
  have HC : Hid (∀ V, Below w.heap.size w V → V.cell? ⟨g, 0, none⟩ = some (.int .i64 T.p) ∧ V.cell? ⟨g, 1, none⟩ = some (.slice ko n kc) ∧ V.cell? ⟨g, 3, none⟩ = some (.int .i64 T.at_)) := fun V hV => ⟨by rw [hV.cell (cell_lt c0)]; exact c0, by rw [hV.cell (cell_lt c1)]; exact c1, by rw [hV.cell (cell_lt c3)]; exact c3⟩
  clear h hof hrr hcode hlen hQ hG hoff hrd hrdt hks
  go_enter Try.func17, Try.ntmps17
  go_wp2_with (go_at_call 47; fail)
  refine HOF.out.mono ?_
  rintro e w1 ⟨rfl, rfl⟩
  cases off with
  | true =>
    clear HRR HCO HC
    go_wp2
    go_ret2
    show Q _ _
    rw [HQ.out]
    exact ⟨none, 0, rfl, ⟨rfl, Nat.le_refl _, Nat.zero_le _, World.ownsRow_nil _ _ _ _⟩, HH.out, fun _ _ _ => rfl⟩
  | false =>
    go_wp2
    go_region_held3 (fun V => V.cell? ⟨g, 0, none⟩ = some (.int .i64 T.p) ∧ V.cell? ⟨g, 1, none⟩ = some (.slice ko n kc) ∧ V.cell? ⟨g, 3, none⟩ = some (.int .i64 T.at_)) (first | exact HC.out _ HB5.out | exact HC.out _ (Below.refl _ _).drew)
      ((go_at_call 48; (with_reducible refine (HRR.out _ (Below.refl _ _).drew).mono ?_); rintro e w5 ⟨k5, c5, rfl, ho5, hB5⟩; have HO5 := Lib.hid ho5; have HB5 : Hid (Below w.heap.size w w5) := (Below.refl _ _).drew.trans hB5; clear ho5 hB5))
    have hO6 : Ow w5 w.heap.size k5 G.2.length c5 G.2 := HO5.out
    have hs5 := HS.out.below HB5.out
    rcases HCO.out with ⟨h8, hq⟩ | ⟨hlt, h6⟩
    · have e1 : (G.1 == 0) = false := by rw [h8]; decide
      have e2 : (G.1 == 6) = false := by rw [h8]; decide
      have e3 : (G.1 == 15) = false := by rw [h8]; decide
      have HF : Hid (Q (.returned (.tuple #[.slice k5 G.2.length c5, .int .i64 G.1])) w5) := by
        show Q _ _
        rw [HQ.out]
        refine ⟨k5, c5, rfl, hO6, ?_⟩
        rw [if_neg (by decide), if_pos h8]
        exact ⟨hs5, fun b hb _ => HB5.out.block b hb⟩
      clear hO6 hs5 h8 hq HC HS HH HQ c0 c1 c2 c3 f
      go_wp2
      go_ret2
      exact HF
    · have hne : ¬ G.1 = 8 := by rcases h6 with h | h | h <;> rw [h] <;> decide
      obtain ⟨d0, d1, d2, d3, df⟩ := hs5.d.c
      have b1 : (T.at_ : Int) + 1 ≤ 1000 := by
        have := HLN.out
        have := good_keysK hs5.good
        omega
      have HF : Hid (Q (.returned (.tuple #[.slice k5 G.2.length c5, .int .i64 G.1])) (w5.setCell ⟨g, 3, none⟩ (.int .i64 ((T.at_ : Int) + 1)))) := by
        show Q _ _
        rw [HQ.out]
        have hst := hs5.setAt (a := T.at_ + 1) (by have := HLN.out; omega)
        have ho7 : Ow (w5.setCell ⟨g, 3, none⟩ (.int .i64 ((T.at_ : Int) + 1))) w.heap.size k5 G.2.length c5 G.2 :=
          ⟨hO6.1, hO6.2.1, hO6.2.2.1, own_heapT hO6.2.2.2 fun gg cur hgg => set_far _ _ _ _ _ (tag_ne hgg hs5.d.blk (by decide))⟩
        refine ⟨k5, c5, rfl, ho7, ?_⟩
        rw [if_neg (by decide), if_neg hne]
        exact ⟨hst, fun b hb hne => (set_far _ _ _ _ _ hne).trans (HB5.out.block b hb)⟩
      have h6' : (G.1 == 0) = true ∨ ((G.1 == 0) = false ∧ (G.1 == 6) = true) ∨ ((G.1 == 0) = false ∧ (G.1 == 6) = false ∧ (G.1 == 15) = true) := by
        rcases h6 with h | h | h <;> rw [h] <;> decide
      clear hO6 hs5 hne hlt h6 HC HS HH HQ c0 c1 c2 c3 f
      rcases h6' with e1 | ⟨e1, e2⟩ | ⟨e1, e2, e3⟩
      · go_wp2
        go_ret2
        exact HF
      · go_wp2
        go_ret2
        exact HF
      · go_wp2
        go_ret2
        exact HF

set_option maxHeartbeats 2000000 in
theorem eread2 {w0 w : World} {base Bp g gp : Nat} {ko : Option Addr} {n kc : Nat} {cs : List Cel} {T : TD} {P : PP} (h : Ey w0 w base Bp g gp ko n kc cs T P) : Calls Try.prog 18 #[.pointer (some ⟨g, 0, none⟩)] w fun e w' => ∃ ko' kc', e = .returned (.tuple #[.slice ko' (T.got P.off).2.length kc', .int .i64 (T.got P.off).1]) ∧ Ow w' w.heap.size ko' (T.got P.off).2.length kc' (T.got P.off).2 ∧ Ey w0 w' base Bp g gp ko n kc cs (T.gone P.off) P ∧ POn g w w' := by
  have HH := Lib.hid h
  have hks : Tap.ks ⟨T.p, ko, n, kc, cs⟩ = T.ks := h.ks
  obtain ⟨_, _, _, _, _, hsz⟩ := h.tap.sizes (by rw [hks]; exact h.good)
  have hrr := fun V (hV : Below w.heap.size w V) => rread_any ⟨T.p, ko, n, kc, cs⟩ T.at_ V (h.tap.below hV) hsz
  rw [hks] at hrr
  have hcode := rd_codes h.good (by rw [h.len]; exact h.at_ : T.at_ ≤ T.ks.length)
  have hlen := h.len
  obtain ⟨c0, c1, c2, c3, f⟩ := h.d.c
  obtain ⟨p0, _, _⟩ := h.pw.c
  have HS := Lib.hid h
  have hT : ∃ G off, G = rd T.ks T.at_ ∧ off = P.off ∧ (T.got P.off = if off then (5, []) else G) ∧ (T.gone P.off = if off then T else if G.1 = 8 then T else ⟨T.p, T.ks, T.at_ + 1⟩) := ⟨_, _, rfl, rfl, rfl, rfl⟩
  obtain ⟨G, off, hG, hoff, hrd, hrdt⟩ := hT
  obtain ⟨Q, hQ⟩ : ∃ Q : Ending → World → Prop, Q = fun e w' => ∃ ko' kc', e = .returned (.tuple #[.slice ko' (T.got P.off).2.length kc', .int .i64 (T.got P.off).1]) ∧ Ow w' w.heap.size ko' (T.got P.off).2.length kc' (T.got P.off).2 ∧ Ey w0 w' base Bp g gp ko n kc cs (T.gone P.off) P ∧ POn g w w' := ⟨_, rfl⟩
  have HQ : Hid (∀ e w', Q e w' = ∃ ko' kc', e = .returned (.tuple #[.slice ko' (if off then ((5 : Int), ([] : List Int)) else G).2.length kc', .int .i64 (if off then ((5 : Int), ([] : List Int)) else G).1]) ∧ Ow w' w.heap.size ko' (if off then ((5 : Int), ([] : List Int)) else G).2.length kc' (if off then ((5 : Int), ([] : List Int)) else G).2 ∧ Ey w0 w' base Bp g gp ko n kc cs (if off then T else if G.1 = 8 then T else ⟨T.p, T.ks, T.at_ + 1⟩) P ∧ POn g w w') := fun e w' => by rw [hQ, hrd, hrdt]
  suffices hh : Calls Try.prog 18 #[.pointer (some ⟨g, 0, none⟩)] w (fun e w' => Hid (Q e w')) from hh.mono fun e w' h => by have := h.out; rw [hQ] at this; exact this
  rw [← hG] at hrr hcode
  rw [← hoff] at p0
  have HRR := Lib.hid hrr; have HCO := Lib.hid hcode; have HLN := Lib.hid hlen
  have HC : Hid (∀ V, Below w.heap.size w V → V.cell? ⟨g, 1, none⟩ = some (.int .i64 T.p) ∧ V.cell? ⟨g, 2, none⟩ = some (.slice ko n kc) ∧ V.cell? ⟨g, 3, none⟩ = some (.int .i64 T.at_)) := fun V hV => ⟨by rw [hV.cell (cell_lt c1)]; exact c1, by rw [hV.cell (cell_lt c2)]; exact c2, by rw [hV.cell (cell_lt c3)]; exact c3⟩
  clear h hrr hcode hlen hQ hG hoff hrd hrdt hks hsz
  go_enter Try.func18, Try.ntmps18
  cases off with
  | true =>
    clear HRR HCO HC
    go_wp2
    go_ret2
    show Q _ _
    rw [HQ.out]
    exact ⟨none, 0, rfl, ⟨rfl, Nat.le_refl _, Nat.zero_le _, World.ownsRow_nil _ _ _ _⟩, HH.out, fun _ _ _ => rfl⟩
  | false =>
    go_wp2
    go_region_held3 (fun V => V.cell? ⟨g, 1, none⟩ = some (.int .i64 T.p) ∧ V.cell? ⟨g, 2, none⟩ = some (.slice ko n kc) ∧ V.cell? ⟨g, 3, none⟩ = some (.int .i64 T.at_)) (first | exact HC.out _ HB5.out | exact HC.out _ (Below.refl _ _).drew)
      ((go_at_call 49; (with_reducible refine (HRR.out _ (Below.refl _ _).drew).mono ?_); rintro e w5 ⟨k5, c5, rfl, ho5, hB5⟩; have HO5 := Lib.hid ho5; have HB5 : Hid (Below w.heap.size w w5) := (Below.refl _ _).drew.trans hB5; clear ho5 hB5))
    have hO6 : Ow w5 w.heap.size k5 G.2.length c5 G.2 := HO5.out
    have hs5 := HS.out.below HB5.out
    rcases HCO.out with ⟨h8, hq⟩ | ⟨hlt, h6⟩
    · have e1 : (G.1 != 8) = false := by rw [h8]; decide
      have HF : Hid (Q (.returned (.tuple #[.slice k5 G.2.length c5, .int .i64 G.1])) w5) := by
        show Q _ _
        rw [HQ.out]
        refine ⟨k5, c5, rfl, hO6, ?_⟩
        rw [if_neg (by decide), if_pos h8]
        exact ⟨hs5, fun b hb _ => HB5.out.block b hb⟩
      clear hO6 hs5 h8 hq HC HS HH HQ c0 c1 c2 c3 f
      go_wp2
      go_ret2
      exact HF
    · have hne : ¬ G.1 = 8 := by rcases h6 with h | h | h <;> rw [h] <;> decide
      have e1 : (G.1 != 8) = true := by simp [hne]
      obtain ⟨d0, d1, d2, d3, df⟩ := hs5.d.c
      have b1 : (T.at_ : Int) + 1 ≤ 1000 := by
        have := HLN.out
        have := good_keysK hs5.good
        omega
      have HF : Hid (Q (.returned (.tuple #[.slice k5 G.2.length c5, .int .i64 G.1])) (w5.setCell ⟨g, 3, none⟩ (.int .i64 ((T.at_ : Int) + 1)))) := by
        show Q _ _
        rw [HQ.out]
        have hst := hs5.setAt (a := T.at_ + 1) (by have := HLN.out; omega)
        have ho7 : Ow (w5.setCell ⟨g, 3, none⟩ (.int .i64 ((T.at_ : Int) + 1))) w.heap.size k5 G.2.length c5 G.2 :=
          ⟨hO6.1, hO6.2.1, hO6.2.2.1, own_heapT hO6.2.2.2 fun gg cur hgg => set_far _ _ _ _ _ (tag_ne hgg hs5.d.blk (by decide))⟩
        refine ⟨k5, c5, rfl, ho7, ?_⟩
        rw [if_neg (by decide), if_neg hne]
        exact ⟨hst, fun b hb hne => (set_far _ _ _ _ _ hne).trans (HB5.out.block b hb)⟩
      clear hO6 hs5 hne hlt h6 HC HS HH HQ c0 c1 c2 c3 f
      go_wp2
      go_ret2
      exact HF
end Go.Proofs.Ytmcbmemgeegodaa
