/-
  The drive: New, Medium, Read.
-/
import Derived.Test.YtmcbmemgeegodaaDr2
import Derived.Test.YtmcbmemgeegodaaMedL
namespace Go.Proofs.Ytmcbmemgeegodaa
open Go.RowKit
set_option linter.unusedVariables false

set_option maxHeartbeats 2000000 in
theorem dnew_bad (gp : Nat) (t : Tap) (w : World) (h : t.ok w) (hg : goodK t.p t.ks = false) : Calls Try.prog 13 #[.pointer (some ⟨gp, 0, none⟩), .agg #[.int .i64 t.p, .slice t.a t.n t.c]] w fun e w' => e = .returned (.tuple #[.pointer none, .int .i64 1]) ∧ Below w.heap.size w w' := by
  have hc := fun V (hV : Below w.heap.size w V) => rl_check t V (h.below hV)
  rw [if_neg (by rw [hg]; decide)] at hc
  obtain ⟨p, a, n, c, cs⟩ := t
  simp only at hc ⊢
  have HC := Lib.hid hc
  obtain ⟨hb0, xx, xy⟩ := two' (rfl : (w.alloc (.cells #[.int .i64 p, .slice a n c] 24)).alloc (.cells #[.int .i64 p, .slice a n c] 82) = _) rfl
  obtain ⟨k0, k1, _⟩ := cells2 xx
  obtain ⟨k2, k3, _⟩ := cells2 xy
  obtain ⟨k4, k5, _⟩ := cells2 (new_cell (w := w) (.int .i64 p) (.slice a n c) 24)
  have HB0 := Lib.hid hb0
  clear xx xy h hg hc hb0
  go_enter Try.func13, Try.ntmps13
  go_wp2_with (go_at_call 45; refine (HC.out _ HB0.out).mono ?_; rintro e w1 ⟨rfl, hB1⟩; have HB1 := Lib.hid (HB0.out.trans (hB1.mono HB0.out.size)); clear hB1)
  go_ret2
  exact ⟨rfl, HB1.out⟩
set_option maxHeartbeats 2000000 in
theorem dnew_good (gp base Bp : Nat) (P : PP) (t : Tap) (w : World) (h : t.ok w) (hg : goodK t.p t.ks = true) (hp : PwM w Bp gp P) (hb : base ≤ gp) : Calls Try.prog 13 #[.pointer (some ⟨gp, 0, none⟩), .agg #[.int .i64 t.p, .slice t.a t.n t.c]] w fun e w' => ∃ g, e = .returned (.tuple #[.pointer (some ⟨g, 0, none⟩), .int .i64 0]) ∧ w.heap.size ≤ g ∧ Dsy w w' base Bp g gp ⟨t.p, t.ks, 0⟩ P ∧ Below w.heap.size w w' := by
  have hc := fun V (hV : Below w.heap.size w V) => rl_check t V (h.below hV)
  rw [if_pos hg] at hc
  have hcp := fun V (hV : Below w.heap.size w V) => rl_copy t V (h.below hV) hg
  obtain ⟨p, a, n, c, cs⟩ := t
  simp only at hc hcp hg ⊢
  obtain ⟨ks, hks⟩ : ∃ ks, ks = Tap.ks ⟨p, a, n, c, cs⟩ := ⟨_, rfl⟩
  rw [← hks] at hcp hg ⊢
  have HC := Lib.hid hc; have HCP := Lib.hid hcp; have HG := Lib.hid hg; have HP := Lib.hid hp
  obtain ⟨hb0, xx, xy⟩ := two' (rfl : (w.alloc (.cells #[.int .i64 p, .slice a n c] 24)).alloc (.cells #[.int .i64 p, .slice a n c] 82) = _) rfl
  obtain ⟨k0, k1, _⟩ := cells2 xx
  obtain ⟨k2, k3, _⟩ := cells2 xy
  obtain ⟨k4, k5, _⟩ := cells2 (new_cell (w := w) (.int .i64 p) (.slice a n c) 24)
  have HB0 := Lib.hid hb0; have HXY := Lib.hid xy
  clear xx xy h hg hc hcp hb0 hks hp
  go_enter Try.func13, Try.ntmps13
  go_wp2_with (go_at_call 45; fail)
  refine (HC.out _ HB0.out).mono ?_
  rintro e w1 ⟨rfl, hB1⟩
  obtain ⟨y0, y1, _⟩ := cells2 (cells2at HXY.out hB1)
  have HB1 := Lib.hid (HB0.out.trans (hB1.mono HB0.out.size))
  clear hB1 k0 k1 k2 k3 k4 k5
  go_wp2_with (go_at_call 46; fail)
  refine (HCP.out w1 HB1.out).mono ?_
  rintro e w2 ⟨ko, n', kc, cs', rfl, hO, hk, hB2⟩
  have HO := Lib.hid (hO.low HB1.out.size); have HK := Lib.hid hk; have HB2 := Lib.hid (HB1.out.trans (hB2.mono HB1.out.size))
  clear hO hk hB2 y0 y1
  go_wp2
  go_ret2
  have hal : Below w2.heap.size w2 (w2.alloc (.cells #[.int .i64 p, .slice ko n' kc, .pointer (some ⟨gp, 0, none⟩), .int .i64 0] 84)) := (Below.refl _ _).alloc (Nat.le_refl _) _
  have hB3 := HB2.out.trans (hal.mono HB2.out.size)
  have hlt := HP.out.lt.1
  refine ⟨w2.heap.size, rfl, HB2.out.size, ⟨ko, n', kc, cs', ⟨⟨heap_alloc_new _ _, (HO.out.below hal).low (by omega), ⟨by have := HB2.out.size; omega, hb, by have := hB3.size; omega⟩⟩, HK.out, HG.out, Nat.zero_le _, HP.out.below hB3, hB3.mono (by omega), KT.below _ _ hB3⟩⟩, hB3⟩

set_option maxHeartbeats 2000000 in
theorem dmed {w0 w : World} {base Bp g gp : Nat} {T : TD} {P : PP} (h : Dsy w0 w base Bp g gp T P) : Calls Try.prog 36 #[.pointer (some ⟨g, 0, none⟩)] w (CPost w T.p T.ks) := by
  obtain ⟨ko, n, kc, cs, h⟩ := h
  have hgd := h.good
  have hks : Tap.ks ⟨T.p, ko, n, kc, cs⟩ = T.ks := h.ks
  have hcp := fun V (hV : Below w.heap.size w V) => rl_copy ⟨T.p, ko, n, kc, cs⟩ V (h.tap.below hV) (by rw [hks]; exact hgd)
  rw [hks] at hcp
  obtain ⟨p, ks, at_⟩ := T
  simp only at hcp h
  obtain ⟨c0, c1, c2, c3, f⟩ := h.d.c
  have hal : Below w.heap.size w (w.alloc (.cells #[.int .i64 0, .slice none 0 0] 24)) := (Below.refl _ _).alloc (Nat.le_refl _) _
  have e0 : (w.alloc (.cells #[.int .i64 0, .slice none 0 0] 24)).cell? ⟨g, 0, none⟩ = some (.int .i64 p) := by rw [hal.cell (cell_lt c0)]; exact c0
  have e1 : (w.alloc (.cells #[.int .i64 0, .slice none 0 0] 24)).cell? ⟨g, 1, none⟩ = some (.slice ko n kc) := by rw [hal.cell (cell_lt c1)]; exact c1
  have HCP := Lib.hid hcp; have HAL := Lib.hid hal
  have HX := Lib.hid (new_cell (w := w) (.int .i64 0) (.slice none 0 0) 24)
  clear h hcp hal hgd hks
  go_enter Try.func36, Try.ntmps36
  go_wp2_with (go_at_call 46; fail)
  refine (HCP.out _ HAL.out).mono ?_
  rintro e w2 ⟨ko', n', kc', cs', rfl, hO, hk, hB2⟩
  have x2 := cells2at HX.out hB2
  obtain ⟨z0, z1, zf⟩ := cells2 x2
  obtain ⟨f0, f1⟩ := store2 x2 (.int .i64 p) (.slice ko' n' kc')
  have HO := Lib.hid ((hO.low HAL.out.size).set2 x2 (.int .i64 p) (.slice ko' n' kc') (by decide) (by decide)); have HK := Lib.hid hk
  have HB2 := Lib.hid (below2 (HAL.out.trans (hB2.mono HAL.out.size)) (Nat.le_refl _) (.int .i64 p) (.slice ko' n' kc'))
  clear hO hk hB2 x2 c0 c1 c2 c3 f e0 e1
  go_wp2
  refine bodyPost_ret (v := .agg #[.int .i64 p, .slice ko' n' kc']) (by simp [results, Try.results36, go_sem, f0, f1]) rfl ?_
  exact ⟨ko', n', kc', cs', rfl, HO.out, HK.out, HB2.out⟩

/-- What Read tells, and where it stands then. -/
def TD.got (T : TD) (off : Bool) : Int × List Int := if off then (5, []) else rd T.ks T.at_
def TD.gone (T : TD) (off : Bool) : TD := if off then T else if (rd T.ks T.at_).1 = 8 then T else ⟨T.p, T.ks, T.at_ + 1⟩
/-- What Read leaves. -/
def DRd (w0 w w' : World) (base Bp g gp : Nat) (T : TD) (P : PP) (e : Ending) : Prop :=
  ∃ ko kc, e = .returned (.tuple #[.slice ko (T.got P.off).2.length kc, .int .i64 (T.got P.off).1]) ∧ Ow w' w.heap.size ko (T.got P.off).2.length kc (T.got P.off).2 ∧ Dsy w0 w' base Bp g gp (T.gone P.off) P
theorem rd_codes {p : Int} {ks : List Key} {q : Nat} (hg : goodK p ks = true) (hq : q ≤ ks.length) : ((rd ks q).1 = 8 ∧ q = ks.length) ∨ (q < ks.length ∧ ((rd ks q).1 = 0 ∨ (rd ks q).1 = 6 ∨ (rd ks q).1 = 15)) := by
  unfold rd
  rw [if_pos (by omega), Int.toNat_natCast]
  by_cases h : q < ks.length
  · refine .inr ⟨h, ?_⟩
    rw [List.getElem?_eq_getElem h]
    simp only [rc]
    split
    · exact .inr (.inr rfl)
    · split
      · exact .inr (.inl rfl)
      · exact .inl rfl
  · refine .inl ⟨?_, by omega⟩
    rw [List.getElem?_eq_none (by omega)]

set_option maxHeartbeats 2000000 in
theorem dread {w0 w : World} {base Bp g gp : Nat} {T : TD} {P : PP} (h : Dsy w0 w base Bp g gp T P) : Calls Try.prog 17 #[.pointer (some ⟨g, 0, none⟩)] w fun e w' => DRd w0 w w' base Bp g gp T P e := by
  have hof := doff h
  have HH := Lib.hid h
  obtain ⟨ko, n, kc, cs, h⟩ := h
  have hks : Tap.ks ⟨T.p, ko, n, kc, cs⟩ = T.ks := h.ks
  have hrr := fun V (hV : Below w.heap.size w V) => rl_read ⟨T.p, ko, n, kc, cs⟩ T.at_ V (h.tap.below hV) (by rw [hks]; exact h.good)
  rw [hks] at hrr
  have hcode := rd_codes h.good (by rw [h.len]; exact h.at_ : T.at_ ≤ T.ks.length)
  have hlen := h.len
  obtain ⟨c0, c1, c2, c3, f⟩ := h.d.c
  have HS := Lib.hid h
  have hT : ∃ G off, G = rd T.ks T.at_ ∧ off = P.off ∧ (T.got P.off = if off then (5, []) else G) ∧ (T.gone P.off = if off then T else if G.1 = 8 then T else ⟨T.p, T.ks, T.at_ + 1⟩) := ⟨_, _, rfl, rfl, rfl, rfl⟩
  obtain ⟨G, off, hG, hoff, hrd, hrdt⟩ := hT
  obtain ⟨Q, hQ⟩ : ∃ Q : Ending → World → Prop, Q = fun e w' => DRd w0 w w' base Bp g gp T P e := ⟨_, rfl⟩
  have HQ : Hid (∀ e w', Q e w' = ∃ ko kc, e = .returned (.tuple #[.slice ko (if off then ((5 : Int), ([] : List Int)) else G).2.length kc, .int .i64 (if off then ((5 : Int), ([] : List Int)) else G).1]) ∧ Ow w' w.heap.size ko (if off then ((5 : Int), ([] : List Int)) else G).2.length kc (if off then ((5 : Int), ([] : List Int)) else G).2 ∧ Dsy w0 w' base Bp g gp (if off then T else if G.1 = 8 then T else ⟨T.p, T.ks, T.at_ + 1⟩) P) := fun e w' => by rw [hQ]; unfold DRd; rw [hrd, hrdt]
  suffices hh : Calls Try.prog 17 #[.pointer (some ⟨g, 0, none⟩)] w (fun e w' => Hid (Q e w')) from hh.mono fun e w' h => by have := h.out; rw [hQ] at this; exact this
  rw [← hG] at hrr hcode
  rw [← hoff] at hof
  have HOF := Lib.hid hof; have HRR := Lib.hid hrr; have HCO := Lib.hid hcode; have HLN := Lib.hid hlen
  have HC : Hid (∀ V, Below w.heap.size w V → V.cell? ⟨g, 0, none⟩ = some (.int .i64 T.p) ∧ V.cell? ⟨g, 1, none⟩ = some (.slice ko n kc) ∧ V.cell? ⟨g, 3, none⟩ = some (.int .i64 T.at_)) := fun V hV => ⟨by rw [hV.cell (cell_lt c0)]; exact c0, by rw [hV.cell (cell_lt c1)]; exact c1, by rw [hV.cell (cell_lt c3)]; exact c3⟩
  clear h hof hrr hcode hlen hQ hG hoff hrd hrdt hks
  go_enter Try.func17, Try.ntmps17
  go_wp2_with (go_at_call 47; fail)
  refine HOF.out.mono ?_
  rintro e w1 ⟨rfl, rfl⟩
  cases off with
  | true =>
    clear HRR HCO HC
    go_wp2
    go_ret2
    show Q _ _
    rw [HQ.out]
    exact ⟨none, 0, rfl, ⟨rfl, Nat.le_refl _, Nat.zero_le _, World.ownsRow_nil _ _ _ _⟩, HH.out⟩
  | false =>
    go_wp2
    go_region_held3 (fun V => V.cell? ⟨g, 0, none⟩ = some (.int .i64 T.p) ∧ V.cell? ⟨g, 1, none⟩ = some (.slice ko n kc) ∧ V.cell? ⟨g, 3, none⟩ = some (.int .i64 T.at_)) (first | exact HC.out _ HB5.out | exact HC.out _ (Below.refl _ _).drew)
      ((go_at_call 48; (with_reducible refine (HRR.out _ (Below.refl _ _).drew).mono ?_); rintro e w5 ⟨k5, c5, rfl, ho5, hB5⟩; have HO5 := Lib.hid ho5; have HB5 : Hid (Below w.heap.size w w5) := (Below.refl _ _).drew.trans hB5; clear ho5 hB5))
    have hO6 : Ow w5 w.heap.size k5 G.2.length c5 G.2 := HO5.out
    have hs5 := HS.out.below HB5.out
    rcases HCO.out with ⟨h8, hq⟩ | ⟨hlt, h6⟩
    · have e1 : (G.1 == 0) = false := by rw [h8]; decide
      have e2 : (G.1 == 6) = false := by rw [h8]; decide
      have e3 : (G.1 == 15) = false := by rw [h8]; decide
      have HF : Hid (Q (.returned (.tuple #[.slice k5 G.2.length c5, .int .i64 G.1])) w5) := by
        show Q _ _
        rw [HQ.out]
        refine ⟨k5, c5, rfl, hO6, ?_⟩
        rw [if_neg (by decide), if_pos h8]
        exact ⟨_, _, _, _, hs5⟩
      clear hO6 hs5 h8 hq HC HS HH HQ c0 c1 c2 c3 f
      go_wp2
      go_ret2
      exact HF
    · have hne : ¬ G.1 = 8 := by rcases h6 with h | h | h <;> rw [h] <;> decide
      obtain ⟨d0, d1, d2, d3, df⟩ := hs5.d.c
      have b1 : (T.at_ : Int) + 1 ≤ 1000 := by
        have := HLN.out
        have := good_keysK hs5.good
        omega
      have HF : Hid (Q (.returned (.tuple #[.slice k5 G.2.length c5, .int .i64 G.1])) (w5.setCell ⟨g, 3, none⟩ (.int .i64 ((T.at_ : Int) + 1)))) := by
        show Q _ _
        rw [HQ.out]
        have hst := hs5.setAt (a := T.at_ + 1) (by have := HLN.out; omega)
        have ho7 : Ow (w5.setCell ⟨g, 3, none⟩ (.int .i64 ((T.at_ : Int) + 1))) w.heap.size k5 G.2.length c5 G.2 :=
          ⟨hO6.1, hO6.2.1, hO6.2.2.1, own_heapT hO6.2.2.2 fun gg cur hgg => set_far _ _ _ _ _ (tag_ne hgg hs5.d.blk (by decide))⟩
        refine ⟨k5, c5, rfl, ho7, ?_⟩
        rw [if_neg (by decide), if_neg hne]
        exact ⟨_, _, _, _, hst⟩
      have h6' : (G.1 == 0) = true ∨ ((G.1 == 0) = false ∧ (G.1 == 6) = true) ∨ ((G.1 == 0) = false ∧ (G.1 == 6) = false ∧ (G.1 == 15) = true) := by
        rcases h6 with h | h | h <;> rw [h] <;> decide
      clear hO6 hs5 hne hlt h6 HC HS HH HQ c0 c1 c2 c3 f
      rcases h6' with e1 | ⟨e1, e2⟩ | ⟨e1, e2, e3⟩
      · go_wp2
        go_ret2
        exact HF
      · go_wp2
        go_ret2
        exact HF
      · go_wp2
        go_ret2
        exact HF

end Go.Proofs.Ytmcbmemgeegodaa
