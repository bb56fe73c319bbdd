/-
  The drive: Locate.
-/
import Derived.Test.YtmcbmemgeegodaaDr3
namespace Go.Proofs.Ytmcbmemgeegodaa
open Go.RowKit
set_option linter.unusedVariables false

theorem rl_file (t : Tap) (q : Nat) (w : World) (h : t.ok w) (hg : goodK t.p t.ks = true) (hq : q ≤ 2 ^ 63 - 1) : Calls Try.prog 56 #[.agg #[.int .i64 t.p, .slice t.a t.n t.c], .int .i64 q] w fun e w' => e = .returned (.tuple #[.int .i64 (fileC t.ks q).1, .int .i64 (fileC t.ks q).2]) ∧ Below w.heap.size w w' := by
  have hc : ∀ V, Below w.heap.size w V → Calls Try.prog 43 #[.agg #[.int .i64 t.p, .slice t.a t.n t.c], .int .i64 q] V fun e w' => e = .returned (.tuple #[.int .i64 (fileC t.ks q).1, .int .i64 (fileC t.ks q).2]) ∧ Below V.heap.size V w' := fun V hV => (file_big t q V (h.below hV) hg hq).mono fun _ _ h => h.val
  obtain ⟨A, hA⟩ : ∃ A, A = (fileC t.ks q).1 := ⟨_, rfl⟩
  obtain ⟨B, hB⟩ : ∃ B, B = (fileC t.ks q).2 := ⟨_, rfl⟩
  rw [← hA, ← hB] at hc ⊢
  obtain ⟨p, a, n, c, cs⟩ := t
  simp only at hc ⊢
  have HC := Lib.hid hc
  have HB0 := Lib.hid (((Below.refl w.heap.size w).alloc (Nat.le_refl _) (.cells #[.int .i64 p, .slice a n c] 82)))
  clear h hg hc hA hB
  go_enter Try.func56, Try.ntmps56
  go_wp2_with (go_at_call 43; refine (HC.out _ HB0.out).mono ?_; rintro e w1 ⟨rfl, hB1⟩; have HB1 := Lib.hid (HB0.out.trans (hB1.mono HB0.out.size)); clear hB1)
  go_ret2
  exact ⟨rfl, HB1.out⟩
theorem fileC_two (ks : List Key) (q : Nat) : (fileC ks q).2 = 8 ∨ ((fileC ks q).2 = 0 ∧ ∃ f : Nat, (fileC ks q).1 = f ∧ f ≤ ks.length) := by
  unfold fileC
  split
  · exact .inr ⟨rfl, 0, rfl, Nat.zero_le _⟩
  · split
    · next h =>
      obtain ⟨h1, _⟩ := Classical.choose_spec h
      exact .inr ⟨rfl, Classical.choose h + 1, by simp, by omega⟩
    · exact .inl rfl

/-- Is there a mark from one place to another? -/
def mkd (ks : List Key) (f u : Nat) : Bool := ((ks.take u).drop f).any fun x => x.1 == 2
theorem mkd_self (ks : List Key) (f : Nat) : mkd ks f f = false := by
  unfold mkd
  rw [List.drop_eq_nil_of_le (by rw [List.length_take]; exact Nat.min_le_left _ _)]; rfl
theorem mkd_succ (ks : List Key) (f u : Nat) (h : f ≤ u) (hu : u < ks.length) : mkd ks f (u + 1) = (mkd ks f u || ks[u].1 == 2) := by
  unfold mkd
  rw [List.take_succ_eq_append_getElem hu, List.drop_append_of_le_length (by rw [List.length_take]; omega), List.any_append]
  simp
theorem mkd_mono (ks : List Key) (f u v : Nat) (h : f ≤ u) (huv : u ≤ v) (hv : v ≤ ks.length) (hm : mkd ks f u = true) : mkd ks f v = true := by
  induction v with
  | zero => obtain rfl : u = 0 := by omega
            exact hm
  | succ v ih =>
    by_cases e : u = v + 1
    · subst e; exact hm
    · rw [mkd_succ ks f v (by omega) (by omega), ih (by omega) (by omega)]; rfl

set_option maxHeartbeats 2000000 in
theorem rl_marked (t : Tap) (f m : Nat) (w : World) (h : t.ok w) (hfm : f + m ≤ t.n) (hn : t.n ≤ 400) : Calls Try.prog 58 #[.agg #[.int .i64 t.p, .slice t.a t.n t.c], .int .i64 f, .int .i64 ((f : Int) + (m : Int))] w fun e w' => e = .returned (.bool (mkd t.ks f (f + m))) ∧ Below w.heap.size w w' := by
  have hlen : t.ks.length = t.n := by unfold Tap.ks; rw [keys_len]; exact h.len
  obtain ⟨p, a, n, c, cs⟩ := t
  obtain ⟨ks, hks⟩ : ∃ ks, ks = Tap.ks ⟨p, a, n, c, cs⟩ := ⟨_, rfl⟩
  rw [← hks] at hlen ⊢
  simp only at hlen hfm hn ⊢
  have hroom := h.room
  have hcm := h.cm
  simp only at hroom hcm
  have i1 : (0 : Int) ≤ (f : Int) := by omega
  have i2 : (f : Int) ≤ (f : Int) + (m : Int) := by omega
  have i3 : (f : Int) + (m : Int) ≤ (c : Int) := by omega
  unfold maxLen at hcm
  have HB0 := Lib.hid (((Below.refl w.heap.size w).alloc (Nat.le_refl _) (.cells #[.int .i64 p, .slice a n c] 82)))
  obtain ⟨k4, k5, _⟩ := cells2 (new_cell (w := w) (.int .i64 p) (.slice a n c) 82)
  by_cases hm0 : m = 0
  · subst hm0
    rw [Nat.add_zero, mkd_self]
    rw [show ((f : Int) + ((0 : Nat) : Int)) = (f : Int) by omega] at i2 i3 ⊢
    by_cases hfc : c = f
    · subst hfc
      clear h hks hlen
      cases a with
      | none =>
        go_enter Try.func58, Try.ntmps58
        go_wp2
        refine wp_loop_rounds 1 ?_
        rw [rounds_succ]
        go_wp2
        go_ret
        exact ⟨rfl, HB0.out⟩
      | some ad =>
        go_enter Try.func58, Try.ntmps58
        go_wp2
        refine wp_loop_rounds 1 ?_
        rw [rounds_succ]
        go_wp2
        go_ret
        exact ⟨rfl, HB0.out⟩
    · have hcf : c - f ≠ 0 := by omega
      clear h hks hlen
      cases a with
      | none =>
        go_enter Try.func58, Try.ntmps58
        go_wp2
        refine wp_loop_rounds 1 ?_
        rw [rounds_succ]
        go_wp2
        go_ret
        exact ⟨rfl, HB0.out⟩
      | some ad =>
        go_enter Try.func58, Try.ntmps58
        go_wp2
        refine wp_loop_rounds 1 ?_
        rw [rounds_succ]
        go_wp2
        go_ret
        exact ⟨rfl, HB0.out⟩
  · have hcf : ¬ c = f := by omega
    have hat := h.cells.at (k := f) (by have := h.len; simp only at this ⊢; omega)
    obtain ⟨b, o, rfl, hx0⟩ := hat
    clear hx0
    have HH := Lib.hid h; have HKS := Lib.hid hks; have HLN := Lib.hid hlen
    clear h hks hlen
    go_enter Try.func58, Try.ntmps58
    go_wp2
    go_loopw [16] (fun i wr => ∃ k : Nat, k ≤ m ∧ i = .int .i64 k ∧ mkd ks f (f + k) = false ∧ Below w.heap.size w wr) (fun i _ => m - (intOf i).toNat)
    case atStart => exact ⟨0, Nat.zero_le _, rfl, mkd_self _ _, HB0.out⟩
    case round =>
      obtain ⟨k, hk, rfl, hmk, hB⟩ := hrel
      by_cases hlt : k < m
      · have d1 : decide ((k : Int) < (m : Int)) = true := decide_eq_true (by omega)
        have j1 : (0 : Int) ≤ (k : Int) := by omega
        have j2 : (k : Int) < (m : Int) := by omega
        have hok := HH.out.below hB
        have hcl : f + k < cs.length := by have := HH.out.len; simp only at this; omega
        obtain ⟨b', o', hbo, x0, x1, x2, hx⟩ := hok.cells.at (k := f + k) hcl
        cases hbo
        have hkk : ks[f + k]? = some cs[f + k].key := by rw [HKS.out]; exact keys_get cs (f + k) hcl
        have hsu := mkd_succ ks f (f + k) (by omega) (by have := HLN.out; omega)
        have hgk : ks[f + k]'(by have := HLN.out; omega) = cs[f + k].key := by
          have := List.getElem?_eq_getElem (show f + k < ks.length by have := HLN.out; omega)
          rw [this] at hkk; exact Option.some.inj hkk
        rw [hmk, hgk, Bool.false_or] at hsu
        obtain ⟨x, hxx⟩ : ∃ x, x = cs[f + k] := ⟨_, rfl⟩
        rw [← hxx] at x0 x1 x2 hsu
        have ea : o + f * 3 + k * 3 = o + (f + k) * 3 := by omega
        rw [← ea] at x0 x1 x2
        have HSU : Hid (mkd ks f (f + k + 1) = (x.k == 2)) := hsu
        have hal := hB.alloc hB.size (.cells #[.int .i64 x.k, .slice x.d.a x.d.l x.d.c, .bool x.b] 62)
        have HAL := Lib.hid hal; have HB := Lib.hid hB
        clear hok hx hkk hsu hgk hxx hal hB hmk hcl ea
        by_cases h2 : x.k = 2
        · have e2 : (x.k == 2) = true := beq_iff_eq.2 h2
          have HF : Hid (mkd ks f (f + m) = true) := by
            show _ = _
            exact mkd_mono ks f (f + k + 1) (f + m) (by omega) (by omega) (by have := HLN.out; omega) (by rw [HSU.out, e2])
          clear h2 HSU
          go_wp2
          go_ret
          exact ⟨by rw [HF.out]; rfl, HAL.out⟩
        · have e2 : (x.k == 2) = false := beq_eq_false_iff_ne.2 h2
          have HSU2 : Hid (mkd ks f (f + k + 1) = false) := HSU.out.trans e2
          clear h2 HSU
          go_wp2
          go_roundw
          case rel => exact ⟨k + 1, by omega, by go_num, HSU2.out, HAL.out⟩
          case measure => simp [intOf]; omega
      · have d1 : decide ((k : Int) < (m : Int)) = false := decide_eq_false (by omega)
        obtain rfl : k = m := by omega
        have HMK := Lib.hid hmk; have HB := Lib.hid hB
        clear hmk hB
        go_wp2
        go_ret
        exact ⟨by rw [HMK.out]; rfl, HB.out⟩

/-- What Locate tells, and where it stands then. -/
noncomputable def TD.loc (T : TD) (off : Bool) (n block : Int) : Int × Nat :=
  if off then (5, T.at_) else if n < 0 ∨ block < 0 then (1, T.at_) else
  if (fileC T.ks n.toNat).2 ≠ 0 then (8, T.at_) else
  if T.ks.length < (fileC T.ks n.toNat).1.toNat + block.toNat then (8, T.at_) else
  if mkd T.ks (fileC T.ks n.toNat).1.toNat ((fileC T.ks n.toNat).1.toNat + block.toNat) = true then (8, T.at_) else (0, (fileC T.ks n.toNat).1.toNat + block.toNat)
theorem Dsy.same {w0 w w' : World} {base Bp g gp : Nat} {T : TD} {P : PP} (h : Dsy w0 w base Bp g gp T P) (hB : Below w.heap.size w w') : Dsy w0 w' base Bp g gp ⟨T.p, T.ks, T.at_⟩ P := h.below hB

set_option maxHeartbeats 4000000 in
theorem dlocate {w0 w : World} {base Bp g gp : Nat} {T : TD} {P : PP} (h : Dsy w0 w base Bp g gp T P) (n0 block : Int) (hn : n0 ≤ 9223372036854775807) (hb : block ≤ 9223372036854775807) : Calls Try.prog 25 #[.pointer (some ⟨g, 0, none⟩), .int .i64 n0, .int .i64 block] w fun e w' => e = .returned (.int .i64 (T.loc P.off n0 block).1) ∧ Dsy w0 w' base Bp g gp ⟨T.p, T.ks, (T.loc P.off n0 block).2⟩ P := by
  have hof := doff h
  have HH := Lib.hid h
  have hL : T.loc P.off n0 block = if P.off then (5, T.at_) else if n0 < 0 ∨ block < 0 then (1, T.at_) else
    if (fileC T.ks n0.toNat).2 ≠ 0 then (8, T.at_) else
    if T.ks.length < (fileC T.ks n0.toNat).1.toNat + block.toNat then (8, T.at_) else
    if mkd T.ks (fileC T.ks n0.toNat).1.toNat ((fileC T.ks n0.toNat).1.toNat + block.toNat) = true then (8, T.at_) else (0, (fileC T.ks n0.toNat).1.toNat + block.toNat) := rfl
  obtain ⟨L, hLL⟩ : ∃ L, L = T.loc P.off n0 block := ⟨_, rfl⟩
  rw [← hLL] at hL ⊢
  obtain ⟨off, hoff⟩ : ∃ off, off = P.off := ⟨_, rfl⟩
  rw [← hoff] at hof hL
  have HOF := Lib.hid hof; have HL := Lib.hid hL
  clear hof hL hLL hoff
  obtain ⟨ko, n, kc, cs, h⟩ := h
  obtain ⟨c0, c1, c2, c3, f⟩ := h.d.c
  have hks : Tap.ks ⟨T.p, ko, n, kc, cs⟩ = T.ks := h.ks
  have hlen := h.len
  have HS := Lib.hid h
  have hg4 := good_keysK h.good
  have hn4 : n ≤ 400 := by omega
  cases off with
  | true =>
    clear h hks
    go_enter Try.func25, Try.ntmps25
    go_wp2_with (go_at_call 47; refine HOF.out.mono ?_; rintro e w1 ⟨rfl, rfl⟩)
    go_ret
    have : L = (5, T.at_) := by rw [HL.out]; simp
    rw [this]
    exact ⟨rfl, HH.out⟩
  | false =>
    by_cases hn0 : n0 < 0
    · have d1 : decide (n0 < 0) = true := decide_eq_true hn0
      have HV : Hid (L = (1, T.at_)) := by show _ = _; rw [HL.out, if_neg (by decide), if_pos (.inl hn0)]
      clear h hks hn0 HL
      go_enter Try.func25, Try.ntmps25
      go_wp2_with (go_at_call 47; refine HOF.out.mono ?_; rintro e w1 ⟨rfl, rfl⟩)
      go_ret
      rw [HV.out]
      exact ⟨rfl, HH.out⟩
    have d1 : decide (n0 < 0) = false := decide_eq_false hn0
    by_cases hb0 : block < 0
    · have d2 : decide (block < 0) = true := decide_eq_true hb0
      have HV : Hid (L = (1, T.at_)) := by show _ = _; rw [HL.out, if_neg (by decide), if_pos (.inr hb0)]
      clear h hks hb0 HL
      go_enter Try.func25, Try.ntmps25
      go_wp2_with (go_at_call 47; refine HOF.out.mono ?_; rintro e w1 ⟨rfl, rfl⟩)
      go_ret
      rw [HV.out]
      exact ⟨rfl, HH.out⟩
    have d2 : decide (block < 0) = false := decide_eq_false hb0
    obtain ⟨q, rfl⟩ := Int.eq_ofNat_of_zero_le (by omega : 0 ≤ n0)
    obtain ⟨b, rfl⟩ := Int.eq_ofNat_of_zero_le (by omega : 0 ≤ block)
    have hL2 : L = if (fileC T.ks q).2 ≠ 0 then (8, T.at_) else
      if T.ks.length < (fileC T.ks q).1.toNat + b then (8, T.at_) else
      if mkd T.ks (fileC T.ks q).1.toNat ((fileC T.ks q).1.toNat + b) = true then (8, T.at_) else (0, (fileC T.ks q).1.toNat + b) := by
      rw [HL.out, if_neg (by decide), if_neg (by omega), Int.toNat_natCast, Int.toNat_natCast]
    have hf := rl_file ⟨T.p, ko, n, kc, cs⟩ q w h.tap (by rw [hks]; exact h.good) (by omega)
    rw [hks] at hf
    have hcase := fileC_two T.ks q
    have HL2 := Lib.hid hL2
    clear HL hL2
    rcases hcase with h8 | ⟨h0, fr, hfr, hfl⟩
    · have d3 : ((fileC T.ks q).2 != 0) = true := by rw [h8]; decide
      have HV : Hid (L = (8, T.at_)) := by show _ = _; rw [HL2.out, if_pos (by rw [h8]; decide)]
      obtain ⟨A, hA⟩ : ∃ A, A = (fileC T.ks q).1 := ⟨_, rfl⟩
      rw [h8, ← hA] at hf
      have HF := Lib.hid hf
      clear h hks hf h8 hA HL2
      go_enter Try.func25, Try.ntmps25
      go_wp2_with (first
        | (go_at_call 47; refine HOF.out.mono ?_; rintro e w1 ⟨rfl, rfl⟩)
        | (go_at_call 56; refine HF.out.mono ?_; rintro e w2 ⟨rfl, hB2⟩; have HB2 := Lib.hid hB2; clear hB2))
      go_ret
      rw [HV.out]
      exact ⟨rfl, HH.out.same HB2.out⟩
    · rw [h0, hfr] at hf
      have HF := Lib.hid hf
      have hL3 : L = if T.ks.length < fr + b then (8, T.at_) else if mkd T.ks fr (fr + b) = true then (8, T.at_) else (0, fr + b) := by
        rw [HL2.out, if_neg (by rw [h0]; decide), hfr, Int.toNat_natCast]
      have HL3 := Lib.hid hL3
      have HCE : Hid (∀ V, Calls Try.prog 57 #[.agg #[.int .i64 T.p, .slice ko n kc]] V fun e w' => e = .returned (.int .i64 n) ∧ Below V.heap.size V w') := fun V => rl_cells T.p ko n kc V
      have HC : Hid (∀ V, Below w.heap.size w V → V.cell? ⟨g, 0, none⟩ = some (.int .i64 T.p) ∧ V.cell? ⟨g, 1, none⟩ = some (.slice ko n kc)) := fun V hV => ⟨by rw [hV.cell (cell_lt c0)]; exact c0, by rw [hV.cell (cell_lt c1)]; exact c1⟩
      have hfn : fr ≤ n := by omega
      have hfr4 : (fr : Int) ≤ 400 := by omega
      by_cases hlt : n < fr + b
      · have d4 : decide ((n : Int) - (fr : Int) < (b : Int)) = true := decide_eq_true (by omega)
        have HV : Hid (L = (8, T.at_)) := by show _ = _; rw [HL3.out, if_pos (by omega)]
        clear h hks hf h0 hfr hfl hL3 HL3 HL2
        go_enter Try.func25, Try.ntmps25
        go_wp2_with (first
          | (go_at_call 47; refine HOF.out.mono ?_; rintro e w1 ⟨rfl, rfl⟩)
          | (go_at_call 56; refine HF.out.mono ?_; rintro e w2 ⟨rfl, hB2⟩; obtain ⟨e0, e1⟩ := HC.out _ hB2; have HB2 := Lib.hid hB2; clear hB2)
          | (go_at_call 57; refine (HCE.out _).mono ?_; rintro e w3 ⟨rfl, hB3⟩; have HB3 := Lib.hid (HB2.out.trans (hB3.mono HB2.out.size)); clear hB3))
        go_ret
        rw [HV.out]
        exact ⟨rfl, HH.out.same HB3.out⟩
      · have d4 : decide ((n : Int) - (fr : Int) < (b : Int)) = false := decide_eq_false (by omega)
        have hmk := fun V (hV : Below w.heap.size w V) => rl_marked ⟨T.p, ko, n, kc, cs⟩ fr b V (h.tap.below hV) (by simp only; omega) hn4
        rw [hks] at hmk
        obtain ⟨mk, hmkk⟩ : ∃ mk, mk = mkd T.ks fr (fr + b) := ⟨_, rfl⟩
        rw [← hmkk] at hmk
        have HMK := Lib.hid hmk
        have hL4 : L = if mk = true then (8, T.at_) else (0, fr + b) := by rw [HL3.out, if_neg (by omega), ← hmkk]
        have HL4 := Lib.hid hL4
        clear h hks hf h0 hfr hfl hL3 HL3 HL2 hmk hmkk hL4
        go_enter Try.func25, Try.ntmps25
        go_wp2_with (first
          | (go_at_call 47; refine HOF.out.mono ?_; rintro e w1 ⟨rfl, rfl⟩)
          | (go_at_call 56; refine HF.out.mono ?_; rintro e w2 ⟨rfl, hB2⟩; obtain ⟨e0, e1⟩ := HC.out _ hB2; have HB2 := Lib.hid hB2; clear hB2)
          | (go_at_call 57; refine (HCE.out _).mono ?_; rintro e w3 ⟨rfl, hB3⟩; have hb3 := HB2.out.trans (hB3.mono HB2.out.size); obtain ⟨e0, e1⟩ := HC.out _ hb3; have HB3 := Lib.hid hb3; clear hB3 hb3)
          | (go_at_call 58; fail))
        refine (HMK.out _ HB3.out).mono ?_
        rintro e w4 ⟨rfl, hB4⟩
        have hb4 := HB3.out.trans (hB4.mono HB3.out.size)
        have hs4 := HS.out.below hb4
        obtain ⟨y0, y1, y2, y3, yf⟩ := hs4.d.c
        have HB4 := Lib.hid hb4
        clear hB4 hb4
        cases mk with
        | true =>
          clear hs4
          go_wp2
          go_ret
          have hl : L = (8, T.at_) := by rw [HL4.out]; simp
          rw [hl]
          exact ⟨rfl, HH.out.same HB4.out⟩
        | false =>
          have hst := hs4.setAt (a := fr + b) (by omega)
          rw [show ((fr + b : Nat) : Int) = (fr : Int) + (b : Int) by omega] at hst
          have HST := Lib.hid hst
          clear hs4 hst
          go_wp2
          go_ret
          have hl : L = (0, fr + b) := by rw [HL4.out]; simp
          rw [hl]
          exact ⟨rfl, _, _, _, _, HST.out⟩

end Go.Proofs.Ytmcbmemgeegodaa
