/-
  The document's drive: Locate.
-/
import Derived.Test.YtmcbmemgeegodaaRq3
namespace Go.Proofs.Ytmcbmemgeegodaa
open Go.RowKit
set_option linter.unusedVariables false

theorem Esy.same {w0 w w' : World} {base Bp g gp : Nat} {T : TD} {P : PP} (h : Esy w0 w base Bp g gp T P) (hB : Below w.heap.size w w') : Esy w0 w' base Bp g gp ⟨T.p, T.ks, T.at_⟩ P := h.below hB

set_option maxHeartbeats 4000000 in
theorem elocate {w0 w : World} {base Bp g gp : Nat} {T : TD} {P : PP} (h : Esy w0 w base Bp g gp T P) (n0 block : Int) (hn : n0 ≤ 9223372036854775807) (hb : block ≤ 9223372036854775807) : Calls Try.prog 26 #[.pointer (some ⟨g, 0, none⟩), .int .i64 n0, .int .i64 block] w fun e w' => e = .returned (.int .i64 (T.loc P.off n0 block).1) ∧ Esy w0 w' base Bp g gp ⟨T.p, T.ks, (T.loc P.off n0 block).2⟩ P := by
  have HH := Lib.hid h
  have hL : T.loc P.off n0 block = if P.off then (5, T.at_) else if n0 < 0 ∨ block < 0 then (1, T.at_) else
    if (fileC T.ks n0.toNat).2 ≠ 0 then (8, T.at_) else
    if T.ks.length < (fileC T.ks n0.toNat).1.toNat + block.toNat then (8, T.at_) else
    if mkd T.ks (fileC T.ks n0.toNat).1.toNat ((fileC T.ks n0.toNat).1.toNat + block.toNat) = true then (8, T.at_) else (0, (fileC T.ks n0.toNat).1.toNat + block.toNat) := rfl
  obtain ⟨L, hLL⟩ : ∃ L, L = T.loc P.off n0 block := ⟨_, rfl⟩
  rw [← hLL] at hL ⊢
  obtain ⟨ko, n, kc, cs, h⟩ := h
  obtain ⟨c0, c1, c2, c3, f⟩ := h.d.c
  obtain ⟨p0, _, _⟩ := h.pw.c
  obtain ⟨off, hoff⟩ : ∃ off, off = P.off := ⟨_, rfl⟩
  rw [← hoff] at hL p0
  have HL := Lib.hid hL
  clear hL hLL hoff
  have hks : Tap.ks ⟨T.p, ko, n, kc, cs⟩ = T.ks := h.ks
  have hlen := h.len
  have HS := Lib.hid h; have HKS := Lib.hid h.ks
  have hg4 := good_keysK h.good
  have hn4 : n ≤ 400 := by omega
  cases off with
  | true =>
    clear h hks
    go_enter Try.func26, Try.ntmps26
    go_wp2
    go_ret
    have : L = (5, T.at_) := by rw [HL.out]; simp
    rw [this]
    exact ⟨rfl, HH.out⟩
  | false =>
    by_cases hn0 : n0 < 0
    · have d1 : decide (n0 < 0) = true := decide_eq_true hn0
      have HV : Hid (L = (1, T.at_)) := by show _ = _; rw [HL.out, if_neg (by decide), if_pos (.inl hn0)]
      clear h hks hn0 HL
      go_enter Try.func26, Try.ntmps26
      go_wp2
      go_ret
      rw [HV.out]
      exact ⟨rfl, HH.out⟩
    have d1 : decide (n0 < 0) = false := decide_eq_false hn0
    by_cases hb0 : block < 0
    · have d2 : decide (block < 0) = true := decide_eq_true hb0
      have HV : Hid (L = (1, T.at_)) := by show _ = _; rw [HL.out, if_neg (by decide), if_pos (.inr hb0)]
      clear h hks hb0 HL
      go_enter Try.func26, Try.ntmps26
      go_wp2
      go_ret
      rw [HV.out]
      exact ⟨rfl, HH.out⟩
    have d2 : decide (block < 0) = false := decide_eq_false hb0
    obtain ⟨q, rfl⟩ := Int.eq_ofNat_of_zero_le (by omega : 0 ≤ n0)
    obtain ⟨b, rfl⟩ := Int.eq_ofNat_of_zero_le (by omega : 0 ≤ block)
    have hL2 : L = if (fileC T.ks q).2 ≠ 0 then (8, T.at_) else
      if T.ks.length < (fileC T.ks q).1.toNat + b then (8, T.at_) else
      if mkd T.ks (fileC T.ks q).1.toNat ((fileC T.ks q).1.toNat + b) = true then (8, T.at_) else (0, (fileC T.ks q).1.toNat + b) := by
      rw [HL.out, if_neg (by decide), if_neg (by omega), Int.toNat_natCast, Int.toNat_natCast]
    have hf := (rfile_any ⟨T.p, ko, n, kc, cs⟩ q w h.tap (by omega)).mono fun _ _ h => h.val
    rw [hks] at hf
    have hcase := fileC_two T.ks q
    have HL2 := Lib.hid hL2
    clear HL hL2
    rcases hcase with h8 | ⟨h0, fr, hfr, hfl⟩
    · have HV : Hid (L = (8, T.at_)) := by show _ = _; rw [HL2.out, if_pos (by rw [h8]; decide)]
      obtain ⟨A, hA⟩ : ∃ A, A = (fileC T.ks q).1 := ⟨_, rfl⟩
      rw [h8, ← hA] at hf
      have HF := Lib.hid hf
      clear h hks hf h8 hA HL2
      go_enter Try.func26, Try.ntmps26
      go_wp2_with (go_at_call 59; refine HF.out.mono ?_; rintro e w2 ⟨rfl, hB2⟩; have HB2 := Lib.hid hB2; clear hB2)
      go_ret
      rw [HV.out]
      exact ⟨rfl, HH.out.same HB2.out⟩
    · rw [h0, hfr] at hf
      have HF := Lib.hid hf
      have hL3 : L = if T.ks.length < fr + b then (8, T.at_) else if mkd T.ks fr (fr + b) = true then (8, T.at_) else (0, fr + b) := by
        rw [HL2.out, if_neg (by rw [h0]; decide), hfr, Int.toNat_natCast]
      have HL3 := Lib.hid hL3
      have hfn : fr ≤ n := by omega
      have x1 : IntKind.i64.wrap ((n : Int) - (fr : Int)) = (n : Int) - (fr : Int) := IntWalk.i64_in _ (by omega)
      have HLN := Lib.hid hlen
      by_cases hbig : n < fr + b
      · have d3 : decide ((n : Int) - (fr : Int) < (b : Int)) = true := decide_eq_true (by omega)
        have HV : Hid (L = (8, T.at_)) := by show _ = _; rw [HL3.out, if_pos (by omega)]
        clear h hks hf h0 hfr hL3 HL2
        go_enter Try.func26, Try.ntmps26
        go_wp2_with (go_at_call 59; refine HF.out.mono ?_; rintro e w2 ⟨rfl, hB2⟩; have HB2 := Lib.hid hB2; obtain ⟨e0, e1, e2, e3, ef⟩ := (HS.out.below HB2.out).d.c; clear hB2 c0 c1 c2 c3 f)
        go_ret
        rw [HV.out]
        exact ⟨rfl, HH.out.same HB2.out⟩
      · have d3 : decide ((n : Int) - (fr : Int) < (b : Int)) = false := decide_eq_false (by omega)
        have HL4 : Hid (L = if mkd T.ks fr (fr + b) = true then (8, T.at_) else (0, fr + b)) := by show _ = _; rw [HL3.out, if_neg (by omega)]
        clear h hks hf h0 hfr hL3 HL2
        go_enter Try.func26, Try.ntmps26
        go_wp2_with (go_at_call 59; fail)
        refine HF.out.mono ?_
        rintro e w2 ⟨rfl, hB2⟩
        have HB2 := Lib.hid hB2
        obtain ⟨e0, e1, e2, e3, ef⟩ := (HS.out.below HB2.out).d.c
        clear hB2 c0 c1 c2 c3 f
        go_wp2
        go_loopw [9] (fun iv wr => ∃ k : Nat, fr ≤ k ∧ k ≤ fr + b ∧ iv = .int .i64 k ∧ mkd T.ks fr k = false ∧ Below w2.heap.size w2 wr) (fun iv _ => fr + b - (intOf iv).toNat)
        case atStart => exact ⟨fr, Nat.le_refl _, by omega, rfl, mkd_self _ _, Below.refl _ _⟩
        case round =>
          obtain ⟨k, hk1, hk2, rfl, hmk, hB⟩ := hrel
          have hSr := HS.out.below (HB2.out.trans (hB.mono HB2.out.size))
          clear e0 e1 e2 e3 ef
          obtain ⟨e0, e1, e2, e3, ef⟩ := hSr.d.c
          by_cases hlt : k < fr + b
          · have g1 : decide ((k : Int) < (fr : Int) + (b : Int)) = true := decide_eq_true (by omega)
            have j1 : (0 : Int) ≤ (k : Int) := by omega
            have j2 : (k : Int) < (n : Int) := by omega
            have hcl : k < cs.length := by have := hSr.d.own.len; omega
            obtain ⟨b', o', hbo, y0, y1, y2, hx⟩ := hSr.tap.cells.at (k := k) hcl
            simp only at hbo
            have hkk : T.ks[k]? = some cs[k].key := by rw [← HKS.out]; exact keys_get cs k hcl
            have hkl : k < T.ks.length := by have := HLN.out; omega
            have hsu := mkd_succ T.ks fr k hk1 hkl
            rw [List.getElem?_eq_getElem hkl] at hkk
            rw [hmk, Option.some.inj hkk, Bool.false_or] at hsu
            obtain ⟨x, hxx⟩ : ∃ x, x = cs[k] := ⟨_, rfl⟩
            simp only at y0 y1 y2
            rw [← hxx] at y0 y1 y2 hsu
            have HSU : Hid (mkd T.ks fr (k + 1) = (x.k == 2)) := hsu
            have HBB := Lib.hid hB; have HSR := Lib.hid hSr
            clear hSr hx hkk hsu hxx hB hmk hcl hkl
            subst hbo
            by_cases h2 : x.k = 2
            · have q2 : (x.k == 2) = true := beq_iff_eq.2 h2
              have HV : Hid (L = (8, T.at_)) := by
                show _ = _
                rw [HL4.out, if_pos (mkd_mono T.ks fr (k + 1) (fr + b) (by omega) (by omega) (by have := HLN.out; omega) (by rw [HSU.out, q2]))]
              clear h2 HSU
              go_wp2
              go_ret
              rw [HV.out]
              exact ⟨rfl, _, _, _, _, HSR.out⟩
            · have q2 : (x.k == 2) = false := beq_eq_false_iff_ne.2 h2
              have HSU2 : Hid (mkd T.ks fr (k + 1) = false) := HSU.out.trans q2
              clear h2 HSU
              go_wp2
              go_roundw
              case rel => exact ⟨k + 1, by omega, by omega, by go_num, HSU2.out, HBB.out⟩
              case measure => simp [intOf]; omega
          · have g1 : decide ((k : Int) < (fr : Int) + (b : Int)) = false := decide_eq_false (by omega)
            obtain rfl : k = fr + b := by omega
            have HV : Hid (L = (0, fr + b)) := by show _ = _; rw [HL4.out, if_neg (by rw [hmk]; decide)]
            have hst := hSr.setAt (a := fr + b) (by omega)
            have HST := Lib.hid hst
            clear hst hSr hB hmk
            go_wp2
            go_ret
            rw [HV.out]
            exact ⟨rfl, _, _, _, _, HST.out⟩
end Go.Proofs.Ytmcbmemgeegodaa
