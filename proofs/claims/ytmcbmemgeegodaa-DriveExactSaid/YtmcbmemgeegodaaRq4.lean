/-
  The document's drive: Mark.
-/
import Derived.Test.YtmcbmemgeegodaaRq3
namespace Go.Proofs.Ytmcbmemgeegodaa
open Go.RowKit
set_option linter.unusedVariables false

set_option maxHeartbeats 8000000 in
theorem emark {w0 w : World} {base Bp g gp : Nat} {T : TD} {P : PP} (h : Esy w0 w base Bp g gp T P) (hBp : Bp ≤ w.heap.size) : Calls Try.prog 22 #[.pointer (some ⟨g, 0, none⟩)] w fun e w' => e = .returned (.int .i64 (T.mark P).1) ∧ Esy w0 w' base Bp g gp (T.mark P).2.1 (T.mark P).2.2 := by
  have HH := Lib.hid h
  obtain ⟨ko, n, kc, cs, h⟩ := h
  have hks : Tap.ks ⟨T.p, ko, n, kc, cs⟩ = T.ks := h.ks
  have hrl := fun V (hV : Below w.heap.size w V) => rmark_any ⟨T.p, ko, n, kc, cs⟩ T.at_ V (h.tap.below hV) (by rw [hks]; exact h.good)
  rw [hks] at hrl
  simp only at hrl
  have hlen := h.len
  have hgk := good_keysK h.good
  have hat := h.at_
  have hnew : (markK T.p T.ks T.at_).1 = 0 → goodK T.p (markK T.p T.ks T.at_).2.2 = true ∧ T.at_ + 1 ≤ (markK T.p T.ks T.at_).2.2.length ∧ (markK T.p T.ks T.at_).2.1 = T.p := by
    unfold markK
    rw [if_pos ⟨by omega, by omega⟩]
    by_cases hp : (T.at_ : Int) = T.p
    · rw [if_pos hp]; intro h; cases h
    · rw [if_neg hp]
      intro _
      rw [Int.toNat_natCast]
      refine ⟨goodK_snoc h.good T.at_ (by omega) (2, [], false) (by decide), ?_, rfl⟩
      simp; omega
  have hE : T.mark P = if P.off then (5, T, P) else if (markK T.p T.ks T.at_).1 ≠ 0 then ((markK T.p T.ks T.at_).1, T, P) else
    if P.spent then (0, ⟨T.p, (markK T.p T.ks T.at_).2.2, T.at_ + 1⟩, P.spend) else if P.lays then (5, ⟨T.p, (markK T.p T.ks T.at_).2.2, T.at_⟩, P.spend) else (5, T, P.spend) := rfl
  obtain ⟨L, hL⟩ : ∃ L, L = T.mark P := ⟨_, rfl⟩
  rw [← hL] at hE ⊢
  obtain ⟨r, hr⟩ : ∃ r, r = (markK T.p T.ks T.at_) := ⟨_, rfl⟩
  rw [← hr] at hE hrl hnew
  obtain ⟨er, p', ks'⟩ := r
  simp only at hE hnew
  obtain ⟨c0, c1, c2, c3, f⟩ := h.d.c
  obtain ⟨p0, _, _⟩ := h.pw.c
  obtain ⟨off, hoff⟩ : ∃ off, off = P.off := ⟨_, rfl⟩
  rw [← hoff] at hE p0
  have HE := Lib.hid hE; have HRL := Lib.hid hrl; have HNEW := Lib.hid hnew; have HS := Lib.hid h; have HLN := Lib.hid hlen; have HGK := Lib.hid hgk; have HBP := Lib.hid hBp
  have HC : Hid (∀ V, Below w.heap.size w V → V.cell? ⟨g, 1, none⟩ = some (.int .i64 T.p) ∧ V.cell? ⟨g, 2, none⟩ = some (.slice ko n kc) ∧ V.cell? ⟨g, 3, none⟩ = some (.int .i64 T.at_)) := fun V hV => by
    obtain ⟨a, b, c, d, e⟩ := (h.below hV).d.c
    exact ⟨b, c, d⟩
  have b1 : (T.at_ : Int) + 1 ≤ 1000 := by omega
  clear h hE hrl hnew hlen hgk hks hL hr hoff hBp
  go_enter Try.func22, Try.ntmps22
  cases off with
  | true =>
    have hl : L = (5, T, P) := by rw [HE.out]; simp
    have HLL := Lib.hid hl
    clear hl HE HRL HNEW HC
    go_wp2
    go_ret
    rw [HLL.out]
    exact ⟨rfl, HH.out⟩
  | false =>
    have HE2 : Hid (L = if er ≠ 0 then (er, T, P) else if P.spent then (0, ⟨T.p, ks', T.at_ + 1⟩, P.spend) else if P.lays then (5, ⟨T.p, ks', T.at_⟩, P.spend) else (5, T, P.spend)) := by
      show _ = _
      rw [HE.out]; simp
    clear HE
    go_wp2
    go_region_held3 (fun V => V.cell? ⟨g, 1, none⟩ = some (.int .i64 T.p) ∧ V.cell? ⟨g, 2, none⟩ = some (.slice ko n kc) ∧ V.cell? ⟨g, 3, none⟩ = some (.int .i64 T.at_)) (first | exact HC.out _ (HB5.out.alloc HB5.out.size _) | exact HC.out _ ((HB5.out.setCell (Nat.le_refl _) _).setCell (Nat.le_refl _) _) | exact HC.out _ HB5.out | exact HC.out _ ((Below.refl _ _).alloc (Nat.le_refl _) _).drew | exact HC.out _ (Below.refl _ _).drew)
      ((first
        | (go_at_call 52; (with_reducible refine (HRL.out w.drew (Below.refl _ _).drew).mono ?_); intro e w5 h5; obtain ⟨k5, n5, c5, cs5, rfl, hO5, hk5, hB5⟩ := h5.elim;
           have HO5 : Hid (OCs w5 base k5 n5 c5 cs5) := hO5.low HS.out.d.low.2.2;
           have HK5 := Lib.hid hk5;
           have HB5 : Hid (Below w.heap.size w w5) := (Below.refl _ _).drew.trans hB5;
           clear hO5 hk5 hB5 h5)
        | (go_at_call 52; (with_reducible refine (HRL.out (w.alloc (.cells #[.int .i64 0, .slice none 0 0] 24)).drew ((Below.refl _ _).alloc (Nat.le_refl _) _).drew).mono ?_); intro e w5 h5; obtain ⟨k5, n5, c5, cs5, rfl, hO5, hk5, hB5⟩ := h5.elim;
           have hle : w.heap.size ≤ (w.alloc (.cells #[.int .i64 0, .slice none 0 0] 24)).drew.heap.size := (by show _ ≤ (w.alloc _).heap.size; rw [World.size_alloc]; exact Nat.le_succ _);
           have HO5 : Hid (OCs w5 base k5 n5 c5 cs5) := hO5.low (Nat.le_trans HS.out.d.low.2.2 hle);
           have HK5 := Lib.hid hk5;
           have zm := cells2at (w := (w.alloc (.cells #[.int .i64 0, .slice none 0 0] 24)).drew) (new_cell (.int .i64 0) (.slice none 0 0) 24) hB5;
           obtain ⟨q0, q1, qf⟩ := cells2 zm;
           have ZM := Lib.hid zm;
           have HB5 : Hid (Below w.heap.size w w5) := ((Below.refl _ _).alloc (Nat.le_refl _) _).drew.trans (hB5.mono hle);
           clear hO5 hk5 hB5 zm hle h5)))
    all_goals
      first
        | (have hy := heap2 ZM.out (.int .i64 p') (.slice k5 n5 c5)
           have hO := HO5.out.set2 ZM.out (.int .i64 p') (.slice k5 n5 c5) (by decide) (by decide)
           have hW := (HB5.out.setCell (Nat.le_refl _) (.int .i64 p') (p := ⟨w.heap.size, 0, none⟩)).setCell (Nat.le_refl _) (.slice k5 n5 c5) (p := ⟨w.heap.size, 1, none⟩)
           clear q0 q1 qf)
        | (have hy := new_cell (w := w5) (.int .i64 p') (.slice k5 n5 c5) 24
           have hO := HO5.out.below ((Below.refl w5.heap.size w5).alloc (Nat.le_refl _) (.cells #[.int .i64 p', .slice k5 n5 c5] 24))
           have hW := HB5.out.alloc HB5.out.size (.cells #[.int .i64 p', .slice k5 n5 c5] 24))
      have hS := HS.out.below hW
      clear c0 c1 c2 c3 f p0
      obtain ⟨y0, y1, _⟩ := cells2 hy
      by_cases he : er = 0
      · subst he
        obtain ⟨hgd, hna, hpp⟩ := HNEW.out rfl
        subst hpp
        have hn5 : T.at_ + 1 ≤ n5 := by
          have h1 := hO.len
          have h2 : (keys cs5).length = ks'.length := by rw [HK5.out]
          rw [keys_len] at h2
          omega
        have hsp := qspend _ Bp gp P hS.pw (Nat.le_trans HBP.out hW.size)
        obtain ⟨sp, hspp⟩ : ∃ sp, sp = P.spent := ⟨_, rfl⟩
        rw [← hspp] at hsp HE2
        have hly : P.lays = (sp || decide (0 ≤ P.spend.torn)) := by unfold PP.lays; rw [hspp]
        have HE3 : Hid (L = if sp then (0, ⟨T.p, ks', T.at_ + 1⟩, P.spend) else if P.lays then (5, ⟨T.p, ks', T.at_⟩, P.spend) else (5, T, P.spend)) := by
          show _ = _
          rw [HE2.out, if_neg (by decide)]
        have HSP := Lib.hid hsp; have HSS := Lib.hid hS; have HOO := Lib.hid hO; have HY := Lib.hid hy; have HGD := Lib.hid hgd; have HN5 := Lib.hid hn5; have HLY := Lib.hid hly
        obtain ⟨c0, c1, c2, c3, cf⟩ := hS.d.c
        clear hgd hna hn5 hsp hspp hly hS hW hO hy
        go_wp2_with (go_at_call 53; fail)
        refine HSP.out.mono ?_
        rintro e w7 ⟨rfl, hp7, hB7, ho7⟩
        have hS7 := HSS.out.spend hp7 hB7 ho7
        obtain ⟨cp, hcp⟩ := HSS.out.pw.blk
        have hk7 : KT (fun t => t == 80) none _ w7 := KT.pon hcp rfl hB7.size ho7
        have hO7 := HOO.out.kt hk7 rfl rfl
        have hy7 := hk7.keep _ _ _ _ (fun e => by cases e) rfl HY.out
        clear y0 y1 c0 c1 c2 c3 cf
        obtain ⟨y0, y1, _⟩ := cells2 hy7
        obtain ⟨c0, c1, c2, c3, cf⟩ := hS7.d.c
        obtain ⟨_, _, p6⟩ := hS7.pw.c
        have hst := hS7.setTape hO7 HK5.out HGD.out (by have := HN5.out; omega)
        cases sp with
        | true =>
          obtain ⟨d0, d1, d2, d3, df⟩ := hst.d.c
          have hsa := hst.setAt (a := T.at_ + 1) HN5.out
          have HSA := Lib.hid hsa
          have hl : L = (0, ⟨T.p, ks', T.at_ + 1⟩, P.spend) := by rw [HE3.out]; simp
          have HLL := Lib.hid hl
          simp only at d3
          clear hst hsa hS7 hO7 hy7 hk7 hcp hp7 hB7 ho7 hl
          go_wp2
          go_ret
          rw [HLL.out]
          exact ⟨rfl, _, _, _, _, HSA.out⟩
        | false =>
          obtain ⟨tn, htn⟩ : ∃ tn, tn = P.spend.torn := ⟨_, rfl⟩
          have hly2 := HLY.out
          rw [← htn] at p6 hly2
          have HS7 := Lib.hid hS7; have HST := Lib.hid hst
          by_cases h0 : 0 ≤ tn
          · have t1 : decide (0 ≤ tn) = true := decide_eq_true h0
            have hl : L = (5, ⟨T.p, ks', T.at_⟩, P.spend) := by rw [HE3.out, hly2, t1]; simp
            have HLL := Lib.hid hl
            clear hst hS7 hO7 hy7 hk7 hcp hp7 hB7 ho7 hl hly2 htn h0
            go_wp2
            go_ret
            rw [HLL.out]
            exact ⟨rfl, _, _, _, _, HST.out⟩
          · have t1 : decide (0 ≤ tn) = false := decide_eq_false h0
            have hl : L = (5, T, P.spend) := by rw [HE3.out, hly2, t1]; simp
            have HLL := Lib.hid hl
            clear hst hS7 hO7 hy7 hk7 hcp hp7 hB7 ho7 hl hly2 htn h0
            go_wp2
            go_ret
            rw [HLL.out]
            exact ⟨rfl, _, _, _, _, HS7.out⟩
      · have e1 : (er != 0) = true := by simp [he]
        have hl : L = (er, T, P) := by rw [HE2.out, if_pos he]
        have HLL := Lib.hid hl; have HS5 := Lib.hid hS
        clear he hl hS hO hy hW
        go_wp2
        go_ret
        rw [HLL.out]
        exact ⟨rfl, _, _, _, _, HS5.out⟩
end Go.Proofs.Ytmcbmemgeegodaa
