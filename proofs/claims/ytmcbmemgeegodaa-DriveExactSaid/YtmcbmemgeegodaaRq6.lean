/-
  The document's drive: Write.
-/
import Derived.Test.YtmcbmemgeegodaaRq5
import Derived.Deep.RegionLaw
namespace Go.Proofs.Ytmcbmemgeegodaa
open Go.RowKit
set_option linter.unusedVariables false

set_option maxHeartbeats 8000000 in
theorem ewrite {w0 w : World} {base Bp g gp : Nat} {T : TD} {P : PP} (d : Part) (h : Esy w0 w base Bp g gp T P) (hBp : Bp ≤ w.heap.size) (hd : ∀ V, Below base w V → KT KQ none w V → d.ok V) : Calls Try.prog 35 #[.pointer (some ⟨g, 0, none⟩), .slice d.a d.l d.c] w fun e w' => e = .returned (.int .i64 (T.wri P d.z).1) ∧ Esy w0 w' base Bp g gp (T.wri P d.z).2.1 (T.wri P d.z).2.2 := by
  have HH := Lib.hid h
  obtain ⟨ko, n, kc, cs, h⟩ := h
  have hks : Tap.ks ⟨T.p, ko, n, kc, cs⟩ = T.ks := h.ks
  have hlen := h.len
  have hat := h.at_
  have hdw : ∀ V, Below w.heap.size w V → d.ok V := fun V hV => hd V (hV.mono h.d.low.2.2) (KT.below _ _ hV)
  have hrl := fun V (hV : Below w.heap.size w V) => rwrite_any ⟨T.p, ko, n, kc, cs⟩ T.at_ d V (h.tap.below hV) (by rw [hks]; exact h.good) (hdw V hV)
  rw [hks] at hrl
  simp only at hrl
  have hgk := good_keysK h.good
  have hnew := write_new (T := T) (z := d.z) h.good (by omega)
  have htn := tear_new (T := T) (z := d.z) h.good (by omega)
  have hE : T.wri P d.z = if P.off then (5, T, P) else if (writeK T.p T.ks T.at_ d.z).1 ≠ 0 then ((writeK T.p T.ks T.at_ d.z).1, T, P) else
    if P.spent then (0, ⟨T.p, (writeK T.p T.ks T.at_ d.z).2.2, T.at_ + 1⟩, P.spend) else (5, ⟨T.p, (tearK T.p T.ks T.at_ d.z P.spend.torn).2.2, T.at_⟩, P.spend) := rfl
  obtain ⟨L, hL⟩ : ∃ L, L = T.wri P d.z := ⟨_, rfl⟩
  rw [← hL] at hE ⊢
  obtain ⟨r, hr⟩ : ∃ r, r = writeK T.p T.ks T.at_ d.z := ⟨_, rfl⟩
  rw [← hr] at hE hrl hnew htn
  obtain ⟨er, p', ks'⟩ := r
  simp only at hE hnew htn
  obtain ⟨c0, c1, c2, c3, f⟩ := h.d.c
  obtain ⟨p0, _, _⟩ := h.pw.c
  obtain ⟨off, hoff⟩ : ∃ off, off = P.off := ⟨_, rfl⟩
  rw [← hoff] at hE p0
  have HE := Lib.hid hE; have HRL := Lib.hid hrl; have HNEW := Lib.hid hnew; have HTN := Lib.hid htn; have HS := Lib.hid h; have HLN := Lib.hid hlen; have HBP := Lib.hid hBp; have HD := Lib.hid hd; have HKS := Lib.hid hks
  have HC : Hid (∀ V, Below w.heap.size w V → V.cell? ⟨g, 1, none⟩ = some (.int .i64 T.p) ∧ V.cell? ⟨g, 2, none⟩ = some (.slice ko n kc) ∧ V.cell? ⟨g, 3, none⟩ = some (.int .i64 T.at_)) := fun V hV => by
    obtain ⟨a, b, c, d, e⟩ := (h.below hV).d.c
    exact ⟨b, c, d⟩
  have b1 : (T.at_ : Int) + 1 ≤ 1000 := by omega
  obtain ⟨da, dl, dc, dz⟩ := d
  simp only at HE HRL HTN HD hdw ⊢
  clear h hE hrl hnew htn hlen hgk hks hL hr hoff hBp hd hdw
  go_enter Try.func35, Try.ntmps35
  cases off with
  | true =>
    have hl : L = (5, T, P) := by rw [HE.out]; simp
    have HLL := Lib.hid hl
    clear hl HE HRL HNEW HC
    go_wp2
    go_ret
    rw [HLL.out]
    exact ⟨rfl, HH.out⟩
  | false =>
    have HE2 : Hid (L = if er ≠ 0 then (er, T, P) else if P.spent then (0, ⟨T.p, ks', T.at_ + 1⟩, P.spend) else (5, ⟨T.p, (tearK T.p T.ks T.at_ dz P.spend.torn).2.2, T.at_⟩, P.spend)) := by
      show _ = _
      rw [HE.out]; simp
    clear HE
    go_wp2
    go_region_held3 (fun V => V.cell? ⟨g, 1, none⟩ = some (.int .i64 T.p) ∧ V.cell? ⟨g, 2, none⟩ = some (.slice ko n kc) ∧ V.cell? ⟨g, 3, none⟩ = some (.int .i64 T.at_)) (first | exact HC.out _ (HB5.out.alloc HB5.out.size _) | exact HC.out _ ((HB5.out.setCell (Nat.le_refl _) _).setCell (Nat.le_refl _) _) | exact HC.out _ HB5.out | exact HC.out _ ((Below.refl _ _).alloc (Nat.le_refl _) _).drew | exact HC.out _ (Below.refl _ _).drew)
      ((first
        | (go_at_call 66; (with_reducible refine (HRL.out w.drew (Below.refl _ _).drew).mono ?_); intro e w5 h5; obtain ⟨k5, n5, c5, cs5, rfl, hO5, hk5, hB5⟩ := h5.elim;
           have HO5 : Hid (OCs w5 base k5 n5 c5 cs5) := hO5.low HS.out.d.low.2.2;
           have HK5 := Lib.hid hk5;
           have HB5 : Hid (Below w.heap.size w w5) := (Below.refl _ _).drew.trans hB5;
           clear hO5 hk5 hB5 h5)
        | (go_at_call 66; (with_reducible refine (HRL.out (w.alloc (.cells #[.int .i64 0, .slice none 0 0] 24)).drew ((Below.refl _ _).alloc (Nat.le_refl _) _).drew).mono ?_); intro e w5 h5; obtain ⟨k5, n5, c5, cs5, rfl, hO5, hk5, hB5⟩ := h5.elim;
           have hle : w.heap.size ≤ (w.alloc (.cells #[.int .i64 0, .slice none 0 0] 24)).drew.heap.size := (by show _ ≤ (w.alloc _).heap.size; rw [World.size_alloc]; exact Nat.le_succ _);
           have HO5 : Hid (OCs w5 base k5 n5 c5 cs5) := hO5.low (Nat.le_trans HS.out.d.low.2.2 hle);
           have HK5 := Lib.hid hk5;
           have zm := cells2at (w := (w.alloc (.cells #[.int .i64 0, .slice none 0 0] 24)).drew) (new_cell (.int .i64 0) (.slice none 0 0) 24) hB5;
           obtain ⟨q0, q1, qf⟩ := cells2 zm;
           have ZM := Lib.hid zm;
           have HB5 : Hid (Below w.heap.size w w5) := ((Below.refl _ _).alloc (Nat.le_refl _) _).drew.trans (hB5.mono hle);
           clear hO5 hk5 hB5 zm hle h5)))
    all_goals
      first
        | (have hy := heap2 ZM.out (.int .i64 p') (.slice k5 n5 c5)
           have hO := HO5.out.set2 ZM.out (.int .i64 p') (.slice k5 n5 c5) (by decide) (by decide)
           have hW := (HB5.out.setCell (Nat.le_refl _) (.int .i64 p') (p := ⟨w.heap.size, 0, none⟩)).setCell (Nat.le_refl _) (.slice k5 n5 c5) (p := ⟨w.heap.size, 1, none⟩)
           clear q0 q1 qf)
        | (have hy := new_cell (w := w5) (.int .i64 p') (.slice k5 n5 c5) 24
           have hO := HO5.out.below ((Below.refl w5.heap.size w5).alloc (Nat.le_refl _) (.cells #[.int .i64 p', .slice k5 n5 c5] 24))
           have hW := HB5.out.alloc HB5.out.size (.cells #[.int .i64 p', .slice k5 n5 c5] 24))
      have hS := HS.out.below hW
      clear c0 c1 c2 c3 f p0
      obtain ⟨y0, y1, _⟩ := cells2 hy
      by_cases he : er = 0
      · subst he
        obtain ⟨hgd, hn5', hpp⟩ := HNEW.out rfl
        subst hpp
        obtain ⟨htg, hta, htk2⟩ := HTN.out rfl P.spend.torn
        have hl5 : n5 = T.at_ + 1 := by
          have h1 := hO.len
          have h2 : (keys cs5).length = ks'.length := by rw [HK5.out]
          rw [keys_len] at h2
          omega
        have hsp := qspend _ Bp gp P hS.pw (Nat.le_trans HBP.out hW.size)
        obtain ⟨sp, hspp⟩ : ∃ sp, sp = P.spent := ⟨_, rfl⟩
        rw [← hspp] at hsp HE2
        obtain ⟨tn, htn⟩ : ∃ tn, tn = P.spend.torn := ⟨_, rfl⟩
        rw [← htn] at htg hta htk2 HE2
        obtain ⟨tk, htk⟩ : ∃ tk, tk = tearK T.p T.ks T.at_ dz tn := ⟨_, rfl⟩
        rw [← htk] at htg hta HE2 htk2
        have HTK2 : Hid (tk.2.1 = T.p ∧ tk.1 = 0) := htk2
        clear htk2
        have HE3 : Hid (L = if sp then (0, ⟨T.p, ks', T.at_ + 1⟩, P.spend) else (5, ⟨T.p, tk.2.2, T.at_⟩, P.spend)) := by
          show _ = _
          rw [HE2.out, if_neg (by decide)]
        have HSP := Lib.hid hsp; have HSS := Lib.hid hS; have HOO := Lib.hid hO; have HY := Lib.hid hy; have HGD := Lib.hid hgd; have HTG := Lib.hid htg; have HTA := Lib.hid hta; have HTK := Lib.hid htk; have HL5 := Lib.hid hl5; have HTNN := Lib.hid htn
        have HWW := Lib.hid (HS.out.d.low.2.2); have HBW := Lib.hid hW
        obtain ⟨c0, c1, c2, c3, cf⟩ := hS.d.c
        clear hgd hn5' htg hta hsp hspp htk hO hW hl5 hS hy htn HE2
        go_wp2_with (go_at_call 53; fail)
        refine HSP.out.mono ?_
        rintro e w7 ⟨rfl, hp7, hB7, ho7⟩
        have hS7 := HSS.out.spend hp7 hB7 ho7
        obtain ⟨cp, hcp⟩ := HSS.out.pw.blk
        have hk7 : KT (fun t => t == 80) none _ w7 := KT.pon hcp rfl hB7.size ho7
        have hO7 := HOO.out.kt hk7 rfl rfl
        have hy7 := hk7.keep _ _ _ _ (fun e => by cases e) rfl HY.out
        clear y0 y1 c0 c1 c2 c3 cf
        obtain ⟨y0, y1, _⟩ := cells2 hy7
        obtain ⟨c0, c1, c2, c3, cf⟩ := hS7.d.c
        obtain ⟨_, _, p6⟩ := hS7.pw.c
        cases sp with
        | true =>
          have hst := hS7.setTape hO7 HK5.out HGD.out (by rw [HL5.out]; omega)
          have hsa := hst.setAt (a := T.at_ + 1) (by rw [HL5.out]; exact Nat.le_refl _)
          have HSA := Lib.hid hsa
          have hl : L = (0, ⟨T.p, ks', T.at_ + 1⟩, P.spend) := by rw [HE3.out]; simp
          have HLL := Lib.hid hl
          clear hst hsa hS7 hO7 hy7 hk7 hcp hp7 hB7 ho7 hl p6
          go_wp2
          go_region_law (fail)
          all_goals
            go_wp2
            go_ret
            rw [HLL.out]
            refine ⟨rfl, k5, n5, c5, cs5, ?_⟩
            have hwrap : IntKind.i64.wrap ((T.at_ : Int) + 1) = ((T.at_ + 1 : Nat) : Int) := IntWalk.i64_in _ (by omega)
            first
              | (rw [hwrap]; exact HSA.out.below (Below.refl _ _).drew)
              | exact HSA.out.below (Below.refl _ _).drew
              | exact HSA.out
        | false =>
          have hB07 : Below base w w7 := (HBW.out.mono HWW.out).trans (hB7.mono HS.out.d.low.2.1)
          have hk07 : KT KQ none w w7 := (KT.below KQ none HBW.out).trans (hk7.mono fun t ht => by unfold KQ at ht; simp at ht ⊢; exact ht.1)
          have htear := fun V (hV : Below w7.heap.size w7 V) => rtear_any ⟨T.p, ko, n, kc, cs⟩ T.at_ ⟨da, dl, dc, dz⟩ tn V (hS7.tap.below hV) (by rw [HKS.out]; exact hS7.good) (HD.out V (hB07.trans (hV.mono (Nat.le_trans HWW.out (Nat.le_trans HBW.out.size hB7.size)))) (hk07.trans (KT.below _ _ hV)))
          rw [HKS.out] at htear
          simp only at htear
          rw [← HTK.out] at htear
          rw [← HTNN.out] at p6
          have HTR := Lib.hid htear; have HS7 := Lib.hid hS7
          have hl : L = (5, ⟨T.p, tk.2.2, T.at_⟩, P.spend) := by rw [HE3.out]; simp
          have HLL := Lib.hid hl
          have hlow : base ≤ w7.heap.size := Nat.le_trans HWW.out (Nat.le_trans HBW.out.size hB7.size)
          have HLOW := Lib.hid hlow
          have htk1 := HTK2.out
          clear htear hS7 hO7 hy7 hk7 hcp hp7 hB7 ho7 hl hB07 hk07 hlow HTK2
          obtain ⟨tp1, tp2⟩ := htk1
          obtain ⟨t1, t2, t3⟩ := tk
          simp only at tp1 tp2
          subst tp1; subst tp2
          go_wp2
          go_region_law
            ((go_simp; go_at_call 67; (with_reducible refine (HTR.out _ (Below.refl _ _).drew).mono ?_); intro e w9 h9; obtain ⟨k9, n9, c9, cs9, rfl, hO9, hk9, hB9⟩ := h9.elim;
                 have HB9 : Hid (Below w7.heap.size w7 w9) := (Below.refl _ _).drew.trans hB9;
                 have hS9 := HS7.out.below HB9.out;
                 have hl9 : T.at_ ≤ n9 := (by
                   have h1 := hO9.len
                   have h2 : (keys cs9).length = t3.length := by rw [hk9]
                   rw [keys_len] at h2
                   have := HTA.out
                   omega);
                 have HST := Lib.hid (hS9.setTape (hO9.low HLOW.out) hk9 HTG.out hl9);
                 obtain ⟨e0, e1, e2, e3, ef⟩ := hS9.d.c;
                 clear hO9 hk9 hB9 hS9 hl9 h9))
          all_goals
            go_wp2
            go_ret
            rw [HLL.out]
            exact ⟨rfl, _, _, _, _, HST.out⟩
      · have e1 : (er != 0) = true := by simp [he]
        have hl : L = (er, T, P) := by rw [HE2.out, if_pos he]
        have HLL := Lib.hid hl; have HS5 := Lib.hid hS
        clear he hl hS hO hy hW
        go_wp2
        go_ret
        rw [HLL.out]
        exact ⟨rfl, _, _, _, _, HS5.out⟩
end Go.Proofs.Ytmcbmemgeegodaa
