/-
  DriveReads: the walk.
-/
import Derived.Test.YtmcbmemgeegodaaDr7
import Derived.IntWalk
namespace Go.Proofs.Ytmcbmemgeegodaa
open Go.RowKit
set_option linter.unusedVariables false

theorem rd_mark (ks : List Key) (q : Nat) (hq : q < ks.length) : ((rd ks q).1 = 15 ↔ ks[q].1 = 2) := by
  unfold rd
  rw [if_pos (by omega), Int.toNat_natCast, List.getElem?_eq_getElem hq]
  simp only [rc]
  by_cases h2 : ks[q].1 = 2
  · rw [if_pos h2]; simp [h2]
  · rw [if_neg h2]
    constructor
    · intro h
      split at h <;> simp at h
    · intro h; exact absurd h h2
theorem gone_at (p : Int) (ks : List Key) (q : Nat) (hg : goodK p ks = true) (hq : q ≤ ks.length) : TD.gone ⟨p, ks, q⟩ false = ⟨p, ks, if q < ks.length then q + 1 else q⟩ := by
  unfold TD.gone
  rw [if_neg (by decide)]
  simp only
  rcases rd_codes hg hq with ⟨h1, h2⟩ | ⟨h1, h2⟩
  · rw [if_pos h1, if_neg (by omega)]
  · rw [if_neg (by rcases h2 with h | h | h <;> rw [h] <;> decide), if_pos h1]

set_option maxRecDepth 100000 in
set_option maxHeartbeats 8000000 in
theorem reads_walk (t : Tap) (p u : Int) (w : World) (h : t.ok w) : Calls Try.prog 6 #[.agg #[.int .i64 t.p, .slice t.a t.n t.c], .int .i64 p, .int .i64 u] w fun e w' => e = .returned (.bool true) ∧ Below w.heap.size w w' := by
  have hm := Nat.le_trans h.room h.cm
  unfold maxLen at hm
  obtain ⟨W0, hW0⟩ : ∃ W0, W0 = w.alloc (.cells #[.int .i64 t.p, .slice t.a t.n t.c] 24) := ⟨_, rfl⟩
  have hB0 : Below w.heap.size w W0 := by rw [hW0]; exact (Below.refl _ _).alloc (Nat.le_refl _) _
  have hx : W0.heap[w.heap.size]? = some (.cells #[.int .i64 t.p, .slice t.a t.n t.c] 24 (0, 0)) := by rw [hW0]; exact new_cell _ _ _
  have hV : ∀ V, Below W0.heap.size W0 V → t.ok V := fun V hV => (h.below hB0).below hV
  have hhe := fun V (hb : Below W0.heap.size W0 V) => heavy_any t V (hV V hb)
  have hrm := fun V (hb : Below W0.heap.size W0 V) => refmed_any t V (hV V hb)
  have HHE := Lib.hid hhe; have HRM := Lib.hid hrm; have HB0 := Lib.hid hB0; have HX := Lib.hid hx; have HW0 := Lib.hid hW0; have HV := Lib.hid hV
  clear hhe hrm hB0 hx hV
  obtain ⟨x0, x1, _⟩ := cells2 HX.out
  rw [hW0] at x0 x1
  clear hW0
  go_enter Try.func6, Try.ntmps6
  go_wp2_with (go_at_call 8; fail)
  rw [← HW0.out]
  refine (HHE.out W0 (Below.refl _ _)).mono ?_
  rintro e w1 ⟨he, hB1⟩
  clear x0 x1
  obtain ⟨x0, x1, _⟩ := cells2 (cells2at HX.out hB1)
  have HB1 := Lib.hid hB1
  clear hB1
  rcases he with rfl | ⟨rfl, h80, h300⟩
  · go_wp2
    go_ret
    exact ⟨rfl, HB0.out.trans (HB1.out.mono HB0.out.size)⟩
  clear h300
  have hr := HRM.out w1 HB1.out
  cases hg : goodK t.p t.ks with
  | false =>
    rw [hg] at hr
    have HR := Lib.hid hr
    clear hr hg
    go_wp2_with (go_at_call 14; refine HR.out.mono ?_; rintro e w2 ⟨rfl, hB2⟩; have HB2 := Lib.hid hB2; clear hB2)
    go_ret
    exact ⟨rfl, HB0.out.trans ((HB1.out.trans (HB2.out.mono HB1.out.size)).mono HB0.out.size)⟩
  | true =>
    rw [hg] at hr
    have HR := Lib.hid hr
    have HG := Lib.hid hg
    clear hr
    go_wp2_with (go_at_call 14; fail)
    refine HR.out.mono ?_
    rintro e w2 ⟨rfl, hB2⟩
    have HB2 := Lib.hid (HB1.out.trans (hB2.mono HB1.out.size))
    clear hB2 HR
    clear hg x0 x1
    obtain ⟨s1, s2, s3, s4, s5, _⟩ := (HV.out W0 (Below.refl _ _)).sizes HG.out
    have HN := Lib.hid (pnew w2)
    go_wp2_with (go_at_call 10; fail)
    refine HN.out.mono ?_
    rintro e w3 ⟨rfl, hp3, hB⟩
    have HBP := Lib.hid (HB2.out.trans (hB.mono HB2.out.size))
    have hnw := dnew_good w2.heap.size w2.heap.size w3.heap.size PP.new t w3 (HV.out _ HBP.out) HG.out hp3 (Nat.le_refl _)
    have HBW := Lib.hid hB; have HNW := Lib.hid hnw
    clear hnw hB hp3 HN
    obtain ⟨x0, x1, _⟩ := cells2 (cells2at HX.out HBP.out)
    go_wp2_with (go_at_call 13; fail)
    refine HNW.out.mono ?_
    rintro e w4 ⟨g, rfl, hgg, hs4, hB4⟩
    clear x0 x1 HNW hgg hB4
    have hb3 : ∀ V T, Dsy w3 V w2.heap.size w3.heap.size g w2.heap.size T PP.new → Below W0.heap.size W0 V := fun V T hs => HB2.out.trans ((HBW.out.trans hs.bel).mono HB2.out.size)
    have HB3 := Lib.hid hb3
    obtain ⟨ks, hks⟩ : ∃ ks, ks = t.ks := ⟨_, rfl⟩
    rw [← hks] at hs4 s5
    have HKS := Lib.hid hks
    have hg : goodK t.p ks = true := by rw [hks]; exact HG.out
    have hrd := fun (i : Int) V (hb : Below W0.heap.size W0 V) => read_any t i V (HV.out V hb) HG.out
    rw [← hks] at hrd
    have HRD := Lib.hid hrd; have HGK := Lib.hid hg
    have HS4 := Lib.hid hs4
    clear hs4 hb3 hks hg hrd
    go_wp2
    go_loopw [10] (fun iv wr => ∃ q : Nat, q ≤ t.n + 1 ∧ iv = .int .i64 q ∧ Dsy w3 wr w2.heap.size w3.heap.size g w2.heap.size ⟨t.p, ks, min q t.n⟩ PP.new) (fun iv _ => t.n + 1 - (intOf iv).toNat)
    case atStart => exact ⟨0, Nat.zero_le _, rfl, by rw [Nat.zero_min]; exact HS4.out⟩
    case round =>
      obtain ⟨q, hq, rfl, hs⟩ := hrel
      clear HS4
      have HBR := Lib.hid (HB3.out wr _ hs)
      obtain ⟨x0, x1, _⟩ := cells2 (cells2at HX.out HBR.out)
      by_cases hlt : q ≤ t.n
      · have d1 : decide ((q : Int) ≤ (t.n : Int)) = true := decide_eq_true (by omega)
        have d1' : decide (q ≤ t.n) = true := decide_eq_true hlt
        rw [Nat.min_eq_left hlt] at hs
        have hdr := dread hs
        have HDR := Lib.hid hdr
        clear hs hdr
        go_wp2_with (go_at_call 17; fail)
        refine HDR.out.mono ?_
        rintro e w5 ⟨ko, kc, rfl, ho5, hs5⟩
        rw [show PP.off PP.new = false from rfl] at ho5 hs5 ⊢
        rw [gone_at t.p ks q HGK.out (by omega)] at hs5
        rw [show TD.got ⟨t.p, ks, q⟩ false = rd ks q from rfl] at ho5 ⊢
        have hB5 := HB3.out w5 _ hs5
        have hrq := HRD.out q w5 hB5
        obtain ⟨r, hr⟩ : ∃ r, r = rd ks q := ⟨_, rfl⟩
        rw [← hr] at ho5 hrq ⊢
        obtain ⟨cd, zd⟩ := r
        obtain ⟨zl, hzl⟩ : ∃ zl, zl = zd.length := ⟨_, rfl⟩
        have HRQ := Lib.hid hrq; have HO5 := Lib.hid ho5; have HS5 := Lib.hid hs5; have HB5 := Lib.hid hB5
        clear x0 x1 ho5 hs5 hrq hB5 hr
        obtain ⟨x0, x1, _⟩ := cells2 (cells2at HX.out HB5.out)
        simp only at HO5 ⊢
        go_wp2_with (go_at_call 42; fail)
        refine HRQ.out.mono ?_
        intro e w6 h6
        obtain ⟨k6, c6, rfl, ho6, hB6⟩ := h6.out
        have hsm : zd.length ≤ maxLen := Nat.le_trans ho6.2.1 ho6.2.2.1
        have hcm := bytes_cmp ko k6 zd.length zd.length kc c6 zd zd w6 rfl rfl hsm (HO5.out.rd.below hB6) ho6.rd
        rw [decide_eq_true rfl] at hcm
        have hs6 := HS5.out.below hB6
        have HCM := Lib.hid hcm; have HS6 := Lib.hid hs6
        have f2 : (cd != cd) = false := by simp
        clear h6 ho6 hB6 hsm hcm hs6 x0 x1
        rw [← hzl] at HCM ⊢
        clear hzl
        go_wp2_with (go_at_call 19; refine HCM.out.mono ?_; rintro e w7 ⟨rfl, qn, hqn⟩; have HS7 := Lib.hid (show Dsy w3 w7 w2.heap.size w3.heap.size g w2.heap.size ⟨t.p, ks, if q < ks.length then q + 1 else q⟩ PP.new by rw [hqn]; exact HS6.out.below (below_drewN (Below.refl _ _) qn)); clear hqn)
        go_roundw
        case rel =>
          refine ⟨q + 1, by omega, by go_num, ?_⟩
          have := HS7.out
          by_cases hqn : q < ks.length
          · rw [if_pos hqn] at this
            rw [Nat.min_eq_left (by omega)]; exact this
          · rw [if_neg hqn] at this
            rw [Nat.min_eq_right (by omega), show t.n = q by omega]; exact this
        case measure => simp [intOf]; omega
      · have d1 : decide ((q : Int) ≤ (t.n : Int)) = false := decide_eq_false (by omega)
        have d1' : decide (q ≤ t.n) = false := decide_eq_false hlt
        obtain rfl : q = t.n + 1 := by omega
        rw [Nat.min_eq_right (by omega)] at hs
        have HS := Lib.hid hs
        have HB3R := HBR
        have hcx : ∀ V, Below wr.heap.size wr V → V.cell? ⟨w.heap.size, 0, none⟩ = some (.int .i64 t.p) ∧ V.cell? ⟨w.heap.size, 1, none⟩ = some (.slice t.a t.n t.c) := fun V hb => by
          obtain ⟨a, b, _⟩ := cells2 (cells2at HX.out (HB3R.out.trans (hb.mono HB3R.out.size)))
          exact ⟨a, b⟩
        have hpl := fun V (hb : Below wr.heap.size wr V) => dplace (hs.below hb)
        have hlf := fun V (hb : Below wr.heap.size wr V) => dleft (hs.below hb)
        have HCX := Lib.hid hcx; have HPL := Lib.hid hpl; have HLF := Lib.hid hlf
        have HBQ := Lib.hid (Below.refl wr.heap.size wr).drew
        have n1 : ((t.n : Int) != (t.n : Int)) = false := by simp
        have n2 : (t.p - (t.n : Int) != t.p - (t.n : Int)) = false := by simp
        have n3 : IntKind.i64.wrap (t.p - (t.n : Int)) = t.p - (t.n : Int) := IntWalk.i64_in _ (by omega)
        clear hs hcx hpl hlf
        go_wp2
        go_region_held3 (fun V => V.cell? ⟨w.heap.size, 0, none⟩ = some (.int .i64 t.p) ∧ V.cell? ⟨w.heap.size, 1, none⟩ = some (.slice t.a t.n t.c)) (exact HCX.out _ HBQ.out)
          ((first
            | (go_at_call 37; (with_reducible refine (HPL.out _ HBQ.out).mono ?_); rintro e wn ⟨rfl, rfl⟩)
            | (go_at_call 38; (with_reducible refine (HLF.out _ HBQ.out).mono ?_); rintro e wn ⟨rfl, hq⟩; have HBN : Hid (Below wr.heap.size wr wn) := (by obtain ⟨qn, hqn⟩ := hq; rw [hqn]; exact below_drewN HBQ.out qn); clear HBQ hq; have HBQ := Lib.hid HBN.out; clear HBN)))
        rename_i hheld
        clear hheld n2 n3 x0 x1
        obtain ⟨x0, x1⟩ := HCX.out _ HBQ.out
        have hB6 := HB3R.out.trans (HBQ.out.mono HB3R.out.size)
        have hfi := files_any t _ (HV.out _ hB6) HG.out
        rw [← HKS.out] at hfi
        have hmk := marks_le ks
        obtain ⟨mk, hmkk⟩ : ∃ mk, mk = marks ks := ⟨_, rfl⟩
        rw [← hmkk] at hfi hmk
        have hmk4 : mk ≤ 400 := by omega
        have HFI := Lib.hid hfi; have HB6 := Lib.hid hB6; have HS6 := Lib.hid (HS.out.below HBQ.out)
        clear hfi hB6 hmkk hmk
        go_wp2_with (go_at_call 41; fail)
        refine HFI.out.mono ?_
        rintro e w7 ⟨rfl, hB7⟩
        obtain ⟨N, hN1, hN2⟩ := uwrap_at p ((mk : Int) + 2) (by omega) (by omega)
        obtain ⟨K, hK1, hK2⟩ := uwrap_at u 20 (by omega) (by omega)
        have hlo := dlocate (HS6.out.below hB7) N K (by omega) (by omega)
        rw [show PP.off PP.new = false from rfl] at hlo
        have hB07 := HB6.out.trans (hB7.mono HB6.out.size)
        obtain ⟨l, hl⟩ : ∃ l, l = TD.loc ⟨t.p, ks, t.n⟩ false N K := ⟨_, rfl⟩
        rw [← hl] at hlo
        have hl2 : l = if (fileC ks N).2 ≠ 0 then (8, t.n) else if ks.length < (fileC ks N).1.toNat + K then (8, t.n) else if mkd ks (fileC ks N).1.toNat ((fileC ks N).1.toNat + K) = true then (8, t.n) else (0, (fileC ks N).1.toNat + K) := by
          rw [hl]; unfold TD.loc
          rw [if_neg (by decide), if_neg (by omega)]
          simp only [Int.toNat_natCast]
        have hfl := fun V (hb : Below W0.heap.size W0 V) => (file_big t N V (HV.out V hb) HG.out (by omega)).mono fun _ _ h => h.val
        rw [← HKS.out] at hfl
        have hft := fileC_two ks N
        obtain ⟨FF, hFF⟩ : ∃ FF, FF = fileC ks N := ⟨_, rfl⟩
        rw [← hFF] at hl2 hfl hft
        obtain ⟨FA, FC⟩ := FF
        obtain ⟨lc, la⟩ := l
        simp only at hl2 hfl hft hlo
        have HLO := Lib.hid hlo; have HFL := Lib.hid hfl; have HFT := Lib.hid hft; have HL2 := Lib.hid hl2; have HB7 := Lib.hid hB07
        clear hlo hfl hft hl2 hl hFF hB07 hB7 HFI hN1 x0 x1
        obtain ⟨x0, x1, _⟩ := cells2 (cells2at HX.out HB7.out)
        go_wp2_with (go_at_call 25; fail)
        rw [hN2, hK2]
        clear hN2 hK2
        refine HLO.out.mono ?_
        rintro e w8 ⟨rfl, hs8⟩
        have HB8 := Lib.hid (HB3.out w8 _ hs8)
        have hfl := HFL.out w8 HB8.out
        have HF8 := Lib.hid hfl; have HS8 := Lib.hid hs8
        have hwk := fun V => wakes12 V
        have HWK := Lib.hid hwk
        clear hwk hfl hs8 HLO HFL x0 x1 HBQ
        obtain ⟨x0, x1, _⟩ := cells2 (cells2at HX.out HB8.out)
        go_wp2_with (go_at_call 43; fail)
        refine HF8.out.mono ?_
        rintro e w9 ⟨rfl, hB9⟩
        have HB9 := Lib.hid (HB8.out.trans (hB9.mono HB8.out.size))
        have HS9 := Lib.hid (HS8.out.below hB9)
        have hc9 : ∀ V, Below w9.heap.size w9 V → V.cell? ⟨w.heap.size, 0, none⟩ = some (.int .i64 t.p) ∧ V.cell? ⟨w.heap.size, 1, none⟩ = some (.slice t.a t.n t.c) := fun V hb => by
          obtain ⟨a, b, _⟩ := cells2 (cells2at HX.out (HB9.out.trans (hb.mono HB9.out.size)))
          exact ⟨a, b⟩
        have hp9 := fun V (hb : Below w9.heap.size w9 V) => dplace (HS9.out.below hb)
        have HC9 := Lib.hid hc9; have HP9 := Lib.hid hp9
        clear hc9 hp9 hB9 x0 x1
        obtain ⟨x0, x1⟩ := HC9.out w9 (Below.refl _ _)
        have m1 : ((t.n : Int) == (t.n : Int)) = true := by simp
        rcases HFT.out with h8 | ⟨h0, f, hf, hfn⟩
        · subst h8
          have hl := HL2.out
          rw [if_pos (by decide)] at hl
          obtain ⟨rfl, rfl⟩ := Prod.mk.injEq _ _ _ _ ▸ hl
          clear hl
          have HBQ := Lib.hid (Below.refl w9.heap.size w9).drew
          go_wp2
          go_region_held3 (fun V => V.cell? ⟨w.heap.size, 0, none⟩ = some (.int .i64 t.p) ∧ V.cell? ⟨w.heap.size, 1, none⟩ = some (.slice t.a t.n t.c)) (exact HC9.out _ HBQ.out)
            ((first
              | (go_at_call 37; (with_reducible refine (HP9.out _ HBQ.out).mono ?_); rintro e wn ⟨rfl, rfl⟩)
              | (go_at_call 15; (with_reducible refine (HWK.out _).mono ?_); rintro e wn ⟨rfl, hBn⟩; have HBN := Lib.hid (HBQ.out.trans (hBn.mono HBQ.out.size)); clear HBQ hBn; have HBQ := Lib.hid HBN.out; clear HBN)))
          rename_i hheld
          clear hheld
          go_wp2
          go_ret
          exact ⟨rfl, HB0.out.trans ((HB9.out.trans (HBQ.out.mono HB9.out.size)).mono HB0.out.size)⟩
        · subst h0; subst hf
          have hl := HL2.out
          rw [if_neg (by decide), Int.toNat_natCast] at hl
          have b1 : (f : Int) + (K : Int) ≤ 1000 := by omega
          by_cases hfk : ks.length < f + K
          · rw [if_pos hfk] at hl
            obtain ⟨rfl, rfl⟩ := Prod.mk.injEq _ _ _ _ ▸ hl
            have g1 : decide ((t.n : Int) < (f : Int) + (K : Int)) = true := decide_eq_true (by omega)
            have g1' : decide (t.n < f + K) = true := decide_eq_true (by omega)
            clear hl
            have HBQ := Lib.hid (Below.refl w9.heap.size w9).drew
            go_wp2
            go_region_held3 (fun V => V.cell? ⟨w.heap.size, 0, none⟩ = some (.int .i64 t.p) ∧ V.cell? ⟨w.heap.size, 1, none⟩ = some (.slice t.a t.n t.c)) (exact HC9.out _ HBQ.out)
              ((first
                | (go_at_call 37; (with_reducible refine (HP9.out _ HBQ.out).mono ?_); rintro e wn ⟨rfl, rfl⟩)
                | (go_at_call 15; (with_reducible refine (HWK.out _).mono ?_); rintro e wn ⟨rfl, hBn⟩; have HBN := Lib.hid (HBQ.out.trans (hBn.mono HBQ.out.size)); clear HBQ hBn; have HBQ := Lib.hid HBN.out; clear HBN)))
            rename_i hheld
            clear hheld
            go_wp2
            go_ret
            exact ⟨rfl, HB0.out.trans ((HB9.out.trans (HBQ.out.mono HB9.out.size)).mono HB0.out.size)⟩
          · rw [if_neg hfk] at hl
            have g1 : decide ((t.n : Int) < (f : Int) + (K : Int)) = false := decide_eq_false (by omega)
            have g1' : decide (t.n < f + K) = false := decide_eq_false (by omega)
            have HLL := Lib.hid hl
            have hfk' : f + K ≤ ks.length := by omega
            have HFK := Lib.hid hfk'
            clear hl hfk hfk'
            go_wp2
            go_loopw [17] (fun iv wr => ∃ q : Nat, f ≤ q ∧ q ≤ f + K ∧ iv = .int .i64 q ∧ mkd ks f q = false ∧ Below w9.heap.size w9 wr) (fun iv _ => f + K - (intOf iv).toNat)
            case atStart => exact ⟨f, Nat.le_refl _, by omega, rfl, mkd_self _ _, Below.refl _ _⟩
            case round =>
              obtain ⟨q, hq1, hq2, rfl, hmd, hB⟩ := hrel
              have HMD := Lib.hid hmd; have HBL := Lib.hid hB
              clear hmd x0 x1
              obtain ⟨x0, x1⟩ := HC9.out _ hB
              by_cases hlt : q < f + K
              · have d1 : decide ((q : Int) < (f : Int) + (K : Int)) = true := decide_eq_true (by omega)
                have d1' : decide (q < f + K) = true := decide_eq_true hlt
                have hql : q < ks.length := by have := HFK.out; omega
                have hrq := HRD.out q wr (HB9.out.trans (hB.mono HB9.out.size))
                have hms := mkd_succ ks f q hq1 hql
                have hr15 := rd_mark ks q hql
                rw [HMD.out, Bool.false_or] at hms
                obtain ⟨r, hr⟩ : ∃ r, r = rd ks q := ⟨_, rfl⟩
                rw [← hr] at hrq hr15
                obtain ⟨cd, zd⟩ := r
                have hmm : mkd ks f (q + 1) = decide (cd = 15) := by
                  rw [hms]
                  by_cases h2 : ks[q].1 = 2
                  · rw [decide_eq_true (hr15.2 h2)]; exact beq_iff_eq.2 h2
                  · rw [decide_eq_false (fun h => h2 (hr15.1 h))]; exact beq_eq_false_iff_ne.2 h2
                have HRQ := Lib.hid hrq; have HMM := Lib.hid hmm
                clear hmm hrq hms hr15 hr hB hql
                go_wp2_with (go_at_call 42; fail)
                refine HRQ.out.mono ?_
                intro e w10 h10
                obtain ⟨k10, c10, rfl, ho10, hB10⟩ := h10.out
                have HB10 := Lib.hid (HBL.out.trans (hB10.mono HBL.out.size))
                clear h10 ho10 hB10 x0 x1
                by_cases hcd : cd = 15
                · have e15 : (cd == 15) = true := beq_iff_eq.2 hcd
                  have hmk2 : mkd ks f (f + K) = true := by
                    refine mkd_mono ks f (q + 1) (f + K) (by omega) (by omega) HFK.out ?_
                    rw [HMM.out]
                    exact decide_eq_true hcd
                  have hl := HLL.out
                  rw [if_pos hmk2] at hl
                  obtain ⟨rfl, rfl⟩ := Prod.mk.injEq _ _ _ _ ▸ hl
                  clear hl hmk2 hcd
                  go_wp2_with (go_at_call 15; refine (HWK.out _).mono ?_; rintro e w11 ⟨rfl, hB11⟩; have HB11 := Lib.hid (HB10.out.trans (hB11.mono HB10.out.size)); clear hB11)
                  go_ret
                  exact ⟨rfl, HB0.out.trans ((HB9.out.trans (HB11.out.mono HB9.out.size)).mono HB0.out.size)⟩
                · have e15 : (cd == 15) = false := beq_eq_false_iff_ne.2 hcd
                  have hmk2 : mkd ks f (q + 1) = false := by
                    rw [HMM.out]
                    exact decide_eq_false hcd
                  have HMK2 := Lib.hid hmk2
                  clear hmk2 hcd
                  go_wp2
                  go_roundw
                  case rel => exact ⟨q + 1, by omega, by omega, by go_num, HMK2.out, HB10.out⟩
                  case measure => simp [intOf]; omega
              · have d1 : decide ((q : Int) < (f : Int) + (K : Int)) = false := decide_eq_false (by omega)
                have d1' : decide (q < f + K) = false := decide_eq_false hlt
                obtain rfl : q = f + K := by omega
                have hl := HLL.out
                rw [if_neg (by rw [HMD.out]; decide)] at hl
                obtain ⟨rfl, rfl⟩ := Prod.mk.injEq _ _ _ _ ▸ hl
                have hpp := HP9.out _ hB
                have HPP := Lib.hid hpp
                have m2 : ((f : Int) + (K : Int) == (f : Int) + (K : Int)) = true := by simp
                clear hl hB hpp
                go_wp2_with (first
                  | (go_at_call 37; refine HPP.out.mono ?_; rintro e w10 ⟨rfl, rfl⟩)
                  | (go_at_call 15; refine (HWK.out _).mono ?_; rintro e w11 ⟨rfl, hB11⟩; have HB11 := Lib.hid (HBL.out.trans (hB11.mono HBL.out.size)); clear hB11))
                go_ret
                exact ⟨rfl, HB0.out.trans ((HB9.out.trans (HB11.out.mono HB9.out.size)).mono HB0.out.size)⟩
end Go.Proofs.Ytmcbmemgeegodaa
