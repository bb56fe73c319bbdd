/-
  DriveTorn: the walk.
-/
import Derived.Test.YtmcbmemgeegodaaDr8
namespace Go.Proofs.Ytmcbmemgeegodaa
open Go.RowKit
set_option linter.unusedVariables false

set_option maxRecDepth 100000 in
set_option maxHeartbeats 8000000 in
theorem torn_walk (bo : Option Addr) (n c : Nat) (ps : List Part) (p : Int) (d : Part) (torn what : Int) (w : World) (hp : ps.length = n) (hps : Ps w bo ps) (hd : d.ok w) :
    Calls Try.prog 4 #[.slice bo n c, .int .i64 p, .slice d.a d.l d.c, .int .i64 torn, .int .i64 what] w fun e w' => e = .returned (.bool true) ∧ Below w.heap.size w w' := by
  have hdl := hd.len
  have hds := hd.small
  obtain ⟨hdr, hdc⟩ := hd.room
  unfold maxLen at hds hdc
  have HPL := Lib.hid hp; have HPS := Lib.hid hps; have HD := Lib.hid hd; have HDL := Lib.hid hdl
  clear hp hps hd hdl
  by_cases h1 : 20 < n
  · have d1 : decide ((20 : Int) < (n : Int)) = true := decide_eq_true (by omega)
    have d1' : decide (20 < n) = true := decide_eq_true h1
    go_enter Try.func4, Try.ntmps4
    go_wp2
    go_ret
    exact ⟨rfl, Below.refl _ _⟩
  have d1 : decide ((20 : Int) < (n : Int)) = false := decide_eq_false (by omega)
  have d1' : decide (20 < n) = false := decide_eq_false h1
  by_cases hl1 : d.l < 1
  · have e1 : decide ((d.l : Int) < 1) = true := decide_eq_true (by omega)
    have e1' : decide (d.l < 1) = true := decide_eq_true hl1
    go_enter Try.func4, Try.ntmps4
    go_wp2
    go_ret
    exact ⟨rfl, Below.refl _ _⟩
  have e1 : decide ((d.l : Int) < 1) = false := decide_eq_false (by omega)
  have e1' : decide (d.l < 1) = false := decide_eq_false hl1
  by_cases hl2 : 256 < d.l
  · have e2 : decide ((256 : Int) < (d.l : Int)) = true := decide_eq_true (by omega)
    have e2' : decide (256 < d.l) = true := decide_eq_true hl2
    go_enter Try.func4, Try.ntmps4
    go_wp2
    go_ret
    exact ⟨rfl, Below.refl _ _⟩
  have e2 : decide ((256 : Int) < (d.l : Int)) = false := decide_eq_false (by omega)
  have e2' : decide (256 < d.l) = false := decide_eq_false hl2
  have HZ1 : Hid (1 ≤ d.z.length) := by show _ ≤ _; rw [HDL.out]; omega
  have HZ2 : Hid (d.z.length ≤ 256) := by show _ ≤ _; rw [HDL.out]; omega
  obtain ⟨ks, hks⟩ : ∃ ks, ks = ps.map fun p => bk p.z := ⟨_, rfl⟩
  have hkl : ks.length = n := by rw [hks, List.length_map]; exact HPL.out
  have hmk : marks ks = 0 := by rw [hks]; exact marks_bk ps
  have hkat : ∀ i, (h : i < ps.length) → ks[i]? = some (bk ps[i].z) := fun i h => by rw [hks, List.getElem?_map, List.getElem?_eq_getElem h]; rfl
  have HKL := Lib.hid hkl; have HMK := Lib.hid hmk; have HKA := Lib.hid hkat
  clear hks hkl hmk hkat
  have HN := Lib.hid (pnew w)
  go_enter Try.func4, Try.ntmps4
  go_wp2_with (go_at_call 10; fail)
  refine HN.out.mono ?_
  rintro e w3 ⟨rfl, hp3, hB⟩
  have hnw := dnew_good w.heap.size w.heap.size w3.heap.size PP.new ⟨30, none, 0, 0, []⟩ w3 (tap_blank _ _) (blank_good _ (by decide) (by decide)) hp3 (Nat.le_refl _)
  rw [show Tap.ks ⟨30, none, 0, 0, []⟩ = [] from rfl] at hnw
  simp only at hnw
  have HBW := Lib.hid hB; have HNW := Lib.hid hnw
  clear hnw hB hp3 HN
  go_wp2_with (go_at_call 13; fail)
  refine HNW.out.mono ?_
  rintro e w4 ⟨g, rfl, hgg, hs4, hB4⟩
  have hb3 : ∀ V T P, Dsy w3 V w.heap.size w3.heap.size g w.heap.size T P → Below w.heap.size w V := fun V T P hs => HBW.out.trans hs.bel
  have HB3 := Lib.hid hb3; have HS4 := Lib.hid hs4
  clear hb3 hs4 hB4 hgg HNW
  go_wp2
  go_loopw [14] (fun iv wr => ∃ q : Nat, q ≤ n ∧ iv = .int .i64 q ∧ Dsy w3 wr w.heap.size w3.heap.size g w.heap.size ⟨30, ks.take q, q⟩ PP.new) (fun iv _ => n - (intOf iv).toNat)
  case atStart => exact ⟨0, Nat.zero_le _, rfl, HS4.out⟩
  case round =>
    obtain ⟨q, hq, rfl, hs⟩ := hrel
    clear HS4
    by_cases hlt : q < n
    · have f1 : decide ((q : Int) < (n : Int)) = true := decide_eq_true (by omega)
      have f1' : decide (q < n) = true := decide_eq_true hlt
      have i1 : (0 : Int) ≤ (q : Int) := by omega
      have i2 : (q : Int) < (n : Int) := by omega
      have hB := HB3.out wr _ _ hs
      obtain ⟨rb, ro, rfl, hrc, hok⟩ := (HPS.out.below hB).at (r := q) (by rw [HPL.out]; exact hlt)
      have hka := HKA.out q (by rw [HPL.out]; exact hlt)
      have hokw : (ps[q]'(by rw [HPL.out]; exact hlt)).ok w := by
        obtain ⟨_, _, _, _, h⟩ := HPS.out.at (r := q) (by rw [HPL.out]; exact hlt)
        exact h
      obtain ⟨x, hxx⟩ : ∃ x, x = ps[q]'(by rw [HPL.out]; exact hlt) := ⟨_, rfl⟩
      rw [← hxx] at hrc hok hka hokw
      have hxs := hok.small
      unfold maxLen at hxs
      have HOK := Lib.hid hok; have HOW := Lib.hid hokw; have HS := Lib.hid hs; have HB := Lib.hid hB; have HKQ := Lib.hid hka
      clear hok hokw hs hB hxx hka
      by_cases h3 : x.l < 1
      · have e3 : decide ((x.l : Int) < 1) = true := decide_eq_true (by omega)
        have e3' : decide (x.l < 1) = true := decide_eq_true h3
        go_wp2
        go_ret
        exact ⟨rfl, HB.out⟩
      have e3 : decide ((x.l : Int) < 1) = false := decide_eq_false (by omega)
      have e3' : decide (x.l < 1) = false := decide_eq_false h3
      by_cases h4 : 256 < x.l
      · have e4 : decide ((256 : Int) < (x.l : Int)) = true := decide_eq_true (by omega)
        have e4' : decide (256 < x.l) = true := decide_eq_true h4
        go_wp2
        go_ret
        exact ⟨rfl, HB.out⟩
      have e4 : decide ((256 : Int) < (x.l : Int)) = false := decide_eq_false (by omega)
      have e4' : decide (256 < x.l) = false := decide_eq_false h4
      have hwr := dwrite x HS.out (fun V hb _ => HOW.out.below (HB.out.trans hb))
      have htk : (ks.take q).length = q := by rw [List.length_take, HKL.out]; omega
      rw [wri_ok 30 (ks.take q) q x.z (by omega) (by omega) (by rw [HOK.out.len]; omega) (by rw [HOK.out.len]; omega)] at hwr
      have hnx : (ks.take q).take q ++ [(1, x.z, false)] = ks.take (q + 1) := by
        have hqk : q < ks.length := by rw [HKL.out]; exact hlt
        rw [List.take_take, Nat.min_self, List.take_succ_eq_append_getElem hqk]
        have := HKQ.out
        rw [List.getElem?_eq_getElem hqk] at this
        rw [Option.some.inj this]; rfl
      rw [hnx] at hwr
      simp only at hwr
      have HWR := Lib.hid hwr
      clear hwr htk hnx
      go_wp2_with (go_at_call 34; fail)
      refine HWR.out.mono ?_
      rintro e w5 ⟨rfl, hs5⟩
      have HS5 := Lib.hid hs5
      clear hs5 HWR
      go_wp2
      go_roundw
      case rel => exact ⟨q + 1, by omega, by go_num, HS5.out⟩
      case measure => simp [intOf]; omega
    · have f1 : decide ((q : Int) < (n : Int)) = false := decide_eq_false (by omega)
      have f1' : decide (q < n) = false := decide_eq_false hlt
      obtain rfl : n = q := by omega
      rw [show ks.take n = ks by rw [← HKL.out]; exact List.take_length] at hs
      have HS := Lib.hid hs; have HB := Lib.hid (HB3.out wr _ _ hs)
      clear hs
      obtain ⟨K, hK1, hK2⟩ := uwrap_at p ((n : Int) + 1) (by omega) (by omega)
      have hKn : K ≤ n := by omega
      have hKk : K ≤ ks.length := by rw [HKL.out]; exact hKn
      have HKK := Lib.hid hKk
      have hlo := dlocate HS.out 0 K (by decide) (by omega)
      rw [show PP.off PP.new = false from rfl, loc_first 30 ks n K hKk HMK.out] at hlo
      simp only at hlo
      have HLO := Lib.hid hlo
      clear hlo hKk hK1
      go_wp2_with (go_at_call 25; fail)
      rw [hK2]
      clear hK2
      refine HLO.out.mono ?_
      rintro e w5 ⟨rfl, hs5⟩
      have HS5 := Lib.hid hs5; have HDM := Lib.hid (dmed hs5)
      clear hs5 HLO
      go_wp2_with (go_at_call 36; fail)
      refine HDM.out.mono ?_
      rintro e w6 ⟨ko6, n6, kc6, cs6, rfl, hO6, hk6, hB6⟩
      have hn6 : n6 = n := by rw [← HKL.out, ← hk6, keys_len, hO6.len]
      rw [hn6] at hO6 ⊢
      clear hn6
      obtain ⟨V6, hV6⟩ : ∃ V6, V6 = w6.alloc (.cells #[.int .i64 30, .slice ko6 n kc6] 24) := ⟨_, rfl⟩
      have hal : Below w6.heap.size w6 V6 := by rw [hV6]; exact (Below.refl _ _).alloc (Nat.le_refl _) _
      have hy : V6.heap[w6.heap.size]? = some (.cells #[.int .i64 30, .slice ko6 n kc6] 24 (0, 0)) := by rw [hV6]; exact new_cell _ _ _
      obtain ⟨g15, hg15⟩ : ∃ g15, g15 = w6.heap.size := ⟨_, rfl⟩
      rw [← hg15] at hy
      have hB56 : Below w5.heap.size w5 V6 := hB6.trans (hal.mono hB6.size)
      have hs6 := HS5.out.below hB56
      have hO66 := hO6.below hal
      obtain ⟨bw, hbw⟩ : ∃ bw, bw = w5.heap.size := ⟨_, rfl⟩
      have hbpz : w3.heap.size ≤ V6.heap.size := Nat.le_trans HS5.out.kt.size hB56.size
      have htr := ptrip V6 w3.heap.size w.heap.size PP.new 1 none 0 0 [] torn hs6.pw (by decide) hbpz rfl (by omega) (.inl rfl) (.inl rfl) (fun _ => ⟨rfl, rfl⟩)
      rw [trip_new] at htr
      have HTR := Lib.hid htr; have HV6 := Lib.hid hV6; have HG15 := Lib.hid hg15; have HS6 := Lib.hid hs6; have HY6 := Lib.hid hy; have HO6 := Lib.hid hO66; have HK6 := Lib.hid hk6
      have hgw5 : w.heap.size ≤ w5.heap.size := (HB3.out w5 _ _ HS5.out).size
      have HGW := Lib.hid hgw5
      clear htr hV6 hg15 hs6 hy hO66 hk6 hal hB56 hB6 hO6 hbw hbpz hgw5 HDM
      go_wp2_with (go_at_call 27; fail)
      rw [← HV6.out, ← HG15.out]
      refine HTR.out.mono ?_
      rintro e w7 ⟨rfl, hp7, hB7, ho7⟩
      have hs7 := HS6.out.spend hp7 hB7 ho7
      obtain ⟨cp, hcp⟩ := HS6.out.pw.blk
      have hk7 : KT (fun t => t == 78) none V6 w7 := KT.pon hcp rfl hB7.size ho7
      have hy7 := hk7.keep _ _ _ _ (fun e => by cases e) rfl HY6.out
      have hO7 := HO6.out.kt hk7 rfl rfl
      have HS7 := Lib.hid hs7; have HY7 := Lib.hid hy7; have HO7 := Lib.hid hO7
      clear hp7 hB7 ho7 hs7 hcp hk7 hy7 hO7 HTR
      obtain ⟨k3, hk3, hkw⟩ := urem_at what 3 (by decide) (by decide)
      have hwk := fun V => wakes12 V
      have HWK := Lib.hid hwk
      clear hwk
      obtain rfl | rfl | rfl : k3 = 0 ∨ k3 = 1 ∨ k3 = 2 := by omega
      · rw [show ((0 : Nat) : Int) = 0 from rfl] at hkw
        clear hk3
        have hac := dwrite d HS7.out.refl (fun V hb _ => HD.out.below ((HB3.out w7 _ _ HS7.out).trans hb))
        rw [wri_torn torn 30 ks K d.z HKK.out (by omega) HZ1.out HZ2.out] at hac
        simp only at hac
        obtain ⟨X, hX⟩ : ∃ X : List Key, X = [(3, d.z.take torn.toNat, false)] := ⟨_, rfl⟩
        rw [← hX] at hac
        obtain ⟨R, hR⟩ : ∃ R, R = left torn ks X K := ⟨_, rfl⟩
        rw [← hR] at hac
        have HAC := Lib.hid hac; have HX := Lib.hid hX; have HR := Lib.hid hR
        clear hac hX hR
        go_wp2_with (go_at_call 34; fail)
        refine HAC.out.mono ?_
        rintro e w8 ⟨rfl, hs8⟩
        have hk78 := hs8.kt
        have hy8 := hk78.keep _ _ _ _ (fun e => by cases e) rfl HY7.out
        have hO8 := HO7.out.kt hk78 rfl rfl
        have hb8 : Below w.heap.size w w8 := (HB3.out w7 _ _ HS7.out).trans hs8.bel
        have HY8 := Lib.hid hy8; have HO8 := Lib.hid hO8; have HB8 := Lib.hid hb8; have HS8 := Lib.hid hs8; have HDM8 := Lib.hid (dmed hs8)
        clear hk78 hy8 hO8 hb8 hs8 HAC
        go_wp2_with (go_at_call 36; fail)
        refine HDM8.out.mono ?_
        rintro e w9 ⟨ko9, n9, kc9, cs9, rfl, hO9, hk9, hB9⟩
        obtain ⟨V9, hV9⟩ : ∃ V9, V9 = w9.alloc (.cells #[.int .i64 30, .slice ko9 n9 kc9] 24) := ⟨_, rfl⟩
        have hal : Below w9.heap.size w9 V9 := by rw [hV9]; exact (Below.refl _ _).alloc (Nat.le_refl _) _
        have hz : V9.heap[w9.heap.size]? = some (.cells #[.int .i64 30, .slice ko9 n9 kc9] 24 (0, 0)) := by rw [hV9]; exact new_cell _ _ _
        obtain ⟨g17, hg17⟩ : ∃ g17, g17 = w9.heap.size := ⟨_, rfl⟩
        rw [← hg17] at hz
        have hB89 : Below w8.heap.size w8 V9 := hB9.trans (hal.mono hB9.size)
        have hs9 := HS8.out.below hB89
        have hn9 : n9 = R.length := by rw [← hk9, keys_len, hO9.len]
        have hKn9 : K ≤ n9 := by rw [hn9, HR.out]; exact left_len HKK.out
        have hn9m : n9 ≤ maxLen := Nat.le_trans hO9.room hO9.cm
        have hnkc : n9 ≤ kc9 := hO9.room
        unfold maxLen at hn9m
        have hy9 := cells2at HY8.out hB89
        have hO9' := hO9.below hal
        have hO69 := HO8.out.below hB89
        have hpo := poff V9 w3.heap.size w.heap.size (PL torn) hs9.pw
        have hpl := dplace hs9
        have hall : ∀ V, Below V9.heap.size V9 V → V.cell? ⟨g15, 0, none⟩ = some (.int .i64 30) ∧ V.cell? ⟨g15, 1, none⟩ = some (.slice ko6 n kc6) ∧ V.cell? ⟨g17, 0, none⟩ = some (.int .i64 30) ∧ V.cell? ⟨g17, 1, none⟩ = some (.slice ko9 n9 kc9) := fun V hb => by
          obtain ⟨a, b, _⟩ := cells2 (cells2at hy9 hb)
          obtain ⟨c, d, _⟩ := cells2 (cells2at hz hb)
          exact ⟨a, b, c, d⟩
        have hbb : Below w.heap.size w V9 := HB8.out.trans (hB89.mono HB8.out.size)
        have HAL := Lib.hid hall; have HPO := Lib.hid hpo; have HPP := Lib.hid hpl; have HBB := Lib.hid hbb; have HV9 := Lib.hid hV9; have HG17 := Lib.hid hg17; have HT9 := Lib.hid (hO9'.tap 30); have HT6 := Lib.hid (hO69.tap 30); have HN9 := Lib.hid hn9; have HK9 := Lib.hid hk9
        obtain ⟨y0, y1, z0, z1⟩ := hall V9 (Below.refl _ _)
        rw [hV9] at y0 y1 z0 z1
        clear hall hpo hpl hbb hV9 hg17 hO9' hO69 hal hz hB89 hs9 hn9 hk9 hB9 hO9 hy9 HDM8
        have m1 : ((n : Int) != (n : Int)) = false := by simp
        have m2 : ((K : Int) != (K : Int)) = false := by simp
        have m3 : decide ((n9 : Int) < (K : Int)) = false := decide_eq_false (by omega)
        have m3' : decide (n9 < K) = false := decide_eq_false (by omega)
        go_wp2_with (go_at_call 40; fail)
        rw [← HV9.out, ← HG17.out]
        rw [← HV9.out] at y0 y1 z0 z1
        refine HPO.out.mono ?_
        rintro e w10 ⟨rfl, rfl⟩
        rw [show (PL torn).off = true from rfl]
        go_wp2_with (go_at_call 37; refine HPP.out.mono ?_; rintro e w10 ⟨rfl, rfl⟩)
        clear y0 y1 z0 z1 m1 m2 m3 m3'
        go_loopw [18] (fun iv wr => ∃ q : Nat, q ≤ K ∧ iv = .int .i64 q ∧ Below V9.heap.size V9 wr) (fun iv _ => K - (intOf iv).toNat)
        case atStart => exact ⟨0, Nat.zero_le _, rfl, Below.refl _ _⟩
        case round =>
          obtain ⟨q, hqK, rfl, hB⟩ := hrel
          have HBL := Lib.hid (HBB.out.trans (hB.mono HBB.out.size))
          obtain ⟨y0, y1, z0, z1⟩ := HAL.out wr hB
          by_cases hlt : q < K
          · have f1 : decide ((q : Int) < (K : Int)) = true := decide_eq_true (by omega)
            have f1' : decide (q < K) = true := decide_eq_true hlt
            have i1 : (0 : Int) ≤ (q : Int) := by omega
            have i2 : (q : Int) < (n9 : Int) := by omega
            have i3 : (q : Int) < (n : Int) := by omega
            have hql : q < cs9.length := by have h0 := HT9.out.len; simp only at h0; omega
            obtain ⟨b9, o9, rfl, x0, x1, x2, hxo⟩ := (HT9.out.below hB).cells.at (k := q) hql
            obtain ⟨rb, ro, rfl, hrc, hok⟩ := (HPS.out.below HBL.out).at (r := q) (by rw [HPL.out]; omega)
            have hkk := keys_get cs9 q hql
            rw [HK9.out, HR.out, left_at HKK.out hlt, HKA.out q (by rw [HPL.out]; omega)] at hkk
            obtain ⟨y, hy⟩ : ∃ y, y = cs9[q]'hql := ⟨_, rfl⟩
            obtain ⟨x, hx⟩ : ∃ x, x = ps[q]'(by rw [HPL.out]; omega) := ⟨_, rfl⟩
            rw [← hy] at x0 x1 x2 hxo hkk
            rw [← hx] at hrc hok hkk
            obtain ⟨yk, yd, yb⟩ := y
            simp only [Cel.key, bk, Option.some.injEq, Prod.mk.injEq] at hkk x0 x1 x2 hxo
            obtain ⟨rfl, hyz, rfl⟩ := hkk
            have hcm := fun V (hb : Below wr.heap.size wr V) => bytes_cmp yd.a x.a yd.l x.l yd.c x.c yd.z x.z V hxo.len hok.len hxo.small (hxo.rd.below hb) (hok.rd.below hb)
            rw [decide_eq_true hyz.symm] at hcm
            have hcc : ∀ V, Below wr.heap.size wr V → V.cell? ⟨g17, 1, none⟩ = some (.slice (some ⟨b9, o9, none⟩) n9 kc9) ∧ V.cell? ⟨b9, o9 + q * 3, none⟩ = some (.int .i64 1) ∧ V.cell? ⟨b9, o9 + q * 3 + 1, none⟩ = some (.slice yd.a yd.l yd.c) ∧ V.cell? ⟨rb, ro + q, none⟩ = some (.slice x.a x.l x.c) := fun V hb =>
              ⟨by rw [hb.cell (cell_lt z1)]; exact z1, by rw [hb.cell (cell_lt x0)]; exact x0, by rw [hb.cell (cell_lt x1)]; exact x1, by rw [hb.cell (cell_lt hrc)]; exact hrc⟩
            have HCM := Lib.hid hcm; have HCC := Lib.hid hcc; have HB9 := Lib.hid hB
            have HBQ := Lib.hid (Below.refl wr.heap.size wr).drew
            clear hcm hcc hB hxo hok hyz hy hx hql x2 y0 y1
            go_wp2
            go_region_held3 (fun V => V.cell? ⟨g17, 1, none⟩ = some (.slice (some ⟨b9, o9, none⟩) n9 kc9) ∧ V.cell? ⟨b9, o9 + q * 3, none⟩ = some (.int .i64 1) ∧ V.cell? ⟨b9, o9 + q * 3 + 1, none⟩ = some (.slice yd.a yd.l yd.c) ∧ V.cell? ⟨rb, ro + q, none⟩ = some (.slice x.a x.l x.c)) (exact HCC.out _ HBQ.out)
              ((go_at_call 19; (with_reducible refine (HCM.out _ HBQ.out).mono ?_); rintro e wn ⟨rfl, hq⟩; have HBN : Hid (Below wr.heap.size wr wn) := (by obtain ⟨qn, hqn⟩ := hq; rw [hqn]; exact below_drewN HBQ.out qn); clear HBQ hq; have HBQ := Lib.hid HBN.out; clear HBN))
            rename_i hheld
            clear hheld
            go_wp2
            go_roundw
            case rel => exact ⟨q + 1, by omega, by go_num, HB9.out.trans (HBQ.out.mono HB9.out.size)⟩
            case measure => simp [intOf]; omega
          · have f1 : decide ((q : Int) < (K : Int)) = false := decide_eq_false (by omega)
            have f1' : decide (q < K) = false := decide_eq_false hlt
            obtain rfl : K = q := by omega
            by_cases ht : torn < 0
            · have t1 : decide (torn < 0) = true := decide_eq_true ht
              have hrk : R = ks := by rw [HR.out]; unfold left; rw [if_pos ht]
              have hkm := keep_med ⟨30, ko9, n9, kc9, cs9⟩ ⟨30, ko6, n, kc6, cs6⟩ wr (HT9.out.below hB) (HT6.out.below hB)
              rw [decide_eq_true (show (Tap.mk 30 ko9 n9 kc9 cs9).p = (Tap.mk 30 ko6 n kc6 cs6).p ∧ Tap.ks ⟨30, ko9, n9, kc9, cs9⟩ = Tap.ks ⟨30, ko6, n, kc6, cs6⟩ from ⟨rfl, (HK9.out.trans hrk).trans HK6.out.symm⟩)] at hkm
              have HKM := Lib.hid hkm
              clear hkm hrk hB ht
              go_wp2_with (first
                | (go_at_call 39; refine HKM.out.mono ?_; rintro e w12 ⟨rfl, hB12⟩; have HB12 := Lib.hid (HBL.out.trans (hB12.mono HBL.out.size)); clear HBL hB12; have HBL := Lib.hid HB12.out; clear HB12)
                | (go_at_call 15; refine (HWK.out _).mono ?_; rintro e w11 ⟨rfl, hB11⟩; have HB11 := Lib.hid (HBL.out.trans (hB11.mono HBL.out.size)); clear hB11))
              go_ret
              exact ⟨rfl, HB11.out⟩
            · have t1 : decide (torn < 0) = false := decide_eq_false ht
              have hrk : R = ks.take K ++ X := by rw [HR.out]; unfold left; rw [if_neg ht]
              have htl : (ks.take K).length = K := by rw [List.length_take, Nat.min_eq_left HKK.out]
              obtain rfl : n9 = K + 1 := by rw [HN9.out, hrk, List.length_append, htl, HX.out]; rfl
              have i1 : (0 : Int) ≤ (K : Int) := by omega
              have i2 : (K : Int) < (K : Int) + 1 := by omega
              have hql : K < cs9.length := by have h0 := HT9.out.len; simp only at h0; omega
              obtain ⟨b9, o9, rfl, x0, x1, x2, hxo⟩ := (HT9.out.below hB).cells.at (k := K) hql
              have hkk := keys_get cs9 K hql
              rw [HK9.out, hrk, List.getElem?_append_right (by rw [htl]; exact Nat.le_refl _), htl, Nat.sub_self, HX.out] at hkk
              obtain ⟨y, hy⟩ : ∃ y, y = cs9[K]'hql := ⟨_, rfl⟩
              rw [← hy] at x0 x1 x2 hxo hkk
              obtain ⟨yk, yd, yb⟩ := y
              simp only [Cel.key, List.getElem?_cons_zero, Option.some.injEq, Prod.mk.injEq] at hkk x0 x1 x2 hxo
              obtain ⟨rfl, hyz, rfl⟩ := hkk
              have q1 : ((K : Int) + 1 == (K : Int) + 1) = true := by simp
              have q2 : IntKind.i64.wrap ((K : Int) + 1) = (K : Int) + 1 := IntWalk.i64_in _ (by omega)
              obtain ⟨db, do_, hda, _⟩ := HD.out.rd.at (by have := HZ1.out; omega)
              obtain ⟨m, hm⟩ : ∃ m, m = min torn.toNat d.l := ⟨_, rfl⟩
              have hmin : ∀ ats W, (Builtin.min_ ats 3 #[.int .i64 torn, .int .i64 (d.l : Int)]).run Try.prog W = .ok (.int .i64 (m : Int)) W := fun ats W => by
                rw [run_min, show min torn (d.l : Int) = (m : Int) by rw [hm]; omega]
              have hzt : yd.z = d.z.take m := by
                rw [← hyz, hm, ← HDL.out]
                rw [List.take_eq_take_min]
              have hdw := HD.out.below HBL.out
              have hlm : (d.z.take m).length = m := by rw [List.length_take, HDL.out, hm]; omega
              have hcm := fun V (hb : Below wr.heap.size wr V) => bytes_cmp yd.a d.a yd.l m yd.c d.c yd.z (d.z.take m) V hxo.len hlm hxo.small (hxo.rd.below hb) ((hdw.rd.below hb).take m)
              rw [decide_eq_true hzt, hda] at hcm
              have s1 : (0 : Int) ≤ (m : Int) := by omega
              have s2 : (m : Int) ≤ (d.c : Int) := by omega
              have hcc : ∀ V, Below wr.heap.size wr V → V.cell? ⟨g17, 1, none⟩ = some (.slice (some ⟨b9, o9, none⟩) (K + 1) kc9) ∧ V.cell? ⟨b9, o9 + K * 3, none⟩ = some (.int .i64 3) ∧ V.cell? ⟨b9, o9 + K * 3 + 1, none⟩ = some (.slice yd.a yd.l yd.c) := fun V hb =>
                ⟨by rw [hb.cell (cell_lt z1)]; exact z1, by rw [hb.cell (cell_lt x0)]; exact x0, by rw [hb.cell (cell_lt x1)]; exact x1⟩
              have HCM := Lib.hid hcm; have HCC := Lib.hid hcc
              have HBQ := Lib.hid (Below.refl wr.heap.size wr).drew
              clear hcm hcc hB hxo hyz hy hql x2 y0 y1 hrk htl ht hzt hdw hlm hm
              go_wp2
              rw [hda]
              go_region_held3 (fun V => V.cell? ⟨g17, 1, none⟩ = some (.slice (some ⟨b9, o9, none⟩) (K + 1) kc9) ∧ V.cell? ⟨b9, o9 + K * 3, none⟩ = some (.int .i64 3) ∧ V.cell? ⟨b9, o9 + K * 3 + 1, none⟩ = some (.slice yd.a yd.l yd.c)) (exact HCC.out _ HBQ.out)
                ((first
                  | (go_at_call 19; (with_reducible refine (HCM.out _ HBQ.out).mono ?_); rintro e wn ⟨rfl, hq⟩; have HBN : Hid (Below wr.heap.size wr wn) := (by obtain ⟨qn, hqn⟩ := hq; rw [hqn]; exact below_drewN HBQ.out qn); clear HBQ hq; have HBQ := Lib.hid HBN.out; clear HBN)
                  | (go_at_call 15; (with_reducible refine (HWK.out _).mono ?_); rintro e wn ⟨rfl, hBn⟩; have HBN := Lib.hid (HBQ.out.trans (hBn.mono HBQ.out.size)); clear HBQ hBn; have HBQ := Lib.hid HBN.out; clear HBN)))
              rename_i hheld
              clear hheld
              go_wp2
              go_ret
              exact ⟨rfl, HBL.out.trans (HBQ.out.mono HBL.out.size)⟩
      · rw [show ((1 : Nat) : Int) = 1 from rfl] at hkw
        clear hk3
        have hac := dmark HS7.out.refl
        rw [mark_torn torn 30 ks K HKK.out (by omega)] at hac
        simp only at hac
        obtain ⟨X, hX⟩ : ∃ X : List Key, X = [(2, [], false)] := ⟨_, rfl⟩
        rw [← hX] at hac
        obtain ⟨R, hR⟩ : ∃ R, R = left torn ks X K := ⟨_, rfl⟩
        rw [← hR] at hac
        have HAC := Lib.hid hac; have HX := Lib.hid hX; have HR := Lib.hid hR
        clear hac hX hR
        go_wp2_with (go_at_call 21; fail)
        refine HAC.out.mono ?_
        rintro e w8 ⟨rfl, hs8⟩
        have hk78 := hs8.kt
        have hy8 := hk78.keep _ _ _ _ (fun e => by cases e) rfl HY7.out
        have hO8 := HO7.out.kt hk78 rfl rfl
        have hb8 : Below w.heap.size w w8 := (HB3.out w7 _ _ HS7.out).trans hs8.bel
        have HY8 := Lib.hid hy8; have HO8 := Lib.hid hO8; have HB8 := Lib.hid hb8; have HS8 := Lib.hid hs8; have HDM8 := Lib.hid (dmed hs8)
        clear hk78 hy8 hO8 hb8 hs8 HAC
        go_wp2_with (go_at_call 36; fail)
        refine HDM8.out.mono ?_
        rintro e w9 ⟨ko9, n9, kc9, cs9, rfl, hO9, hk9, hB9⟩
        obtain ⟨V9, hV9⟩ : ∃ V9, V9 = w9.alloc (.cells #[.int .i64 30, .slice ko9 n9 kc9] 24) := ⟨_, rfl⟩
        have hal : Below w9.heap.size w9 V9 := by rw [hV9]; exact (Below.refl _ _).alloc (Nat.le_refl _) _
        have hz : V9.heap[w9.heap.size]? = some (.cells #[.int .i64 30, .slice ko9 n9 kc9] 24 (0, 0)) := by rw [hV9]; exact new_cell _ _ _
        obtain ⟨g17, hg17⟩ : ∃ g17, g17 = w9.heap.size := ⟨_, rfl⟩
        rw [← hg17] at hz
        have hB89 : Below w8.heap.size w8 V9 := hB9.trans (hal.mono hB9.size)
        have hs9 := HS8.out.below hB89
        have hn9 : n9 = R.length := by rw [← hk9, keys_len, hO9.len]
        have hKn9 : K ≤ n9 := by rw [hn9, HR.out]; exact left_len HKK.out
        have hn9m : n9 ≤ maxLen := Nat.le_trans hO9.room hO9.cm
        have hnkc : n9 ≤ kc9 := hO9.room
        unfold maxLen at hn9m
        have hy9 := cells2at HY8.out hB89
        have hO9' := hO9.below hal
        have hO69 := HO8.out.below hB89
        have hpo := poff V9 w3.heap.size w.heap.size (PL torn) hs9.pw
        have hpl := dplace hs9
        have hall : ∀ V, Below V9.heap.size V9 V → V.cell? ⟨g15, 0, none⟩ = some (.int .i64 30) ∧ V.cell? ⟨g15, 1, none⟩ = some (.slice ko6 n kc6) ∧ V.cell? ⟨g17, 0, none⟩ = some (.int .i64 30) ∧ V.cell? ⟨g17, 1, none⟩ = some (.slice ko9 n9 kc9) := fun V hb => by
          obtain ⟨a, b, _⟩ := cells2 (cells2at hy9 hb)
          obtain ⟨c, d, _⟩ := cells2 (cells2at hz hb)
          exact ⟨a, b, c, d⟩
        have hbb : Below w.heap.size w V9 := HB8.out.trans (hB89.mono HB8.out.size)
        have HAL := Lib.hid hall; have HPO := Lib.hid hpo; have HPP := Lib.hid hpl; have HBB := Lib.hid hbb; have HV9 := Lib.hid hV9; have HG17 := Lib.hid hg17; have HT9 := Lib.hid (hO9'.tap 30); have HT6 := Lib.hid (hO69.tap 30); have HN9 := Lib.hid hn9; have HK9 := Lib.hid hk9
        obtain ⟨y0, y1, z0, z1⟩ := hall V9 (Below.refl _ _)
        rw [hV9] at y0 y1 z0 z1
        clear hall hpo hpl hbb hV9 hg17 hO9' hO69 hal hz hB89 hs9 hn9 hk9 hB9 hO9 hy9 HDM8
        have m1 : ((n : Int) != (n : Int)) = false := by simp
        have m2 : ((K : Int) != (K : Int)) = false := by simp
        have m3 : decide ((n9 : Int) < (K : Int)) = false := decide_eq_false (by omega)
        have m3' : decide (n9 < K) = false := decide_eq_false (by omega)
        go_wp2_with (go_at_call 40; fail)
        rw [← HV9.out, ← HG17.out]
        rw [← HV9.out] at y0 y1 z0 z1
        refine HPO.out.mono ?_
        rintro e w10 ⟨rfl, rfl⟩
        rw [show (PL torn).off = true from rfl]
        go_wp2_with (go_at_call 37; refine HPP.out.mono ?_; rintro e w10 ⟨rfl, rfl⟩)
        clear y0 y1 z0 z1 m1 m2 m3 m3'
        go_loopw [18] (fun iv wr => ∃ q : Nat, q ≤ K ∧ iv = .int .i64 q ∧ Below V9.heap.size V9 wr) (fun iv _ => K - (intOf iv).toNat)
        case atStart => exact ⟨0, Nat.zero_le _, rfl, Below.refl _ _⟩
        case round =>
          obtain ⟨q, hqK, rfl, hB⟩ := hrel
          have HBL := Lib.hid (HBB.out.trans (hB.mono HBB.out.size))
          obtain ⟨y0, y1, z0, z1⟩ := HAL.out wr hB
          by_cases hlt : q < K
          · have f1 : decide ((q : Int) < (K : Int)) = true := decide_eq_true (by omega)
            have f1' : decide (q < K) = true := decide_eq_true hlt
            have i1 : (0 : Int) ≤ (q : Int) := by omega
            have i2 : (q : Int) < (n9 : Int) := by omega
            have i3 : (q : Int) < (n : Int) := by omega
            have hql : q < cs9.length := by have h0 := HT9.out.len; simp only at h0; omega
            obtain ⟨b9, o9, rfl, x0, x1, x2, hxo⟩ := (HT9.out.below hB).cells.at (k := q) hql
            obtain ⟨rb, ro, rfl, hrc, hok⟩ := (HPS.out.below HBL.out).at (r := q) (by rw [HPL.out]; omega)
            have hkk := keys_get cs9 q hql
            rw [HK9.out, HR.out, left_at HKK.out hlt, HKA.out q (by rw [HPL.out]; omega)] at hkk
            obtain ⟨y, hy⟩ : ∃ y, y = cs9[q]'hql := ⟨_, rfl⟩
            obtain ⟨x, hx⟩ : ∃ x, x = ps[q]'(by rw [HPL.out]; omega) := ⟨_, rfl⟩
            rw [← hy] at x0 x1 x2 hxo hkk
            rw [← hx] at hrc hok hkk
            obtain ⟨yk, yd, yb⟩ := y
            simp only [Cel.key, bk, Option.some.injEq, Prod.mk.injEq] at hkk x0 x1 x2 hxo
            obtain ⟨rfl, hyz, rfl⟩ := hkk
            have hcm := fun V (hb : Below wr.heap.size wr V) => bytes_cmp yd.a x.a yd.l x.l yd.c x.c yd.z x.z V hxo.len hok.len hxo.small (hxo.rd.below hb) (hok.rd.below hb)
            rw [decide_eq_true hyz.symm] at hcm
            have hcc : ∀ V, Below wr.heap.size wr V → V.cell? ⟨g17, 1, none⟩ = some (.slice (some ⟨b9, o9, none⟩) n9 kc9) ∧ V.cell? ⟨b9, o9 + q * 3, none⟩ = some (.int .i64 1) ∧ V.cell? ⟨b9, o9 + q * 3 + 1, none⟩ = some (.slice yd.a yd.l yd.c) ∧ V.cell? ⟨rb, ro + q, none⟩ = some (.slice x.a x.l x.c) := fun V hb =>
              ⟨by rw [hb.cell (cell_lt z1)]; exact z1, by rw [hb.cell (cell_lt x0)]; exact x0, by rw [hb.cell (cell_lt x1)]; exact x1, by rw [hb.cell (cell_lt hrc)]; exact hrc⟩
            have HCM := Lib.hid hcm; have HCC := Lib.hid hcc; have HB9 := Lib.hid hB
            have HBQ := Lib.hid (Below.refl wr.heap.size wr).drew
            clear hcm hcc hB hxo hok hyz hy hx hql x2 y0 y1
            go_wp2
            go_region_held3 (fun V => V.cell? ⟨g17, 1, none⟩ = some (.slice (some ⟨b9, o9, none⟩) n9 kc9) ∧ V.cell? ⟨b9, o9 + q * 3, none⟩ = some (.int .i64 1) ∧ V.cell? ⟨b9, o9 + q * 3 + 1, none⟩ = some (.slice yd.a yd.l yd.c) ∧ V.cell? ⟨rb, ro + q, none⟩ = some (.slice x.a x.l x.c)) (exact HCC.out _ HBQ.out)
              ((go_at_call 19; (with_reducible refine (HCM.out _ HBQ.out).mono ?_); rintro e wn ⟨rfl, hq⟩; have HBN : Hid (Below wr.heap.size wr wn) := (by obtain ⟨qn, hqn⟩ := hq; rw [hqn]; exact below_drewN HBQ.out qn); clear HBQ hq; have HBQ := Lib.hid HBN.out; clear HBN))
            rename_i hheld
            clear hheld
            go_wp2
            go_roundw
            case rel => exact ⟨q + 1, by omega, by go_num, HB9.out.trans (HBQ.out.mono HB9.out.size)⟩
            case measure => simp [intOf]; omega
          · have f1 : decide ((q : Int) < (K : Int)) = false := decide_eq_false (by omega)
            have f1' : decide (q < K) = false := decide_eq_false hlt
            obtain rfl : K = q := by omega
            by_cases ht : torn < 0
            · have t1 : decide (torn < 0) = true := decide_eq_true ht
              have hrk : R = ks := by rw [HR.out]; unfold left; rw [if_pos ht]
              have hkm := keep_med ⟨30, ko9, n9, kc9, cs9⟩ ⟨30, ko6, n, kc6, cs6⟩ wr (HT9.out.below hB) (HT6.out.below hB)
              rw [decide_eq_true (show (Tap.mk 30 ko9 n9 kc9 cs9).p = (Tap.mk 30 ko6 n kc6 cs6).p ∧ Tap.ks ⟨30, ko9, n9, kc9, cs9⟩ = Tap.ks ⟨30, ko6, n, kc6, cs6⟩ from ⟨rfl, (HK9.out.trans hrk).trans HK6.out.symm⟩)] at hkm
              have HKM := Lib.hid hkm
              clear hkm hrk hB ht
              go_wp2_with (first
                | (go_at_call 39; refine HKM.out.mono ?_; rintro e w12 ⟨rfl, hB12⟩; have HB12 := Lib.hid (HBL.out.trans (hB12.mono HBL.out.size)); clear HBL hB12; have HBL := Lib.hid HB12.out; clear HB12)
                | (go_at_call 15; refine (HWK.out _).mono ?_; rintro e w11 ⟨rfl, hB11⟩; have HB11 := Lib.hid (HBL.out.trans (hB11.mono HBL.out.size)); clear hB11))
              go_ret
              exact ⟨rfl, HB11.out⟩
            · have t1 : decide (torn < 0) = false := decide_eq_false ht
              have hrk : R = ks.take K ++ X := by rw [HR.out]; unfold left; rw [if_neg ht]
              have htl : (ks.take K).length = K := by rw [List.length_take, Nat.min_eq_left HKK.out]
              obtain rfl : n9 = K + 1 := by rw [HN9.out, hrk, List.length_append, htl, HX.out]; rfl
              have i1 : (0 : Int) ≤ (K : Int) := by omega
              have i2 : (K : Int) < (K : Int) + 1 := by omega
              have hql : K < cs9.length := by have h0 := HT9.out.len; simp only at h0; omega
              obtain ⟨b9, o9, rfl, x0, x1, x2, hxo⟩ := (HT9.out.below hB).cells.at (k := K) hql
              have hkk := keys_get cs9 K hql
              rw [HK9.out, hrk, List.getElem?_append_right (by rw [htl]; exact Nat.le_refl _), htl, Nat.sub_self, HX.out] at hkk
              obtain ⟨y, hy⟩ : ∃ y, y = cs9[K]'hql := ⟨_, rfl⟩
              rw [← hy] at x0 x1 x2 hxo hkk
              obtain ⟨yk, yd, yb⟩ := y
              simp only [Cel.key, List.getElem?_cons_zero, Option.some.injEq, Prod.mk.injEq] at hkk x0 x1 x2 hxo
              obtain ⟨rfl, hyz, rfl⟩ := hkk
              have q1 : ((K : Int) + 1 == (K : Int) + 1) = true := by simp
              have q2 : IntKind.i64.wrap ((K : Int) + 1) = (K : Int) + 1 := IntWalk.i64_in _ (by omega)
              clear hB hxo hyz hy hql x1 x2 y0 y1 hrk htl ht
              go_wp2_with (go_at_call 15; refine (HWK.out _).mono ?_; rintro e w11 ⟨rfl, hB11⟩; have HB11 := Lib.hid (HBL.out.trans (hB11.mono HBL.out.size)); clear hB11)
              go_ret
              exact ⟨rfl, HB11.out⟩
      · rw [show ((2 : Nat) : Int) = 2 from rfl] at hkw
        clear hk3
        have hac := dfin HS7.out.refl
        rw [fin_torn torn 30 ks K HKK.out] at hac
        simp only at hac
        obtain ⟨X, hX⟩ : ∃ X : List Key, X = [] := ⟨_, rfl⟩
        rw [← hX] at hac
        obtain ⟨R, hR⟩ : ∃ R, R = left torn ks X K := ⟨_, rfl⟩
        rw [← hR] at hac
        have HAC := Lib.hid hac; have HX := Lib.hid hX; have HR := Lib.hid hR
        clear hac hX hR
        go_wp2_with (go_at_call 23; fail)
        refine HAC.out.mono ?_
        rintro e w8 ⟨rfl, hs8⟩
        have hk78 := hs8.kt
        have hy8 := hk78.keep _ _ _ _ (fun e => by cases e) rfl HY7.out
        have hO8 := HO7.out.kt hk78 rfl rfl
        have hb8 : Below w.heap.size w w8 := (HB3.out w7 _ _ HS7.out).trans hs8.bel
        have HY8 := Lib.hid hy8; have HO8 := Lib.hid hO8; have HB8 := Lib.hid hb8; have HS8 := Lib.hid hs8; have HDM8 := Lib.hid (dmed hs8)
        clear hk78 hy8 hO8 hb8 hs8 HAC
        go_wp2_with (go_at_call 36; fail)
        refine HDM8.out.mono ?_
        rintro e w9 ⟨ko9, n9, kc9, cs9, rfl, hO9, hk9, hB9⟩
        obtain ⟨V9, hV9⟩ : ∃ V9, V9 = w9.alloc (.cells #[.int .i64 30, .slice ko9 n9 kc9] 24) := ⟨_, rfl⟩
        have hal : Below w9.heap.size w9 V9 := by rw [hV9]; exact (Below.refl _ _).alloc (Nat.le_refl _) _
        have hz : V9.heap[w9.heap.size]? = some (.cells #[.int .i64 30, .slice ko9 n9 kc9] 24 (0, 0)) := by rw [hV9]; exact new_cell _ _ _
        obtain ⟨g17, hg17⟩ : ∃ g17, g17 = w9.heap.size := ⟨_, rfl⟩
        rw [← hg17] at hz
        have hB89 : Below w8.heap.size w8 V9 := hB9.trans (hal.mono hB9.size)
        have hs9 := HS8.out.below hB89
        have hn9 : n9 = R.length := by rw [← hk9, keys_len, hO9.len]
        have hKn9 : K ≤ n9 := by rw [hn9, HR.out]; exact left_len HKK.out
        have hn9m : n9 ≤ maxLen := Nat.le_trans hO9.room hO9.cm
        have hnkc : n9 ≤ kc9 := hO9.room
        unfold maxLen at hn9m
        have hy9 := cells2at HY8.out hB89
        have hO9' := hO9.below hal
        have hO69 := HO8.out.below hB89
        have hpo := poff V9 w3.heap.size w.heap.size (PL torn) hs9.pw
        have hpl := dplace hs9
        have hall : ∀ V, Below V9.heap.size V9 V → V.cell? ⟨g15, 0, none⟩ = some (.int .i64 30) ∧ V.cell? ⟨g15, 1, none⟩ = some (.slice ko6 n kc6) ∧ V.cell? ⟨g17, 0, none⟩ = some (.int .i64 30) ∧ V.cell? ⟨g17, 1, none⟩ = some (.slice ko9 n9 kc9) := fun V hb => by
          obtain ⟨a, b, _⟩ := cells2 (cells2at hy9 hb)
          obtain ⟨c, d, _⟩ := cells2 (cells2at hz hb)
          exact ⟨a, b, c, d⟩
        have hbb : Below w.heap.size w V9 := HB8.out.trans (hB89.mono HB8.out.size)
        have HAL := Lib.hid hall; have HPO := Lib.hid hpo; have HPP := Lib.hid hpl; have HBB := Lib.hid hbb; have HV9 := Lib.hid hV9; have HG17 := Lib.hid hg17; have HT9 := Lib.hid (hO9'.tap 30); have HT6 := Lib.hid (hO69.tap 30); have HN9 := Lib.hid hn9; have HK9 := Lib.hid hk9
        obtain ⟨y0, y1, z0, z1⟩ := hall V9 (Below.refl _ _)
        rw [hV9] at y0 y1 z0 z1
        clear hall hpo hpl hbb hV9 hg17 hO9' hO69 hal hz hB89 hs9 hn9 hk9 hB9 hO9 hy9 HDM8
        have m1 : ((n : Int) != (n : Int)) = false := by simp
        have m2 : ((K : Int) != (K : Int)) = false := by simp
        have m3 : decide ((n9 : Int) < (K : Int)) = false := decide_eq_false (by omega)
        have m3' : decide (n9 < K) = false := decide_eq_false (by omega)
        go_wp2_with (go_at_call 40; fail)
        rw [← HV9.out, ← HG17.out]
        rw [← HV9.out] at y0 y1 z0 z1
        refine HPO.out.mono ?_
        rintro e w10 ⟨rfl, rfl⟩
        rw [show (PL torn).off = true from rfl]
        go_wp2_with (go_at_call 37; refine HPP.out.mono ?_; rintro e w10 ⟨rfl, rfl⟩)
        clear y0 y1 z0 z1 m1 m2 m3 m3'
        go_loopw [18] (fun iv wr => ∃ q : Nat, q ≤ K ∧ iv = .int .i64 q ∧ Below V9.heap.size V9 wr) (fun iv _ => K - (intOf iv).toNat)
        case atStart => exact ⟨0, Nat.zero_le _, rfl, Below.refl _ _⟩
        case round =>
          obtain ⟨q, hqK, rfl, hB⟩ := hrel
          have HBL := Lib.hid (HBB.out.trans (hB.mono HBB.out.size))
          obtain ⟨y0, y1, z0, z1⟩ := HAL.out wr hB
          by_cases hlt : q < K
          · have f1 : decide ((q : Int) < (K : Int)) = true := decide_eq_true (by omega)
            have f1' : decide (q < K) = true := decide_eq_true hlt
            have i1 : (0 : Int) ≤ (q : Int) := by omega
            have i2 : (q : Int) < (n9 : Int) := by omega
            have i3 : (q : Int) < (n : Int) := by omega
            have hql : q < cs9.length := by have h0 := HT9.out.len; simp only at h0; omega
            obtain ⟨b9, o9, rfl, x0, x1, x2, hxo⟩ := (HT9.out.below hB).cells.at (k := q) hql
            obtain ⟨rb, ro, rfl, hrc, hok⟩ := (HPS.out.below HBL.out).at (r := q) (by rw [HPL.out]; omega)
            have hkk := keys_get cs9 q hql
            rw [HK9.out, HR.out, left_at HKK.out hlt, HKA.out q (by rw [HPL.out]; omega)] at hkk
            obtain ⟨y, hy⟩ : ∃ y, y = cs9[q]'hql := ⟨_, rfl⟩
            obtain ⟨x, hx⟩ : ∃ x, x = ps[q]'(by rw [HPL.out]; omega) := ⟨_, rfl⟩
            rw [← hy] at x0 x1 x2 hxo hkk
            rw [← hx] at hrc hok hkk
            obtain ⟨yk, yd, yb⟩ := y
            simp only [Cel.key, bk, Option.some.injEq, Prod.mk.injEq] at hkk x0 x1 x2 hxo
            obtain ⟨rfl, hyz, rfl⟩ := hkk
            have hcm := fun V (hb : Below wr.heap.size wr V) => bytes_cmp yd.a x.a yd.l x.l yd.c x.c yd.z x.z V hxo.len hok.len hxo.small (hxo.rd.below hb) (hok.rd.below hb)
            rw [decide_eq_true hyz.symm] at hcm
            have hcc : ∀ V, Below wr.heap.size wr V → V.cell? ⟨g17, 1, none⟩ = some (.slice (some ⟨b9, o9, none⟩) n9 kc9) ∧ V.cell? ⟨b9, o9 + q * 3, none⟩ = some (.int .i64 1) ∧ V.cell? ⟨b9, o9 + q * 3 + 1, none⟩ = some (.slice yd.a yd.l yd.c) ∧ V.cell? ⟨rb, ro + q, none⟩ = some (.slice x.a x.l x.c) := fun V hb =>
              ⟨by rw [hb.cell (cell_lt z1)]; exact z1, by rw [hb.cell (cell_lt x0)]; exact x0, by rw [hb.cell (cell_lt x1)]; exact x1, by rw [hb.cell (cell_lt hrc)]; exact hrc⟩
            have HCM := Lib.hid hcm; have HCC := Lib.hid hcc; have HB9 := Lib.hid hB
            have HBQ := Lib.hid (Below.refl wr.heap.size wr).drew
            clear hcm hcc hB hxo hok hyz hy hx hql x2 y0 y1
            go_wp2
            go_region_held3 (fun V => V.cell? ⟨g17, 1, none⟩ = some (.slice (some ⟨b9, o9, none⟩) n9 kc9) ∧ V.cell? ⟨b9, o9 + q * 3, none⟩ = some (.int .i64 1) ∧ V.cell? ⟨b9, o9 + q * 3 + 1, none⟩ = some (.slice yd.a yd.l yd.c) ∧ V.cell? ⟨rb, ro + q, none⟩ = some (.slice x.a x.l x.c)) (exact HCC.out _ HBQ.out)
              ((go_at_call 19; (with_reducible refine (HCM.out _ HBQ.out).mono ?_); rintro e wn ⟨rfl, hq⟩; have HBN : Hid (Below wr.heap.size wr wn) := (by obtain ⟨qn, hqn⟩ := hq; rw [hqn]; exact below_drewN HBQ.out qn); clear HBQ hq; have HBQ := Lib.hid HBN.out; clear HBN))
            rename_i hheld
            clear hheld
            go_wp2
            go_roundw
            case rel => exact ⟨q + 1, by omega, by go_num, HB9.out.trans (HBQ.out.mono HB9.out.size)⟩
            case measure => simp [intOf]; omega
          · have f1 : decide ((q : Int) < (K : Int)) = false := decide_eq_false (by omega)
            have f1' : decide (q < K) = false := decide_eq_false hlt
            obtain rfl : K = q := by omega
            by_cases ht : torn < 0
            · have t1 : decide (torn < 0) = true := decide_eq_true ht
              have hrk : R = ks := by rw [HR.out]; unfold left; rw [if_pos ht]
              have hkm := keep_med ⟨30, ko9, n9, kc9, cs9⟩ ⟨30, ko6, n, kc6, cs6⟩ wr (HT9.out.below hB) (HT6.out.below hB)
              rw [decide_eq_true (show (Tap.mk 30 ko9 n9 kc9 cs9).p = (Tap.mk 30 ko6 n kc6 cs6).p ∧ Tap.ks ⟨30, ko9, n9, kc9, cs9⟩ = Tap.ks ⟨30, ko6, n, kc6, cs6⟩ from ⟨rfl, (HK9.out.trans hrk).trans HK6.out.symm⟩)] at hkm
              have HKM := Lib.hid hkm
              clear hkm hrk hB ht
              go_wp2_with (first
                | (go_at_call 39; refine HKM.out.mono ?_; rintro e w12 ⟨rfl, hB12⟩; have HB12 := Lib.hid (HBL.out.trans (hB12.mono HBL.out.size)); clear HBL hB12; have HBL := Lib.hid HB12.out; clear HB12)
                | (go_at_call 15; refine (HWK.out _).mono ?_; rintro e w11 ⟨rfl, hB11⟩; have HB11 := Lib.hid (HBL.out.trans (hB11.mono HBL.out.size)); clear hB11))
              go_ret
              exact ⟨rfl, HB11.out⟩
            · have t1 : decide (torn < 0) = false := decide_eq_false ht
              have hrk : R = ks.take K ++ X := by rw [HR.out]; unfold left; rw [if_neg ht]
              have htl : (ks.take K).length = K := by rw [List.length_take, Nat.min_eq_left HKK.out]
              obtain rfl : n9 = K := by rw [HN9.out, hrk, List.length_append, htl, HX.out]; rfl
              have q1 : ((n9 : Int) == (n9 : Int)) = true := by simp
              clear hB y0 y1 hrk htl ht
              go_wp2_with (go_at_call 15; refine (HWK.out _).mono ?_; rintro e w11 ⟨rfl, hB11⟩; have HB11 := Lib.hid (HBL.out.trans (hB11.mono HBL.out.size)); clear hB11)
              go_ret
              exact ⟨rfl, HB11.out⟩
end Go.Proofs.Ytmcbmemgeegodaa
