/-
  DriveMarks: the walk.
-/
import Derived.Test.YtmcbmemgeegodaaDr9
namespace Go.Proofs.Ytmcbmemgeegodaa
open Go.RowKit
set_option linter.unusedVariables false

/-- The blocks of file m that are written. -/
def part (kf : Nat → Nat) (m j : Nat) : List Key := CF kf m ++ (fl kf m).take j
theorem part_zero (kf : Nat → Nat) (m : Nat) : part kf m 0 = CF kf m := by unfold part; simp
theorem part_len (kf : Nat → Nat) (m j : Nat) (h : j ≤ kf m) : (part kf m j).length = st kf m + j := by
  unfold part st; rw [List.length_append, List.length_take, fl_len]; omega
theorem part_blk (kf : Nat → Nat) (m j : Nat) (h : j < kf m) : (part kf m j).take (st kf m + j) ++ [(1, [(m : Int), (j : Int)], false)] = part kf m (j + 1) := by
  rw [← part_len kf m j (by omega), List.take_length]
  unfold part
  have hl : j < (fl kf m).length := by rw [fl_len]; omega
  have hg := fl_blk kf m j h
  rw [List.getElem?_eq_getElem hl] at hg
  rw [List.take_succ_eq_append_getElem hl, Option.some.inj hg, List.append_assoc]
theorem part_mark (kf : Nat → Nat) (m : Nat) : (part kf m (kf m)).take (st kf m + kf m) ++ [(2, [], false)] = CF kf (m + 1) := by
  rw [← part_len kf m (kf m) (Nat.le_refl _), List.take_length]
  unfold part
  rw [CF, List.append_assoc]
  congr 1
  have hl : kf m < (fl kf m).length := by rw [fl_len]; omega
  have hg := fl_mark kf m
  rw [List.getElem?_eq_getElem hl] at hg
  have h2 := List.take_succ_eq_append_getElem hl
  rw [Option.some.inj hg] at h2
  rw [← h2, ← fl_len kf m, List.take_length]
theorem mark_ok (p : Int) (ks : List Key) (k : Nat) (hk : k ≤ ks.length) (hp : (k : Int) ≠ p) : TD.mark ⟨p, ks, k⟩ PP.new = (0, ⟨p, ks.take k ++ [(2, [], false)], k + 1⟩, PP.new) := by
  have hm : markK p ks k = (0, p, ks.take k ++ [(2, [], false)]) := by
    unfold markK
    rw [if_pos (by omega), if_neg hp, Int.toNat_natCast]
  unfold TD.mark
  rw [if_neg (show ¬ PP.new.off = true by decide)]
  simp only
  rw [hm, if_neg (show ¬ (0 : Int) ≠ 0 by decide), if_pos (show PP.new.spent = true by decide)]
  rfl
theorem part_two (w : World) (a b : Int) (ha : 0 ≤ a ∧ a ≤ 255) (hb : 0 ≤ b ∧ b ≤ 255) : Own1 (w.alloc (.cells #[.int .u8 a, .int .u8 b] 5)) ⟨some ⟨w.heap.size, 0, none⟩, 2, 2, [a, b]⟩ := by
  have h := part_new w [a, b] 5 (0, 0) (fun j hj => by
    match j, hj with
    | 0, _ => exact ha
    | 1, _ => exact hb
    | j + 2, hj => simp at hj; omega) (show 2 ≤ maxLen by decide)
  exact ⟨h, .inr ⟨_, _, rfl, heap_alloc_new _ _⟩⟩

set_option maxRecDepth 100000 in
set_option maxHeartbeats 8000000 in
theorem marks_walk (fo : Option Addr) (m c : Nat) (zs : List Int) (n block : Int) (w : World) (hl : zs.length = m) (hni : Ni w fo zs) :
    Calls Try.prog 5 #[.slice fo m c, .int .i64 n, .int .i64 block] w fun e w' => e = .returned (.bool true) ∧ Below w.heap.size w w' := by
  by_cases h1 : 12 < m
  · have d1 : decide ((12 : Int) < (m : Int)) = true := decide_eq_true (by omega)
    have d1' : decide (12 < m) = true := decide_eq_true h1
    go_enter Try.func5, Try.ntmps5
    go_wp2
    go_ret
    exact ⟨rfl, Below.refl _ _⟩
  have d1 : decide ((12 : Int) < (m : Int)) = false := decide_eq_false (by omega)
  have d1' : decide (12 < m) = false := decide_eq_false h1
  have hkf0 : ∀ i, ∃ k : Nat, k ≤ 9 ∧ wrap64 ((IntKind.u64.wrap (zs.getD i 0)).tmod 10) = k := fun i => by
    obtain ⟨k, h1, h2⟩ := uwrap_at (zs.getD i 0) 10 (by omega) (by omega)
    exact ⟨k, by omega, h2⟩
  obtain ⟨kf, hkf⟩ : ∃ kf : Nat → Nat, ∀ i, kf i ≤ 9 ∧ wrap64 ((IntKind.u64.wrap (zs.getD i 0)).tmod 10) = kf i := ⟨fun i => (hkf0 i).choose, fun i => (hkf0 i).choose_spec⟩
  have hst : ∀ i, i ≤ 12 → st kf i ≤ 120 := fun i hi => by have := st_most kf (fun i => (hkf i).1) i; omega
  have HKF := Lib.hid hkf; have HST := Lib.hid hst; have HZL := Lib.hid hl; have HNI := Lib.hid hni
  have HN := Lib.hid (pnew w)
  clear hkf0 hkf hst hl hni
  go_enter Try.func5, Try.ntmps5
  go_wp2_with (go_at_call 10; fail)
  refine HN.out.mono ?_
  rintro e w3 ⟨rfl, hp3, hB⟩
  have hnw := dnew_good w.heap.size w.heap.size w3.heap.size PP.new ⟨200, none, 0, 0, []⟩ w3 (tap_blank _ _) (blank_good _ (by decide) (by decide)) hp3 (Nat.le_refl _)
  rw [show Tap.ks ⟨200, none, 0, 0, []⟩ = [] from rfl] at hnw
  simp only at hnw
  have HBW := Lib.hid hB; have HNW := Lib.hid hnw
  clear hnw hB hp3 HN
  go_wp2_with (go_at_call 13; fail)
  refine HNW.out.mono ?_
  rintro e w4 ⟨g, rfl, hgg, hs4, hB4⟩
  have HB4 := Lib.hid (HBW.out.trans (hB4.mono HBW.out.size)); have HS4 := Lib.hid hs4.refl
  clear hs4 hB4 hgg HNW
  go_wp2
  go_loopw [10, 11] (fun av iv wr => ∃ (q : Nat) (ao : Option Addr) (ac : Nat), q ≤ m ∧ iv = .int .i64 q ∧ av = .slice ao q ac ∧ On wr w.heap.size ao q ac ((List.range q).map fun i => ((st kf i : Nat) : Int)) ∧ Dsy wr wr w.heap.size w3.heap.size g w.heap.size ⟨200, CF kf q, st kf q⟩ PP.new ∧ Below w.heap.size w wr) (fun _ iv _ => m - (intOf iv).toNat)
  case atStart => exact ⟨0, none, 0, Nat.zero_le _, rfl, rfl, On.nil _ _, HS4.out, HB4.out⟩
  case round =>
    obtain ⟨q, ao, ac, hq, rfl, rfl, hon, hs, hB⟩ := hrel
    clear HS4 HB4
    by_cases hlt : q < m
    · have f1 : decide ((q : Int) < (m : Int)) = true := decide_eq_true (by omega)
      have f1' : decide (q < m) = true := decide_eq_true hlt
      have i1 : (0 : Int) ≤ (q : Int) := by omega
      have i2 : (q : Int) < (m : Int) := by omega
      have hpl := dplace hs
      have HPL := Lib.hid hpl; have HON := Lib.hid hon; have HS := Lib.hid hs; have HB := Lib.hid hB
      clear hpl hon hs hB
      go_wp2_with (go_at_call 37; fail)
      refine HPL.out.mono ?_
      rintro e w5 ⟨rfl, rfl⟩
      have hal : Below wr.heap.size wr (wr.alloc (.cells #[.int .i64 (st kf q : Int)] 3)) := (Below.refl _ _).alloc (Nat.le_refl _) _
      have HON1 := Lib.hid (HON.out.below hal)
      have HG1 : Hid ((wr.alloc (.cells #[.int .i64 (st kf q : Int)] 3)).heap[wr.heap.size]? = some (.cells #[.int .i64 (st kf q : Int)] 3)) := heap_alloc_new _ _
      have HB1 := Lib.hid (HB.out.alloc HB.out.size (.cells #[.int .i64 (st kf q : Int)] 3))
      have HS1 := Lib.hid (HS.out.below hal)
      obtain ⟨x, hx⟩ : ∃ x, x = zs.getD q 0 := ⟨_, rfl⟩
      have hkx := (HKF.out q).2
      rw [← hx] at hkx
      obtain ⟨k, hk⟩ : ∃ k, k = kf q := ⟨_, rfl⟩
      rw [← hk] at hkx
      have hk9 : k ≤ 9 := by rw [hk]; exact (HKF.out q).1
      have HX := Lib.hid hx; have HKX := Lib.hid hkx; have HKK := Lib.hid hk
      clear hal hx hk hkx
      go_wp2_with (at_builtin; refine append_num rfl (.tmp 42) (.tmp 45) rfl w.heap.size q ac wr.heap.size ao ((List.range q).map fun i => ((st kf i : Nat) : Int)) ((st kf q : Nat) : Int) rfl HON1.out rfl HG1.out (by omega) HB1.out.size ?_; intro oo oc w6 ho6 hB6 hk6; have HB6 := Lib.hid (HB1.out.trans hB6); have HS6 := Lib.hid (HS1.out.grow (KT.mk hB6.size (fun b cs t fr _ h2 h => hk6 b cs t fr (fun e => by subst e; cases h2) h))); have HO6 := Lib.hid ho6; obtain ⟨rb, ro, hfo, hrc⟩ := (HNI.out.below HB6.out).at (j := q) (by rw [HZL.out]; exact hlt); rw [← HX.out] at hrc; clear ho6 hB6 hk6; subst hfo)
      rw [HKX.out]
      have HS60 := Lib.hid HS6.out
      go_loopw [13] (fun jv w7 => ∃ j : Nat, j ≤ k ∧ jv = .int .i64 j ∧ Dsy w6 w7 w.heap.size w3.heap.size g w.heap.size ⟨200, part kf q j, st kf q + j⟩ PP.new) (fun jv _ => k - (intOf jv).toNat)
      case atStart => exact ⟨0, Nat.zero_le _, rfl, by rw [part_zero]; exact HS60.out⟩
      case round =>
        obtain ⟨j, hj, rfl, hs7⟩ := hrel
        have hsm := HST.out q (by omega)
        by_cases hjk : j < k
        · have g1 : decide ((j : Int) < (k : Int)) = true := decide_eq_true (by omega)
          have g1' : decide (j < k) = true := decide_eq_true hjk
          have u1 : IntKind.u8.wrap (q : Int) = q := by rw [IntKind.wrap_u8]; omega
          have u2 : IntKind.u8.wrap (j : Int) = j := by rw [IntKind.wrap_u8]; omega
          have hown := part_two wr (q : Int) (j : Int) ⟨by omega, by omega⟩ ⟨by omega, by omega⟩
          have hal7 : Below wr.heap.size wr (wr.alloc (.cells #[.int .u8 (q : Int), .int .u8 (j : Int)] 5)) := (Below.refl _ _).alloc (Nat.le_refl _) _
          have hwr := dwrite ⟨some ⟨wr.heap.size, 0, none⟩, 2, 2, [(q : Int), (j : Int)]⟩ (hs7.below hal7) (fun V _ hk => (Own1.kt hown hk rfl (fun _ _ e => by cases e)).1)
          have hpl := part_len kf q j (by rw [← HKK.out]; omega)
          rw [wri_ok 200 (part kf q j) (st kf q + j) [(q : Int), (j : Int)] (by omega) (by omega) (by simp) (by simp)] at hwr
          rw [part_blk kf q j (by rw [← HKK.out]; exact hjk)] at hwr
          simp only at hwr
          have HWR := Lib.hid hwr
          clear hwr hpl hal7 hown hs7
          go_wp2_with (go_at_call 34; fail)
          refine HWR.out.mono ?_
          rintro e w8 ⟨rfl, hs8⟩
          have HS8 := Lib.hid hs8
          clear hs8 HWR
          go_wp2
          go_roundw
          case rel => exact ⟨j + 1, by omega, by go_num, HS8.out⟩
          case measure => simp [intOf]; omega
        · have g1 : decide ((j : Int) < (k : Int)) = false := decide_eq_false (by omega)
          have g1' : decide (j < k) = false := decide_eq_false hjk
          obtain rfl : k = j := by omega
          have hmk := dmark hs7
          have hpl : (part kf q k).length = st kf q + k := part_len kf q k (by rw [HKK.out]; exact Nat.le_refl _)
          rw [mark_ok 200 (part kf q k) (st kf q + k) (by omega) (by omega)] at hmk
          have hpm : (part kf q k).take (st kf q + k) ++ [(2, [], false)] = CF kf (q + 1) := by rw [HKK.out]; exact part_mark kf q
          have hss : st kf q + k + 1 = st kf (q + 1) := by rw [st_succ, HKK.out]; omega
          rw [hpm, hss] at hmk
          simp only at hmk
          have HMK := Lib.hid hmk
          clear hmk hpl hpm hss hs7
          go_wp2_with (go_at_call 21; fail)
          refine HMK.out.mono ?_
          rintro e w8 ⟨rfl, hs8⟩
          have HS8 := Lib.hid hs8
          clear hs8 HMK
          go_wp2
          go_roundw
          case rel =>
            refine ⟨q + 1, oo, oc, by omega, by go_num, rfl, ?_, HS8.out.refl, HB6.out.trans HS8.out.bel⟩
            rw [List.range_succ, List.map_append]
            exact HO6.out.kt HS8.out.kt rfl
          case measure => simp [intOf]; omega
    · have f1 : decide ((q : Int) < (m : Int)) = false := decide_eq_false (by omega)
      have f1' : decide (q < m) = false := decide_eq_false hlt
      obtain rfl : m = q := by omega
      have HDM := Lib.hid (dmed hs); have HS := Lib.hid hs; have HON := Lib.hid hon; have HB := Lib.hid hB
      have HWK := Lib.hid (fun V => wakes12 V)
      clear hs hon hB
      go_wp2_with (go_at_call 36; fail)
      refine HDM.out.mono ?_
      rintro e w5 ⟨ko, n5, kc, cs, rfl, hO5, hk5, hB5⟩
      have hfi := files_any ⟨200, ko, n5, kc, cs⟩ w5 (hO5.tap 200) (by show goodK 200 (keys cs) = true; rw [hk5]; exact HS.out.good.1)
      rw [show Tap.ks ⟨200, ko, n5, kc, cs⟩ = CF kf m from hk5, marks_CF] at hfi
      have HFI := Lib.hid hfi; have HS5 := Lib.hid (HS.out.below hB5)
      clear hfi hO5 hk5 hB5 HDM
      go_wp2_with (go_at_call 41; fail)
      refine HFI.out.mono ?_
      rintro e w6 ⟨rfl, hB6⟩
      have HS6 := Lib.hid (HS5.out.below hB6)
      have HB6 := Lib.hid (HB.out.trans HS6.out.bel)
      clear hB6 HS5 HFI
      have n1 : ((m : Int) != (m : Int)) = false := by simp
      by_cases hm0 : m = 0
      · subst hm0
        have hL0 : TD.loc ⟨200, CF kf 0, st kf 0⟩ false 0 0 = (0, 0) := loc_first 200 (CF kf 0) (st kf 0) 0 (Nat.zero_le _) rfl
        have hL1 : TD.loc ⟨200, CF kf 0, 0⟩ false 1 0 = (8, 0) := by
          unfold TD.loc
          rw [if_neg (by decide), if_neg (by decide), show (1 : Int).toNat = 1 from rfl]
          simp only
          rw [fileC_none _ 1 (by rw [marks_CF]; decide)]
          rfl
        have hl0 := dlocate HS6.out 0 0 (by decide) (by decide)
        rw [show PP.off PP.new = false from rfl, hL0] at hl0
        simp only at hl0
        have HL0 := Lib.hid hl0; have HLL := Lib.hid hL1
        clear hl0 hL0 hL1
        go_wp2_with (go_at_call 25; fail)
        refine HL0.out.mono ?_
        rintro e w7 ⟨rfl, hs7⟩
        have hl1 := dlocate hs7 1 0 (by decide) (by decide)
        rw [show PP.off PP.new = false from rfl, HLL.out] at hl1
        simp only at hl1
        have HL1 := Lib.hid hl1
        clear hl1 hs7 HL0 HLL
        go_wp2_with (go_at_call 25; fail)
        refine HL1.out.mono ?_
        rintro e w8 ⟨rfl, hs8⟩
        have HBX := Lib.hid (HB.out.trans hs8.bel)
        clear hs8 HL1
        go_wp2_with (go_at_call 15; refine (HWK.out _).mono ?_; rintro e w11 ⟨rfl, hB11⟩; have HB11 := Lib.hid (HBX.out.trans (hB11.mono HBX.out.size)); clear hB11)
        go_ret
        exact ⟨rfl, HB11.out⟩
      · have e0 : ((m : Int) == 0) = false := beq_eq_false_iff_ne.2 (by omega)
        have e0' : (m == 0) = false := beq_eq_false_iff_ne.2 hm0
        obtain ⟨N, hN1, hN2⟩ := uwrap_at n (m : Int) (by omega) (by omega)
        have hNm : N < m := by omega
        have hm64 : IntKind.u64.wrap (m : Int) = m := by rw [IntKind.wrap_u64]; omega
        obtain ⟨B, hB1, hB2⟩ := uwrap_at block 12 (by omega) (by omega)
        obtain ⟨rb, ro, hfo, hrc⟩ := (HNI.out.below HB6.out).at (j := N) (by rw [HZL.out]; exact hNm)
        obtain ⟨x, hx⟩ : ∃ x, x = zs.getD N 0 := ⟨_, rfl⟩
        have hkx := (HKF.out N).2
        rw [← hx] at hkx hrc
        obtain ⟨k, hk⟩ : ∃ k, k = kf N := ⟨_, rfl⟩
        rw [← hk] at hkx
        have hk9 : k ≤ 9 := by rw [hk]; exact (HKF.out N).1
        have hlo := dlocate HS6.out N B (by omega) (by omega)
        rw [show PP.off PP.new = false from rfl, loc_CF kf hNm B, ← hk] at hlo
        have hrd := rd_CF kf hNm B
        rw [← hk] at hrd
        have i1 : (0 : Int) ≤ (N : Int) := by omega
        have i2 : (N : Int) < (m : Int) := by omega
        have HLO := Lib.hid hlo; have HRD := Lib.hid hrd; have HSN := Lib.hid (HST.out N (by omega))
        clear hx hk hlo hrd hN1
        subst hfo
        go_wp2_with (go_at_call 25; fail)
        (try rw [hN2]); (try rw [hB2])
        refine HLO.out.mono ?_
        rintro e w7 ⟨rfl, hs7⟩
        by_cases hBk : B ≤ k
        · rw [if_pos hBk] at hs7 ⊢
          (try simp only at hs7)
          (try simp only)
          have g1 : decide ((k : Int) < (B : Int)) = false := decide_eq_false (by omega)
          have g1' : decide (k < B) = false := decide_eq_false (by omega)
          have hon7 := HON.out.kt hs7.kt rfl
          obtain ⟨ga, rfl, _, hca⟩ := hon7.at (j := N) hNm
          rw [show ((List.range m).map fun i => ((st kf i : Nat) : Int)).getD N 0 = (st kf N : Int) by simp [List.getD, hNm]] at hca
          have hpl := fun V (hb : Below w7.heap.size w7 V) => dplace (hs7.below hb)
          simp only at hpl
          obtain ⟨sN, hsN⟩ : ∃ sN, sN = st kf N := ⟨_, rfl⟩
          have hsm := HSN.out
          rw [← hsN] at hca hpl hs7 hsm HRD
          rw [show ((sN + B : Nat) : Int) = (sN : Int) + (B : Int) by omega] at hpl
          have hcc : ∀ V, Below w7.heap.size w7 V → V.cell? ⟨ga, N, none⟩ = some (.int .i64 (sN : Int)) := fun V hb => by rw [hb.cell (cell_lt hca)]; exact hca
          have HPL := Lib.hid hpl; have HCC := Lib.hid hcc; have HS7 := Lib.hid hs7
          have HBQ := Lib.hid (Below.refl w7.heap.size w7).drew
          have w1 : IntKind.i64.wrap ((sN : Int) + (B : Int)) = (sN : Int) + (B : Int) := IntWalk.i64_in _ (by omega)
          have w2 : ((sN : Int) + (B : Int) != (sN : Int) + (B : Int)) = false := by simp
          clear hpl hcc hs7 hca hon7 hsN HLO hrc
          (try rw [hkx])
          go_wp2
          go_region_held3 (fun V => V.cell? ⟨ga, N, none⟩ = some (.int .i64 (sN : Int))) (exact HCC.out _ HBQ.out)
            ((go_at_call 37; (with_reducible refine (HPL.out _ HBQ.out).mono ?_); rintro e wn ⟨rfl, rfl⟩))
          rename_i hheld
          clear hheld w1 w2
          have hs8 := HS7.out.below HBQ.out
          have hdr := dread hs8
          have HDR := Lib.hid hdr
          clear hs8 hdr
          go_wp2_with (go_at_call 17; fail)
          refine HDR.out.mono ?_
          rintro e w9 ⟨kb, kcb, rfl, ho9, hs9⟩
          rw [show PP.off PP.new = false from rfl] at ho9 hs9 ⊢
          rw [show TD.got ⟨200, CF kf m, sN + B⟩ false = rd (CF kf m) ((sN + B : Nat) : Int) from rfl, HRD.out hBk] at ho9 ⊢
          have HBX := Lib.hid (HB.out.trans hs9.bel)
          clear hs9 HDR
          by_cases hBe : B = k
          · subst hBe
            rw [if_pos rfl] at ho9 ⊢
            have q1 : ((B : Int) == (B : Int)) = true := by simp
            clear ho9
            go_wp2_with (go_at_call 15; refine (HWK.out _).mono ?_; rintro e w11 ⟨rfl, hB11⟩; have HB11 := Lib.hid (HBX.out.trans (hB11.mono HBX.out.size)); clear hB11)
            go_ret
            exact ⟨rfl, HB11.out⟩
          · rw [if_neg hBe] at ho9 ⊢
            have q1 : ((B : Int) == (k : Int)) = false := beq_eq_false_iff_ne.2 (by omega)
            have q1' : (B == k) = false := beq_eq_false_iff_ne.2 hBe
            obtain ⟨gb, rfl, _⟩ := ho9.at (show 0 < 2 by decide)
            have hrd9 := ho9.rd
            have c0 : w9.cell? ⟨gb, 0, none⟩ = some (.int .u8 (N : Int)) := by
              obtain ⟨b, o, hb, hc⟩ := hrd9.at (show 0 < 2 by decide)
              cases hb
              exact hc 0 (show 0 < 2 by decide)
            have c1 : w9.cell? ⟨gb, 1, none⟩ = some (.int .u8 (B : Int)) := by
              obtain ⟨b, o, hb, hc⟩ := hrd9.at (show 0 < 2 by decide)
              cases hb
              exact hc 1 (show 1 < 2 by decide)
            have u1 : IntKind.u8.wrap (N : Int) = N := by rw [IntKind.wrap_u8]; omega
            have u2 : IntKind.u8.wrap (B : Int) = B := by rw [IntKind.wrap_u8]; omega
            have r1 : ((N : Int) == (N : Int)) = true := by simp
            have r2 : ((B : Int) == (B : Int)) = true := by simp
            clear ho9 hrd9
            go_wp2_with (go_at_call 15; refine (HWK.out _).mono ?_; rintro e w11 ⟨rfl, hB11⟩; have HB11 := Lib.hid (HBX.out.trans (hB11.mono HBX.out.size)); clear hB11)
            go_ret
            exact ⟨rfl, HB11.out⟩
        · rw [if_neg hBk] at hs7 ⊢
          (try simp only at hs7)
          (try simp only)
          have g1 : decide ((k : Int) < (B : Int)) = true := decide_eq_true (by omega)
          have g1' : decide (k < B) = true := decide_eq_true (by omega)
          have HBX := Lib.hid (HB.out.trans hs7.bel)
          clear hs7 HLO
          go_wp2_with (go_at_call 15; refine (HWK.out _).mono ?_; rintro e w11 ⟨rfl, hB11⟩; have HB11 := Lib.hid (HBX.out.trans (hB11.mono HBX.out.size)); clear hB11)
          go_ret
          exact ⟨rfl, HB11.out⟩
end Go.Proofs.Ytmcbmemgeegodaa
