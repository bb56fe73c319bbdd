/-
  AggrMore.
-/
import Derived.Test.YtifbbikhjolnjaaDoorAg8
namespace Go.Proofs.YtifbbikhjolnjaaDoor
open Go.RowKit
set_option linter.unusedVariables false

theorem jE_all (size : Int) (rs : List Rec) (w : World) (ao : Option Addr) (hj : jE size rs = 0) (h : Rs w ao rs) : ∀ i, (hi : i < rs.length) → nok rs[i].k rs[i].s ∧ rs[i].d.z.length ≤ 8000 ∧ rs[i].k ≠ 4 ∧ rs[i].k ≠ 5 ∧ Bts rs[i].d.z := by
  unfold jE at hj
  by_cases h1 : size < 32 ∨ 256 < size
  · rw [if_pos h1] at hj; omega
  rw [if_neg h1] at hj
  by_cases h2 : rs.length < 1 ∨ 64 < rs.length
  · rw [if_pos h2] at hj; omega
  rw [if_neg h2] at hj
  by_cases h3 : je rs ≠ 0
  · rw [if_pos h3] at hj; exact absurd hj h3
  rw [if_neg h3] at hj
  have h3' : je rs = 0 := Classical.byContradiction h3
  intro i hi
  have hc := je_all rs h3' i hi
  have hd : rs[i].d.ok w := by
    rcases h with rfl | ⟨b, o, _, hc⟩
    · exact absurd hi (Nat.not_lt_zero _)
    · exact (hc i hi).2.2.2
  have ht : hts rs = false := by
    cases he : hts rs with
    | false => rfl
    | true => rw [he] at hj; simp at hj
  have hti : ¬((rs[i].k == 4 || rs[i].k == 5) = true) := fun e => by
    have : hts rs = true := List.any_eq_true.2 ⟨rs[i], List.getElem_mem hi, e⟩
    rw [ht] at this; cases this
  have hk4 : rs[i].k ≠ 4 := fun e => hti (by rw [e]; rfl)
  have hk5 : rs[i].k ≠ 5 := fun e => hti (by rw [e]; rfl)
  unfold chk at hc
  by_cases h4 : nok rs[i].k rs[i].s
  · rw [if_pos h4] at hc
    by_cases h5 : rs[i].d.l ≤ 8000
    · exact ⟨h4, by rw [hd.len]; exact h5, hk4, hk5, hd.bts⟩
    · rw [if_neg h5] at hc; omega
  · rw [if_neg h4] at hc; omega

/-- READ OF AN AGGREGATE WITH BYTES BEHIND IT. -/
theorem read_more (ao : Option Addr) (len cap : Nat) (zs more : List Int) (w : World) (hT : Tab w) (hl : zs.length = len) (hlc : len ≤ cap) (hm : len ≤ 10000000) (hcm : cap ≤ maxLen) (hr : Rd w ao zs) (hz : Bts zs)
    (rs : List Rec) (n : Nat) (hn : rs.length = n) (h1 : 1 ≤ n) (h64 : n ≤ 64) (hok : ∀ i, (hi : i < rs.length) → nok rs[i].k rs[i].s ∧ rs[i].d.z.length ≤ 8000 ∧ rs[i].k ≠ 4 ∧ rs[i].k ≠ 5 ∧ Bts rs[i].d.z)
    (e : zs = ag rs ++ more) : Calls Tryd.prog 17 #[.slice ao len cap] w (RDP w rs n (decide (more = []))) := by
  subst hn
  have e' : zs = fr 4 rs.length [] ++ (frs rs ++ (fr 5 rs.length [] ++ more)) := by
    rw [e]; unfold ag; rw [List.append_assoc, List.append_assoc]
  refine aread ao len cap zs w hT hl hlc hm hcm hr hz rs rs.length rs.length rfl (Nat.le_refl _) h64 hok (frs rs ++ (fr 5 rs.length [] ++ more)) e' (fun i hi => ?_) _ (.inr ⟨rfl, h1, more, ?_, rfl⟩)
  · refine ⟨frs (rs.drop (i + 1)) ++ (fr 5 rs.length [] ++ more), ?_⟩
    rw [e', frs_split rs i hi]
    simp only [List.append_assoc]
  · rw [List.take_length, e', List.append_assoc]

set_option maxHeartbeats 4000000 in
theorem more_walk (size : Int) (ao bo mo : Option Addr) (n m l cap cbp mc : Nat) (rs ks : List Rec) (zm : List Int) (w : World) (hT : Tab w) (hl : rs.length = n) (hm : n ≤ maxLen) (h : Rs w ao rs) (hl2 : ks.length = m) (hm2 : m ≤ maxLen) (h2 : Rs w bo ks)
    (hp : Part.ok w ⟨mo, l, mc, zm⟩) :
    Calls Tryd.prog 7 #[.int .i64 size, .slice ao n cap, .slice bo m cbp, .slice mo l mc] w fun e w' => e = .returned (.bool true) ∧ Below w.heap.size w w' := by
  have hHA := heavy_any ao n cap rs w hl hm h
  have hHB := heavy_any bo m cbp ks w hl2 hm2 h2
  have hPA := pack_any size ao n cap rs w hl hm hT h
  have hPB := fun V (hV : Below w.heap.size w V) => pack_any size bo m cbp ks V hl2 hm2 (hT.below hV) (h2.below hV)
  have HHA := Lib.hid hHA; have HHB := Lib.hid hHB; have HPA := Lib.hid hPA; have HPB := Lib.hid hPB
  have HT := Lib.hid hT; have HL := Lib.hid hl; have HR := Lib.hid h; have HP := Lib.hid hp; have HL2 := Lib.hid hl2; have HR2 := Lib.hid h2
  clear hHA hHB hPA hPB hT h h2 hp hl hl2
  go_enter Tryd.func7, Tryd.ntmps7
  go_wp2_with (go_at_call 8; fail)
  refine HHA.out.mono ?_
  rintro e w' ⟨hh, rfl⟩
  rcases hh with rfl | ⟨rfl, hn80, _⟩
  · clear HHB HPA HPB
    go_wp2
    go_ret
    exact ⟨rfl, Below.refl _ _⟩
  clear HHA
  go_wp2_with (go_at_call 8; fail)
  refine HHB.out.mono ?_
  rintro e w' ⟨hh, rfl⟩
  rcases hh with rfl | ⟨rfl, hm80, _⟩
  · clear HPA HPB
    go_wp2
    go_ret
    exact ⟨rfl, Below.refl _ _⟩
  clear HHB
  by_cases hl300 : 300 < l
  · have d1 : decide ((300 : Int) < (l : Int)) = true := decide_eq_true (by omega)
    have d1' : decide (300 < l) = true := decide_eq_true hl300
    clear HPA HPB
    go_wp2
    go_ret
    exact ⟨rfl, Below.refl _ _⟩
  have d1 : decide ((300 : Int) < (l : Int)) = false := decide_eq_false (by omega)
  have d1' : decide (300 < l) = false := decide_eq_false hl300
  go_wp2_with (go_at_call 11; fail)
  refine HPA.out.mono ?_
  rintro e w1 ⟨hB1, hc⟩
  have HPB1 := Lib.hid (HPB.out w1 hB1)
  have HB1 := Lib.hid hB1
  have hfail : ∀ w2, Below w1.heap.size w1 w2 → Calls Tryd.prog 16 #[] w2 fun e w' => e = .returned (.bool true) ∧ Below w.heap.size w w' := fun w2 hb => by
    have hb' := HB1.out.trans (hb.mono HB1.out.size)
    exact (wakes15 w2 (HT.out.below hb')).mono fun e w' h => ⟨h.1, hb'.trans (h.2.mono hb'.size)⟩
  have HF := Lib.hid hfail
  clear hB1 hfail HPA HPB
  rcases hc with ⟨hjA, b1, c1, oo, oc, ps, rfl, hops, hon, hpz, hlen, hbts, _, _, hn1, hn2⟩ | ⟨hjA, rfl⟩
  · rw [HL.out] at hon hn1 hn2 ⊢
    obtain ⟨s, rfl⟩ : ∃ s : Nat, size = (s : Int) := ⟨size.toNat, by omega⟩
    have hs1 : 32 ≤ s := by omega
    have hs2 : s ≤ 256 := by omega
    rw [Int.toNat_natCast] at hops hpz ⊢
    have HFA := Lib.hid (flat_blocks hops hpz hs1 hs2 hlen (by rw [ag_len]; omega))
    have HOKA := Lib.hid (jE_all _ rs w ao hjA HR.out)
    have HON := Lib.hid hon; have HLEN := Lib.hid hlen; have HBT := Lib.hid hbts
    obtain ⟨N, hN⟩ : ∃ N, N = (ag rs).length := ⟨_, rfl⟩
    obtain ⟨q1, hq1⟩ : ∃ q1, q1 = nb (ag rs).length s := ⟨_, rfl⟩
    rw [← hq1] at HFA ⊢
    rw [← hN] at HFA HLEN
    have HN := Lib.hid hN
    clear hops hon hpz hbts hjA hq1 hN hlen
    go_wp2_with (go_at_call 11; fail)
    refine HPB1.out.mono ?_
    rintro e w2 ⟨hB2, hc⟩
    have HB2 := Lib.hid hB2
    clear hB2 HPB1
    rcases hc with ⟨hjB, b2, c2, _, _, qs, rfl, hops, _, hpz, hlen, hbts, _, _, hm1, hm2⟩ | ⟨hjB, rfl⟩
    · rw [Int.toNat_natCast] at hops hpz ⊢
      have HFB := Lib.hid (flat_blocks hops hpz hs1 hs2 hlen (by rw [ag_len]; omega))
      have HLENB := Lib.hid hlen; have HBTB := Lib.hid hbts
      obtain ⟨M, hM⟩ : ∃ M, M = (ag ks).length := ⟨_, rfl⟩
      obtain ⟨q2, hq2⟩ : ∃ q2, q2 = nb (ag ks).length s := ⟨_, rfl⟩
      rw [← hq2] at HFB ⊢
      rw [← hM] at HFB HLENB
      have HM := Lib.hid hM
      have HW2 := Lib.hid (HB1.out.trans (HB2.out.mono HB1.out.size))
      clear hops hpz hbts hjB hq2 hM hlen
      have hfa := HFA.out w2 HB2.out
      have HFA2 := Lib.hid hfa
      clear hfa
      have HX : Hid (ag rs = ag rs ∧ N ≤ 600000 ∧ 26 ≤ N ∧ M ≤ 600000 ∧ 26 ≤ M) := ⟨rfl, HLEN.out, by rw [HN.out, ag_len]; omega, HLENB.out, by rw [HM.out, ag_len]; omega⟩
      have hkeyn : (rs.take n).map Rec.key = rs.map Rec.key := by rw [List.take_of_length_le (by rw [HL.out]; exact Nat.le_refl _)]
      have hyne : decide (ag ks = []) = false := decide_eq_false fun e => by
        have := ag_len ks; rw [e] at this; simp at this; omega
      have HKN := Lib.hid hkeyn; have HYN := Lib.hid hyne
      clear hkeyn hyne HF
      go_wp2_with (go_at_call 18; fail)
      refine HFA2.out.mono ?_
      rintro e w3 ⟨k3, c3, rfl, ho3, hB3⟩
      have HO3 := Lib.hid ho3
      have HB3 := Lib.hid (HB2.out.trans (hB3.mono HB2.out.size)); have HB23 := Lib.hid hB3
      have HTW := fun V (hV : Below w3.heap.size w3 V) => twin_any k3 N c3 (ag rs) V HN.out.symm (by have := HLEN.out; omega) (HO3.out.below hV).rd HO3.out.nil
      have HTW' := Lib.hid HTW
      clear ho3 hB3 HFA2 HFA HTW
      go_wp2_with (go_at_call 22; fail)
      refine (HTW'.out w3 (Below.refl _ _)).mono ?_
      rintro e w4 ⟨k4, c4, rfl, ho4, hB4⟩
      have HO4 := Lib.hid ho4; have HB4 := Lib.hid hB4
      have HFB2 := Lib.hid (HFB.out w4 (HB23.out.trans (hB4.mono HB23.out.size)))
      clear ho4 hB4 HFB
      go_wp2_with (go_at_call 18; fail)
      refine HFB2.out.mono ?_
      rintro e w5 ⟨k5, c5, rfl, ho5, hB5⟩
      have HO5 := Lib.hid ho5; have HO45 := Lib.hid (HO4.out.below hB5); have HB5 := Lib.hid (HB4.out.trans (hB5.mono HB4.out.size))
      clear ho5 hB5 HFB2
      go_wp2_with (first
        | (at_builtin; refine append_bytes rfl _ _ rfl w3.heap.size N c4 M c5 k4 k5 (ag rs) (ag ks) rfl HO45.out rfl HO5.out.rd HM.out.symm HO5.out.nil (by have := HX.out; omega) HB5.out.size ?_; intro k6 c6 w6 ho6 hB6; have HO6 := Lib.hid ho6; have HB6 := Lib.hid (HB5.out.trans hB6); clear ho6 hB6)
        | (go_at_call 17; fail))
      have hrd := read_more k6 (N + M) c6 (ag rs ++ ag ks) (ag ks) w6 (HT.out.below (HB1.out.trans ((HB3.out.trans (HB6.out.mono HB3.out.size)).mono HB1.out.size))) HO6.out.1 HO6.out.2.1 (by have := HX.out; omega) HO6.out.2.2.1 HO6.out.rd (bts_app HBT.out HBTB.out) rs n HL.out hn1 hn2 HOKA.out rfl
      rw [HYN.out] at hrd
      have HRD := Lib.hid hrd
      clear hrd
      refine HRD.out.mono ?_
      rintro e w7 ⟨lo, lc, o7, oc7, ls, rfl, hors, hkey, hon7, hB7⟩
      have HB7 := Lib.hid (HB6.out.trans (hB7.mono HB6.out.size))
      have hW : ∀ V, Below w3.heap.size w3 V → Below w.heap.size w V := fun V hV => HB1.out.trans ((HB3.out.trans (hV.mono HB3.out.size)).mono HB1.out.size)
      have hW1 : ∀ V, Below w3.heap.size w3 V → Below w1.heap.size w1 V := fun V hV => HB3.out.trans (hV.mono HB3.out.size)
      have HW := Lib.hid hW; have HW1 := Lib.hid hW1
      have hkr := keep_recs lo ao n n lc cap ls rs w7 hors.1 HL.out (by unfold maxLen; omega) hors.rs (HR.out.below (hW _ HB7.out))
      rw [decide_eq_true (hkey.trans HKN.out)] at hkr
      have HKR := Lib.hid hkr; have HON7 := Lib.hid hon7
      clear hors hkey hon7 hB7 hkr hW hW1 HRD
      go_wp2_with (go_at_call 15; fail)
      refine HKR.out.mono ?_
      rintro e w8 ⟨rfl, hB8⟩
      have HB8 := Lib.hid (HB7.out.trans (hB8.mono HB7.out.size))
      have hic := ints_cmp o7 oo n n oc7 oc _ _ w8 _ _ (by omega) (HON7.out.below hB8) (HON.out.below (HW1.out _ HB8.out))
      rw [decide_eq_true rfl] at hic
      have HIC := Lib.hid hic
      clear hB8 hic HKR
      go_wp2_with (go_at_call 14; fail)
      refine HIC.out.mono ?_
      rintro e w9 ⟨rfl, qq, hw9⟩
      have hB9 : Below w8.heap.size w8 w9 := by rw [hw9]; exact below_drewN (Below.refl _ _) _
      have HB9 := Lib.hid (HB8.out.trans (hB9.mono HB8.out.size))
      clear hw9 hB9 HIC
      go_wp2_with (go_at_call 22; fail)
      refine (HTW'.out w9 HB9.out).mono ?_
      rintro e w10 ⟨k10, c10, rfl, ho10, hB10⟩
      have HO10 := Lib.hid ho10; have HB10 := Lib.hid (HB9.out.trans (hB10.mono HB9.out.size)); have HS10 := Lib.hid hB10.size
      have HPM := Lib.hid (HP.out.below (HW.out _ HB10.out))
      clear ho10 hB10
      go_wp2_with (first
        | (at_builtin; refine append_bytes rfl _ _ rfl w9.heap.size N c10 l mc k10 mo (ag rs) zm rfl HO10.out rfl HPM.out.rd HPM.out.len HPM.out.nil (by have := HX.out; omega) HS10.out ?_; intro k11 c11 w11 ho11 hB11; have HO11 := Lib.hid ho11; have HB11 := Lib.hid (HB10.out.trans (hB11.mono HB9.out.size)); clear ho11 hB11)
        | (go_at_call 17; fail))
      have hrd := read_more k11 (N + l) c11 (ag rs ++ zm) zm w11 (HT.out.below (HW.out _ HB11.out)) HO11.out.1 HO11.out.2.1 (by have := HX.out; omega) HO11.out.2.2.1 HO11.out.rd (bts_app HBT.out HP.out.bts) rs n HL.out hn1 hn2 HOKA.out rfl
      obtain ⟨wh, hwh⟩ : ∃ wh, wh = decide (zm = []) := ⟨_, rfl⟩
      rw [← hwh] at hrd
      have dwh : ((l : Int) == 0) = wh := by
        have hpl : zm.length = l := HP.out.len
        rw [hwh]
        by_cases hz0 : zm = []
        · subst hz0
          obtain rfl : l = 0 := hpl.symm
          rfl
        · have : 0 < zm.length := List.length_pos_iff.2 hz0
          rw [decide_eq_false hz0, beq_eq_false_iff_ne]; omega
      have dww : (wh == wh) = true := by cases wh <;> rfl
      have HRD := Lib.hid hrd
      clear hrd hwh
      refine HRD.out.mono ?_
      rintro e w12 ⟨lo', lc', o12, oc12, ls', rfl, hors, hkey, hon12, hB12⟩
      have HB12 := Lib.hid (HB11.out.trans (hB12.mono HB11.out.size))
      have hkr := keep_recs lo' ao n n lc' cap ls' rs w12 hors.1 HL.out (by unfold maxLen; omega) hors.rs (HR.out.below (HW.out _ HB12.out))
      rw [decide_eq_true (hkey.trans HKN.out)] at hkr
      have HKR := Lib.hid hkr; have HON12 := Lib.hid hon12
      clear hors hkey hon12 hB12 hkr HRD
      go_wp2_with (go_at_call 15; fail)
      refine HKR.out.mono ?_
      rintro e w13 ⟨rfl, hB13⟩
      have HB13 := Lib.hid (HB12.out.trans (hB13.mono HB12.out.size))
      have hic := ints_cmp o12 oo n n oc12 oc _ _ w13 _ _ (by omega) (HON12.out.below hB13) (HON.out.below (HW1.out _ HB13.out))
      rw [decide_eq_true rfl] at hic
      have HIC := Lib.hid hic
      clear hB13 hic HKR
      go_wp2_with (go_at_call 14; fail)
      refine HIC.out.mono ?_
      rintro e w14 ⟨rfl, qq, hw14⟩
      have hB14 : Below w13.heap.size w13 w14 := by rw [hw14]; exact below_drewN (Below.refl _ _) _
      have HB14 := Lib.hid (HB13.out.trans (hB14.mono HB13.out.size))
      have HWK := Lib.hid (wakes15 w14 (HT.out.below (HW.out _ HB14.out)))
      clear hw14 hB14 HIC
      go_wp2_with (go_at_call 16; refine HWK.out.mono ?_; rintro e w15 ⟨rfl, hB15⟩; have HB15 := Lib.hid hB15; clear hB15)
      go_ret
      exact ⟨rfl, (HW.out _ HB14.out).trans (HB15.out.mono (HW.out _ HB14.out).size)⟩
    · obtain ⟨er, her⟩ : ∃ er, er = jE (s : Int) ks := ⟨_, rfl⟩
      rw [← her] at hjB ⊢
      have d2 : (er != 0) = true := by simp [hjB]
      have d3 : (er == 0) = false := beq_eq_false_iff_ne.2 hjB
      have HF2 := Lib.hid (HF.out w2 HB2.out)
      clear her hjB
      go_wp2_with (go_at_call 16; refine HF2.out.mono ?_; rintro e w9 ⟨rfl, hB9⟩; have HB9 := Lib.hid hB9; clear hB9)
      go_ret
      exact ⟨rfl, HB9.out⟩
  · obtain ⟨er, her⟩ : ∃ er, er = jE size rs := ⟨_, rfl⟩
    rw [← her] at hjA ⊢
    have d2 : (er != 0) = true := by simp [hjA]
    have d3 : (er == 0) = false := beq_eq_false_iff_ne.2 hjA
    clear her hjA
    go_wp2_with (go_at_call 11; fail)
    refine HPB1.out.mono ?_
    rintro e w2 ⟨hB2, hc⟩
    have HF2 := Lib.hid (HF.out w2 hB2)
    clear hB2 HPB1 HF
    rcases hc with ⟨_, b2, c2, o2, oc2, qs, rfl, _⟩ | ⟨hjB, rfl⟩
    · obtain ⟨q2, hq2⟩ : ∃ q2, q2 = nb (ag ks).length size.toNat := ⟨_, rfl⟩
      rw [← hq2]
      clear hq2
      go_wp2_with (go_at_call 16; refine HF2.out.mono ?_; rintro e w9 ⟨rfl, hB9⟩; have HB9 := Lib.hid hB9; clear hB9)
      go_ret
      exact ⟨rfl, HB9.out⟩
    · obtain ⟨er2, her⟩ : ∃ er2, er2 = jE size ks := ⟨_, rfl⟩
      rw [← her] at hjB ⊢
      have d4 : (er2 != 0) = true := by simp [hjB]
      have d5 : (er2 == 0) = false := beq_eq_false_iff_ne.2 hjB
      clear her hjB
      go_wp2_with (go_at_call 16; refine HF2.out.mono ?_; rintro e w9 ⟨rfl, hB9⟩; have HB9 := Lib.hid hB9; clear hB9)
      go_ret
      exact ⟨rfl, HB9.out⟩

end Go.Proofs.YtifbbikhjolnjaaDoor
