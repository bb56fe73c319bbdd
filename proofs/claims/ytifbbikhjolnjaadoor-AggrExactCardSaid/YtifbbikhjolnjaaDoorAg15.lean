/-
  AggrExact: the walk.
-/
import Derived.Test.YtifbbikhjolnjaaDoorAg14
namespace Go.Proofs.YtifbbikhjolnjaaDoor
open Go.RowKit
set_option linter.unusedVariables false

theorem hts_keys : ∀ (rs rs' : List Rec), rs.map Rec.key = rs'.map Rec.key → hts rs = hts rs'
  | [], [], _ => rfl
  | [], _ :: _, h => by cases h
  | _ :: _, [], h => by cases h
  | r :: rs, r' :: rs', h => by
    simp only [List.map_cons, List.cons.injEq] at h
    have := hts_keys rs rs' h.2
    unfold hts at this ⊢
    rw [List.any_cons, List.any_cons, this]
    have hk := h.1
    simp only [Rec.key, Prod.mk.injEq] at hk
    rw [hk.1]
theorem len_keys {rs rs' : List Rec} (h : rs.map Rec.key = rs'.map Rec.key) : rs.length = rs'.length := by
  have := congrArg List.length h
  simpa using this
theorem jE_keys {rs rs' : List Rec} (size : Int) (h : rs.map Rec.key = rs'.map Rec.key) (h1 : ∀ r ∈ rs, r.d.z.length = r.d.l) (h2 : ∀ r ∈ rs', r.d.z.length = r.d.l) : jE size rs = jE size rs' := by
  unfold jE
  rw [len_keys h, je_keys rs rs' h h1 h2, hts_keys rs rs' h]
theorem ag_keys {rs rs' : List Rec} (h : rs.map Rec.key = rs'.map Rec.key) : ag rs = ag rs' := by
  unfold ag
  rw [len_keys h, frs_keys rs rs' h]
theorem offP_keys {rs rs' : List Rec} (n : Nat) (h : rs.map Rec.key = rs'.map Rec.key) : offP rs n = offP rs' n := by
  unfold offP
  refine List.map_congr_left fun i _ => ?_
  rw [frs_keys (rs.take i) (rs'.take i) (by rw [List.map_take, List.map_take, h])]
theorem NP.keys {w w' : World} {size : Int} {rs rs' : List Rec} {e : Ending} (hj : jE size rs' = jE size rs) (ha : ag rs' = ag rs) (h : NP w size rs' e w') : NP w size rs e w' := by
  unfold NP at h ⊢; rw [hj, ha] at h; exact h
theorem PP.keys {w w' : World} {size : Int} {rs rs' : List Rec} {e : Ending} (hj : jE size rs' = jE size rs) (ha : ag rs' = ag rs) (hl : rs'.length = rs.length) (ho : offP rs' rs.length = offP rs rs.length) (h : PP w size rs' e w') : PP w size rs e w' := by
  unfold PP at h ⊢; rw [hj, ha, hl, ho] at h; exact h

set_option maxRecDepth 100000 in
set_option maxHeartbeats 4000000 in
theorem aexact_walk (size : Int) (ao : Option Addr) (n cap : Nat) (rs : List Rec) (w : World) (hT : Tab w) (hl : rs.length = n) (hm : n ≤ maxLen) (h : Rs w ao rs) :
    Calls Tryd.prog 3 #[.int .i64 size, .slice ao n cap] w fun e w' => e = .returned (.bool true) ∧ Below w.heap.size w w' := by
  have HHV := Lib.hid (heavy_any ao n cap rs w hl hm h)
  have HL := Lib.hid hl; have HR := Lib.hid h; have HT := Lib.hid hT
  clear hl h hT hm
  go_enter Tryd.func3, Tryd.ntmps3
  go_wp2_with (go_at_call 8; fail)
  refine HHV.out.mono ?_
  rintro e w' ⟨rfl | ⟨rfl, h80, h400⟩, rfl⟩
  · go_wp2
    go_ret
    exact ⟨rfl, Below.refl _ _⟩
  have HTW := Lib.hid (twin_recs ao n cap rs w HL.out (by omega) HR.out (fun i hi => Nat.le_trans (h400 i hi) (by decide)))
  clear HHV h400
  go_wp2_with (go_at_call 9; fail)
  refine HTW.out.mono ?_
  rintro e w3 ⟨rs', ko, kc, rfl, hors, hkeys, hB3⟩
  have hkl : rs'.length = n := hors.1
  have hjk := jE_keys size hkeys (rs_lens hors.rs) (rs_lens HR.out)
  have hak := ag_keys hkeys
  have hok := offP_keys rs.length hkeys
  have hlk := len_keys hkeys
  have hND : ∀ V, Below w3.heap.size w3 V → Calls Tryd.prog 10 #[.int .i64 size, .slice ko n kc] V (NP V size rs) := fun V hV =>
    (need_any size ko n kc rs' V hkl (by unfold maxLen; omega) (HT.out.below (hB3.trans (hV.mono hB3.size))) (hors.rs.below hV)).mono fun e w' h => h.keys hjk hak
  have hPK : ∀ V, Below w3.heap.size w3 V → Calls Tryd.prog 11 #[.int .i64 size, .slice ko n kc] V (PP V size rs) := fun V hV =>
    (pack_any size ko n kc rs' V hkl (by unfold maxLen; omega) (HT.out.below (hB3.trans (hV.mono hB3.size))) (hors.rs.below hV)).mono fun e w' h => h.keys hjk hak hlk hok
  have hRP : ∀ V, Below w3.heap.size w3 V → Calls Tryd.prog 12 #[.int .i64 size, .slice ao n cap] V (PP V size rs) := fun V hV =>
    rpack size ao n cap rs V HL.out (by unfold maxLen; omega) (HR.out.below (hB3.trans (hV.mono hB3.size)))
  have hKR : ∀ V, Below w3.heap.size w3 V → Calls Tryd.prog 15 #[.slice ko n kc, .slice ao n cap] V (fun e w' => e = .returned (.bool true) ∧ Below V.heap.size V w') := fun V hV => by
    have := keep_recs ko ao n n kc cap rs' rs V hkl HL.out (by unfold maxLen; omega) (hors.rs.below hV) (HR.out.below (hB3.trans (hV.mono hB3.size)))
    rwa [decide_eq_true hkeys] at this
  have hWK : ∀ V, Below w3.heap.size w3 V → Calls Tryd.prog 16 #[] V (fun e w' => e = .returned (.bool true) ∧ Below V.heap.size V w') := fun V hV => wakes15 V (HT.out.below (hB3.trans (hV.mono hB3.size)))
  have hKN : (rs.take n).map Rec.key = rs.map Rec.key := by rw [List.take_of_length_le (by rw [HL.out]; exact Nat.le_refl _)]
  have HND := Lib.hid hND; have HPK := Lib.hid hPK; have HRP := Lib.hid hRP; have HKR := Lib.hid hKR; have HWK := Lib.hid hWK; have HB3 := Lib.hid hB3; have HKN := Lib.hid hKN
  clear hors hkeys hB3 hkl hjk hak hok hlk hND hPK hRP hKR hWK HTW hKN
  by_cases hj : jE size rs = 0
  · go_wp2_with (go_at_call 10; fail)
    refine (HND.out w3 (Below.refl _ _)).mono ?_
    rintro e w4 ⟨hB4, ⟨_, rfl⟩ | ⟨hjn, _⟩⟩
    rotate_left
    · exact absurd hj hjn
    have HB4 := Lib.hid hB4
    have HPK4 := Lib.hid (HPK.out w4 hB4)
    clear hB4 HND HPK
    obtain ⟨q1, hq1⟩ : ∃ q1, q1 = nb (ag rs).length size.toNat := ⟨_, rfl⟩
    rw [← hq1]
    have HQ1 := Lib.hid hq1
    clear hq1
    go_wp2_with (go_at_call 11; fail)
    refine HPK4.out.mono ?_
    rintro e w5 ⟨hB5, ⟨_, b1, c1, oo, oc, ps, rfl, hops, hon, hpz, hlen, hbts, hs1, hs2, hn1, hn2⟩ | ⟨hjn, _⟩⟩
    rotate_left
    · exact absurd hj hjn
    rw [HL.out] at hon hn1 hn2 ⊢
    rw [← HQ1.out] at hops hpz ⊢
    have HB5 : Hid (Below w3.heap.size w3 w5) := HB4.out.trans (hB5.mono HB4.out.size)
    have HRP5 := Lib.hid (HRP.out w5 HB5.out)
    have HOP := Lib.hid hops; have HON := Lib.hid hon; have HPZ := Lib.hid hpz; have HLEN := Lib.hid hlen; have HBTS := Lib.hid hbts
    clear hB5 hops hon hpz hlen hbts HPK4 HRP
    go_wp2_with (go_at_call 12; fail)
    refine HRP5.out.mono ?_
    rintro e w6 ⟨hB6, ⟨_, b2, c2, o2, oc2, qs, rfl, hops2, hon2, hpz2, _⟩ | ⟨hjn, _⟩⟩
    rotate_left
    · exact absurd hj hjn
    rw [HL.out] at hon2 ⊢
    rw [← HQ1.out] at hops2 hpz2 ⊢
    obtain ⟨s, hs⟩ := Int.eq_ofNat_of_zero_le (by omega : 0 ≤ size)
    have hsn : size.toNat = s := by omega
    have HB6 : Hid (Below w3.heap.size w3 w6) := HB5.out.trans (hB6.mono HB5.out.size)
    have hqb : q1 ≤ 1000000 := by rw [HQ1.out, hsn]; have := HLEN.out; unfold nb; exact Nat.le_trans (Nat.div_le_self _ _) (by omega)
    have hFB := flat_blocks (w := w5) (base := w4.heap.size) (ko := b1) (kc := c1) (ps := ps) (zs := ag rs) (s := s) (by rw [← hsn, ← HQ1.out]; exact HOP.out) (by rw [← hsn, ← HQ1.out]; exact HPZ.out) (by omega) (by omega) HLEN.out (by rw [ag_len]; omega)
    rw [← hsn, ← HQ1.out] at hFB
    have hRQ : ∀ V, Below w6.heap.size w6 V → Calls Tryd.prog 13 #[.slice b1 q1 c1, .slice b2 q1 c2] V (fun e w' => e = .returned (.bool true) ∧ ∃ q, w' = V.drewN q) := fun V hV =>
      rows_eq b1 b2 q1 c1 c2 ps qs V HOP.out.len hops2.len (by unfold maxLen; omega) (HOP.out.below (hB6.trans (hV.mono hB6.size))).ps (hops2.below hV).ps (by rw [HPZ.out, hpz2])
    have hIC : ∀ V, Below w6.heap.size w6 V → Calls Tryd.prog 14 #[.slice oo n oc, .slice o2 n oc2] V (fun e w' => e = .returned (.bool true) ∧ ∃ q, w' = V.drewN q) := fun V hV => by
      have := ints_cmp oo o2 n n oc oc2 _ _ V _ _ (by omega) (HON.out.below (hB6.trans (hV.mono hB6.size))) (hon2.below hV)
      rwa [decide_eq_true rfl] at this
    have HRQ := Lib.hid hRQ; have HIC := Lib.hid hIC; have HFB := Lib.hid hFB; have HB56 := Lib.hid hB6
    have HOK := Lib.hid (jE_all size rs w ao hj HR.out)
    have HNL : Hid ((ag rs).length = (ag rs).length ∧ 26 ≤ (ag rs).length) := ⟨rfl, by rw [ag_len]; omega⟩
    have e1 : ((q1 : Int) != (q1 : Int)) = false := by simp
    have e2 : (q1 != q1) = false := by simp
    clear hops2 hon2 hpz2 hB6 hRQ hIC hFB HRP5 hs1 hs2 hs hsn hj
    obtain ⟨zs, hzs⟩ : ∃ zs, zs = ag rs := ⟨_, rfl⟩
    rw [← hzs] at HFB HLEN HBTS HNL
    obtain ⟨N, hN⟩ : ∃ N, N = zs.length := ⟨_, rfl⟩
    rw [← hN] at HFB HLEN HNL
    have HZS := Lib.hid hzs; have HN := Lib.hid hN
    clear hzs hN
    go_wp2_with (go_at_call 13; fail)
    refine (HRQ.out w6 (Below.refl _ _)).mono ?_
    rintro e w7 ⟨rfl, qq, hw7⟩
    have hb7 : Below w6.heap.size w6 w7 := by rw [hw7]; exact below_drewN (Below.refl _ _) _
    have HB7 := Lib.hid hb7
    have HIC7 := Lib.hid (HIC.out w7 hb7)
    clear hw7 hb7 HRQ HIC
    go_wp2_with (go_at_call 14; fail)
    refine HIC7.out.mono ?_
    rintro e w8 ⟨rfl, qq2, hw8⟩
    have hb8 : Below w6.heap.size w6 w8 := by rw [hw8]; exact HB7.out.trans ((below_drewN (Below.refl _ _) _).mono HB7.out.size)
    have HB8 : Hid (Below w3.heap.size w3 w8) := HB6.out.trans (hb8.mono HB6.out.size)
    have HKR8 := Lib.hid (HKR.out w8 HB8.out)
    have HB58 : Hid (Below w5.heap.size w5 w8) := HB56.out.trans (hb8.mono HB56.out.size)
    clear hw8 hb8 HIC7 HKR
    go_wp2_with (go_at_call 15; fail)
    refine HKR8.out.mono ?_
    rintro e w9 ⟨rfl, hB9⟩
    have HB9 : Hid (Below w3.heap.size w3 w9) := HB8.out.trans (hB9.mono HB8.out.size)
    have HB59 : Hid (Below w5.heap.size w5 w9) := HB58.out.trans (hB9.mono HB58.out.size)
    have HFB9 := Lib.hid (HFB.out w9 HB59.out)
    clear hB9 HKR8 HFB
    go_wp2_with (go_at_call 18; fail)
    refine HFB9.out.mono ?_
    rintro e w10 ⟨k10, c10, rfl, ho10, hB10⟩
    have HO10 := Lib.hid ho10
    have HB10 : Hid (Below w3.heap.size w3 w10) := HB9.out.trans (hB10.mono HB9.out.size)
    have HB510 : Hid (Below w5.heap.size w5 w10) := HB59.out.trans (hB10.mono HB59.out.size)
    have HBW : Hid (Below w.heap.size w w10) := HB3.out.trans (HB10.out.mono HB3.out.size)
    have hrd := read_more k10 N c10 zs [] w10 (HT.out.below HBW.out) ho10.1 ho10.2.1 (by have := HLEN.out; omega) ho10.2.2.1 ho10.rd HBTS.out rs n HL.out hn1 hn2 HOK.out (by rw [List.append_nil]; exact HZS.out)
    rw [decide_eq_true rfl] at hrd
    have HRD := Lib.hid hrd
    clear ho10 hB10 hrd HFB9
    go_wp2_with (go_at_call 17; fail)
    refine HRD.out.mono ?_
    rintro e w11 ⟨lo, lc, o11, oc11, ls, rfl, hors, hkey, hon11, hB11⟩
    have HB11 : Hid (Below w3.heap.size w3 w11) := HB10.out.trans (hB11.mono HB10.out.size)
    have HB511 : Hid (Below w5.heap.size w5 w11) := HB510.out.trans (hB11.mono HB510.out.size)
    have hkr := keep_recs lo ao n n lc cap ls rs w11 hors.1 HL.out (by unfold maxLen; omega) hors.rs (HR.out.below (HB3.out.trans (HB11.out.mono HB3.out.size)))
    rw [decide_eq_true (hkey.trans HKN.out)] at hkr
    have HKR := Lib.hid hkr; have HON11 := Lib.hid hon11
    clear hors hkey hon11 hB11 hkr HRD
    go_wp2_with (go_at_call 15; fail)
    refine HKR.out.mono ?_
    rintro e w12 ⟨rfl, hB12⟩
    have HB12 : Hid (Below w3.heap.size w3 w12) := HB11.out.trans (hB12.mono HB11.out.size)
    have HB512 : Hid (Below w5.heap.size w5 w12) := HB511.out.trans (hB12.mono HB511.out.size)
    have hic := ints_cmp o11 oo n n oc11 oc _ _ w12 _ _ (by omega) (HON11.out.below hB12) (HON.out.below HB512.out)
    rw [decide_eq_true rfl] at hic
    have HIC := Lib.hid hic
    clear hB12 hic HKR
    go_wp2_with (go_at_call 14; fail)
    refine HIC.out.mono ?_
    rintro e w13 ⟨rfl, qq3, hw13⟩
    have hb13 : Below w12.heap.size w12 w13 := by rw [hw13]; exact below_drewN (Below.refl _ _) _
    have HB13 : Hid (Below w3.heap.size w3 w13) := HB12.out.trans (hb13.mono HB12.out.size)
    have HWK13 := Lib.hid (HWK.out w13 HB13.out)
    clear hw13 hb13 HIC HWK
    go_wp2_with (go_at_call 16; refine HWK13.out.mono ?_; rintro e w14 ⟨rfl, hB14⟩; have HB14 : Hid (Below w.heap.size w w14) := HB3.out.trans ((HB13.out.trans (hB14.mono HB13.out.size)).mono HB3.out.size); clear hB14)
    go_ret
    exact ⟨rfl, HB14.out⟩
  · go_wp2_with (go_at_call 10; fail)
    refine (HND.out w3 (Below.refl _ _)).mono ?_
    rintro e w4 ⟨hB4, ⟨hjn, _⟩ | ⟨_, rfl⟩⟩
    · exact absurd hjn hj
    have HB4 := Lib.hid hB4
    have HPK4 := Lib.hid (HPK.out w4 hB4)
    obtain ⟨er, her⟩ : ∃ er, er = jE size rs := ⟨_, rfl⟩
    rw [← her]
    have HER := Lib.hid her
    clear hB4 HND HPK her
    go_wp2_with (go_at_call 11; fail)
    refine HPK4.out.mono ?_
    rintro e w5 ⟨hB5, ⟨hjn, _⟩ | ⟨_, rfl⟩⟩
    · exact absurd hjn hj
    have HB5 : Hid (Below w3.heap.size w3 w5) := HB4.out.trans (hB5.mono HB4.out.size)
    have HRP5 := Lib.hid (HRP.out w5 HB5.out)
    rw [← HER.out]
    clear hB5 HPK4 HRP
    go_wp2_with (go_at_call 12; fail)
    refine HRP5.out.mono ?_
    rintro e w6 ⟨hB6, ⟨hjn, _⟩ | ⟨_, rfl⟩⟩
    · exact absurd hjn hj
    have HB6 : Hid (Below w3.heap.size w3 w6) := HB5.out.trans (hB6.mono HB5.out.size)
    rw [← HER.out]
    rw [← HER.out] at hj
    have dq : (er != 0) = true := by simp [hj]
    have dq2 : (er != er) = false := by simp
    have hRQ : Calls Tryd.prog 13 #[.slice none 0 0, .slice none 0 0] w6 (fun e w' => e = .returned (.bool true) ∧ ∃ q, w' = w6.drewN q) :=
      rows_eq none none 0 0 0 [] [] w6 rfl rfl (by unfold maxLen; omega) (Ps.nil _ _) (Ps.nil _ _) rfl
    have hIC : ∀ V : World, Calls Tryd.prog 14 #[.slice none 0 0, .slice none 0 0] V (fun e w' => e = .returned (.bool true) ∧ ∃ q, w' = V.drewN q) := fun V => by
      have := ints_cmp none none 0 0 0 0 [] [] V 0 0 (by omega) (On.nil _ _) (On.nil _ _)
      rwa [decide_eq_true rfl] at this
    have HRQ := Lib.hid hRQ; have HIC := Lib.hid hIC
    clear hRQ hIC hB6 HRP5 hj HER
    go_wp2_with (go_at_call 13; fail)
    refine HRQ.out.mono ?_
    rintro e w7 ⟨rfl, qq, hw7⟩
    have HB7 : Hid (Below w3.heap.size w3 w7) := by rw [hw7]; exact HB6.out.trans ((below_drewN (Below.refl _ _) _).mono HB6.out.size)
    clear hw7 HRQ
    go_wp2_with (go_at_call 14; fail)
    refine (HIC.out w7).mono ?_
    rintro e w8 ⟨rfl, qq2, hw8⟩
    have HB8 : Hid (Below w3.heap.size w3 w8) := by rw [hw8]; exact HB7.out.trans ((below_drewN (Below.refl _ _) _).mono HB7.out.size)
    have HKR8 := Lib.hid (HKR.out w8 HB8.out)
    clear hw8 HIC HKR
    go_wp2_with (go_at_call 15; fail)
    refine HKR8.out.mono ?_
    rintro e w9 ⟨rfl, hB9⟩
    have HB9 : Hid (Below w3.heap.size w3 w9) := HB8.out.trans (hB9.mono HB8.out.size)
    have HWK9 := Lib.hid (HWK.out w9 HB9.out)
    clear hB9 HKR8 HWK
    go_wp2_with (go_at_call 16; refine HWK9.out.mono ?_; rintro e w10 ⟨rfl, hB10⟩; have HB10 : Hid (Below w.heap.size w w10) := HB3.out.trans ((HB9.out.trans (hB10.mono HB9.out.size)).mono HB3.out.size); clear hB10)
    go_ret
    exact ⟨rfl, HB10.out⟩

end Go.Proofs.YtifbbikhjolnjaaDoor
