/-
  FrameCuts.
-/
import Derived.Test.YtmbkgjiofkggcaaDoorFrame13
namespace Go.Proofs.YtmbkgjiofkggcaaDoor
open Go.RowKit
set_option linter.unusedVariables false

theorem spl_frs (rs : List Rec) (t : List Int) (ks : List (Int × Int × List Int)) (e : Int) (h : ∀ i, (hi : i < rs.length) → nok rs[i].k rs[i].s ∧ rs[i].d.z.length ≤ 8000) (ht : Spl t ks e) : Spl (frs rs ++ t) (rs.map Rec.key ++ ks) e := by
  induction rs with
  | nil => exact ht
  | cons r rs ih =>
    have h0 := h 0 (by simp)
    simp only [List.getElem_cons_zero] at h0
    have e1 : frs (r :: rs) ++ t = fr r.k r.s r.d.z ++ (frs rs ++ t) := by unfold frs; rw [List.flatMap_cons, List.append_assoc]
    obtain ⟨ek, es, en, ez, e0⟩ := fr_fields2 r.k r.s r.d.z (frs rs ++ t) h0.1 h0.2
    have hd : (fr r.k r.s r.d.z ++ (frs rs ++ t)).drop (13 + r.d.z.length) = frs rs ++ t := by rw [← fr_len r.k r.s r.d.z, List.drop_left]
    rw [e1]
    have := Spl.step (zs := fr r.k r.s r.d.z ++ (frs rs ++ t)) (fun e => by have := congrArg List.length e; rw [List.length_append, fr_len] at this; simp at this) e0 (by rw [en, hd]; exact ih fun i hi => h (i + 1) (by simp; omega))
    rw [ek, es, ez] at this
    exact this

theorem spl_part (k s : Int) (z : List Int) (t : Nat) (h : nok k s) (hz : z.length ≤ 8000) (h1 : 0 < t) (h2 : t < 13 + z.length) : Spl ((fr k s z).take t) [] 3 := by
  obtain ⟨ek, es, en, ez, e0⟩ := fr_fields k s z h hz
  have hl : ((fr k s z).take t).length = t := by rw [List.length_take, fr_len]; omega
  have e3 : rer ((fr k s z).take t) = 3 := by
    unfold rer
    by_cases h9 : t < 9
    · rw [if_pos (by omega)]
    · rw [if_neg (by omega), if_pos]
      refine .inr (.inr ?_)
      have : rn ((fr k s z).take t) = z.length := by
        rw [← en]; unfold rn
        rw [List.drop_take, List.take_take, Nat.min_eq_left (by omega)]
      rw [hl, this]; exact h2
  have := Spl.bad (zs := (fr k s z).take t) (fun e => by rw [e] at hl; simp at hl; omega) (by rw [e3]; omega)
  rw [e3] at this
  exact this

/-- Where the frames are cut: at K bytes, j frames reach to it. -/
theorem spl_cut (rs : List Rec) (K j : Nat) (hj : j ≤ rs.length) (h : ∀ i, (hi : i < rs.length) → nok rs[i].k rs[i].s ∧ rs[i].d.z.length ≤ 8000) (hK : K ≤ (frs (rs.take j)).length) (hp : j = 0 ∨ (frs (rs.take (j - 1))).length < K) :
    (K = (frs (rs.take j)).length ∧ Spl ((frs rs).take K) ((rs.take j).map Rec.key) 0) ∨ (K ≠ (frs (rs.take j)).length ∧ ∃ ks, Spl ((frs rs).take K) ks 3) := by
  have hsub : ∀ m, m ≤ rs.length → ∀ i, (hi : i < (rs.take m).length) → nok (rs.take m)[i].k (rs.take m)[i].s ∧ (rs.take m)[i].d.z.length ≤ 8000 := fun m hm i hi => by
    rw [List.length_take] at hi
    rw [List.getElem_take]; exact h i (by omega)
  by_cases he : K = (frs (rs.take j)).length
  · left
    refine ⟨he, ?_⟩
    have hx : frs rs = frs (rs.take j) ++ frs (rs.drop j) := by
      conv => lhs; rw [← List.take_append_drop j rs]
      unfold frs; rw [List.flatMap_append]
    rw [hx, he, List.take_left]
    have := spl_frs (rs.take j) [] [] 0 (hsub j hj) Spl.nil
    simpa using this
  · right
    refine ⟨he, ?_⟩
    rcases hp with rfl | hp
    · exact absurd (by simp [frs] at hK ⊢; omega) he
    · cases j with
      | zero => simp [frs] at hK hp; omega
      | succ j =>
        rw [Nat.add_sub_cancel] at hp
        have hsp := frs_split rs j (by omega)
        have hcat := frs_take rs j (by omega)
        have hcl := congrArg List.length hcat
        rw [List.length_append, fr_len] at hcl
        have hr := h j (by omega)
        refine ⟨(rs.take j).map Rec.key ++ [], ?_⟩
        have ht : (frs rs).take K = frs (rs.take j) ++ (fr rs[j].k rs[j].s rs[j].d.z).take (K - (frs (rs.take j)).length) := by
          rw [hsp, List.take_append, List.take_of_length_le (by omega), List.take_append_of_le_length (by rw [fr_len]; omega)]
        rw [ht]
        exact spl_frs _ _ _ _ (hsub j (by omega)) (spl_part _ _ _ _ hr.1 hr.2 (by omega) (by omega))

theorem Rs.take {w : World} {ao : Option Addr} {rs : List Rec} (h : Rs w ao rs) (j : Nat) : Rs w ao (rs.take j) := by
  rcases h with h | ⟨b, o, ha, hc⟩
  · exact .inl (by simp [h])
  · refine .inr ⟨b, o, ha, fun i hi => ?_⟩
    rw [List.length_take] at hi
    rw [List.getElem_take]
    exact hc i (by omega)

set_option maxRecDepth 100000 in
set_option maxHeartbeats 2000000 in
theorem cuts_any (ao : Option Addr) (n cap : Nat) (rs : List Rec) (at' : Int) (w : World) (hT : Tab w) (hl : rs.length = n) (hnc : n ≤ cap) (hcm : cap ≤ maxLen) (h : Rs w ao rs) :
    Calls Tryd.prog 7 #[.slice ao n cap, .int .i64 at'] w fun e w' => e = .returned (.bool true) ∧ Below w.heap.size w w' := by
  have hm : n ≤ maxLen := Nat.le_trans hnc hcm
  have HHV := Lib.hid (heavy_any ao n cap rs w hl hm h)
  have HL := Lib.hid hl; have HR := Lib.hid h; have HT := Lib.hid hT
  unfold maxLen at hm hcm
  clear hl h hT
  go_enter Tryd.func7, Tryd.ntmps7
  go_wp2_with (go_at_call 14; fail)
  refine HHV.out.mono ?_
  rintro r w1 ⟨(rfl | ⟨rfl, hn80, hall⟩), rfl⟩
  · go_wp2
    go_ret
    exact ⟨rfl, Below.refl _ _⟩
  have HALL := Lib.hid hall
  clear hall
  have HJ := Lib.hid (join_any ao n cap rs w HL.out (by omega) HT.out HR.out)
  go_wp2_with (go_at_call 21; fail)
  refine HJ.out.mono ?_
  rintro r w2 (⟨hje, ko, kc, rfl, ho2, hB2⟩ | ⟨hje, rfl, hB2⟩)
  rotate_left
  · have d1 : (je rs != 0) = true := by simp [hje]
    have HB2 := Lib.hid hB2
    have HWK := Lib.hid (wakes06 w2 (HT.out.below hB2))
    clear hje hB2
    go_wp2_with (go_at_call 24; refine HWK.out.mono ?_; rintro r w8 ⟨rfl, hB8⟩; have HB8 : Hid (Below w.heap.size w w8) := HB2.out.trans (hB8.mono HB2.out.size); clear hB8)
    go_ret
    exact ⟨rfl, HB8.out⟩
  have HB2 := Lib.hid hB2; have HO2 := Lib.hid ho2
  have hchk := je_all rs hje
  have hnk : ∀ i, (hi : i < rs.length) → nok rs[i].k rs[i].s ∧ rs[i].d.z.length ≤ 8000 := fun i hi => by
    have hd : rs[i].d.z.length = rs[i].d.l := by
      rcases HR.out with h | ⟨_, _, _, h⟩
      · rw [h] at hi; exact absurd hi (Nat.not_lt_zero _)
      · exact (h i hi).2.2.2.len
    rw [hd]; exact chk_ok (hchk i hi)
  have hbz : Bts (frs rs) := bts_frs rs fun i hi => by
    rcases HR.out with h | ⟨_, _, _, h⟩
    · rw [h] at hi; exact absurd hi (Nat.not_lt_zero _)
    · exact (h i hi).2.2.2.bts
  have hkey : ∀ k, k ≤ rs.length → (frs (rs.take k)).length ≤ 413 * k := by
    intro k
    induction k with
    | zero => intro _; exact Nat.zero_le _
    | succ k ih =>
      intro hk
      have hd : rs[k].d.z.length = rs[k].d.l := by
        rcases HR.out with h | ⟨_, _, _, h⟩
        · rw [h] at hk; simp at hk
        · exact (h k (by omega)).2.2.2.len
      have := ih (by omega)
      have h4 := HALL.out k (by omega)
      rw [frs_take rs k (by omega), List.length_append, fr_len]
      omega
  have hNb := hkey rs.length (Nat.le_refl _)
  rw [List.take_length, HL.out] at hNb
  obtain ⟨N, hN⟩ : ∃ N, N = (frs rs).length := ⟨_, rfl⟩
  rw [← hN] at HO2 hNb ⊢
  have hN2 : N ≤ 33040 := by omega
  obtain ⟨K, hK1, hK2⟩ := uwrap_at at' ((N : Int) + 1) (by omega) (by omega)
  have hKN : K ≤ N := by omega
  have HBZ := Lib.hid hbz; have HN := Lib.hid hN; have HNK := Lib.hid hnk; have HKEY := Lib.hid hkey
  clear hje hB2 ho2 hchk hbz hN hkey hNb hK1 hnk
  go_wp2
  rw [hK2]
  have i1 : (0 : Int) ≤ (K : Int) := by omega
  have hkc : N ≤ kc := HO2.out.2.1
  have i2 : (K : Int) ≤ (kc : Int) := by omega
  clear hK2
  have HNC := Lib.hid hnc; have HCM := Lib.hid hcm
  go_loop [8, 9] (fun p i => ∃ j : Nat, j ≤ n ∧ i = .int .i64 j ∧ p = .int .i64 (frs (rs.take j)).length ∧ (j = 0 ∨ (frs (rs.take (j - 1))).length < K)) (fun _ i => n - (intOf i).toNat)
  case atStart => exact ⟨0, Nat.zero_le _, rfl, rfl, .inl rfl⟩
  case round =>
    obtain ⟨j, hj, rfl, rfl, hprev⟩ := hrel
    have HPREV := Lib.hid hprev
    have hpb := HKEY.out j (by rw [HL.out]; exact hj)
    clear hprev
    by_cases hgo : j < n ∧ (frs (rs.take j)).length < K
    · obtain ⟨hlt, hEK⟩ := hgo
      have hlt' : j < rs.length := by rw [HL.out]; exact hlt
      have d1 : decide ((j : Int) < (n : Int)) = true := decide_eq_true (by omega)
      obtain ⟨b, o, rfl, hc⟩ : ∃ b o, ao = some ⟨b, o, none⟩ ∧ _ := by
        rcases HR.out.below HB2.out with h | h
        · rw [h] at hlt'; exact absurd hlt' (Nat.not_lt_zero _)
        · exact h
      obtain ⟨c0, c1, c2, hd⟩ := hc j hlt'
      have h4 := HALL.out j hlt'
      have hcat := frs_take rs j hlt'
      obtain ⟨r, hr⟩ : ∃ r, r = rs[j] := ⟨_, rfl⟩
      rw [← hr] at c2 hd h4 hcat
      obtain ⟨P, hP⟩ : ∃ P, P = (frs (rs.take j)).length := ⟨_, rfl⟩
      have hcl : (frs (rs.take (j + 1))).length = P + 13 + r.d.l := by rw [hcat, List.length_append, fr_len, hd.len, hP]; omega
      have hEK' : (frs (rs.take (j + 1 - 1))).length < K := by rw [Nat.add_sub_cancel]; exact hEK
      have HEK := Lib.hid hEK'; have HCL := Lib.hid hcl
      rw [← hP] at hpb hEK ⊢
      have d2 : decide ((P : Int) < (K : Int)) = true := decide_eq_true (by omega)
      clear hc c0 c1 hd hcat hr hP hcl hEK'
      go_wp2
      go_round
      case rel => exact ⟨j + 1, by omega, by go_num, by rw [HCL.out]; go_num, .inr HEK.out⟩
      case measure => simp [intOf]; omega
    · have hle : K ≤ (frs (rs.take j)).length := by
        by_cases hjn : j < n
        · exact Nat.le_of_not_lt fun h => hgo ⟨hjn, h⟩
        · rw [List.take_of_length_le (by rw [HL.out]; omega), ← HN.out]; exact hKN
      have hcut := spl_cut rs K j (by rw [HL.out]; exact hj) HNK.out hle HPREV.out
      have hsp := split_any ko K kc ((frs rs).take K) w2 (HT.out.below HB2.out) (by rw [List.length_take, ← HN.out]; omega) (by omega) (by omega) HO2.out.2.2.1 (HO2.out.rd.take K) (HBZ.out.take K)
      obtain ⟨P, hP⟩ : ∃ P, P = (frs (rs.take j)).length := ⟨_, rfl⟩
      rw [← hP] at hcut hgo hpb ⊢
      have HCUT := Lib.hid hcut; have HSP := Lib.hid hsp
      have i3 : (0 : Int) ≤ (j : Int) := by omega
      have i4 : (j : Int) ≤ (cap : Int) := by have := HNC.out; omega
      have HRT := Lib.hid (HR.out.below HB2.out)
      clear hcut hsp hle hP
      by_cases hjn : j < n
      · have d1 : decide ((j : Int) < (n : Int)) = true := decide_eq_true (by omega)
        have d2 : decide ((P : Int) < (K : Int)) = false := decide_eq_false (by omega)
        go_wp2_with (go_at_call 30; fail)
        refine HSP.out.mono ?_
        rintro e w3 ⟨ks, er, hspl, hres⟩
        rcases HCUT.out with ⟨hKE, hs0⟩ | ⟨hKE, ks', hs3⟩
        · have her : er = 0 := hspl.err hs0
          have hks : ks = (rs.take j).map Rec.key := (hspl.same hs0 her).1
          rcases hres with ⟨_, rs2, k3, c3, rfl, ho3, hkeys, hB3⟩ | ⟨h0, _⟩
          · have HB3 := Lib.hid (HB2.out.trans (hB3.mono HB2.out.size))
            have hpk : ((P : Int) != (K : Int)) = false := by rw [hKE]; simp
            have hpk' : (P != K) = false := by rw [hKE]; simp
            have hkr := keep_recs k3 ao rs2.length j c3 cap rs2 (rs.take j) w3 rfl (by rw [List.length_take, HL.out]; omega) (Nat.le_trans ho3.2.1 ho3.2.2.1) ho3.rs ((HRT.out.below hB3).take j)
            rw [decide_eq_true (hkeys.trans hks)] at hkr
            have HKR := Lib.hid hkr
            clear hspl hKE hs0 her hks ho3 hkeys hB3 hkr
            go_wp2_with (go_at_call 23; fail)
            refine HKR.out.mono ?_
            rintro e w4 ⟨rfl, hB4⟩
            have HB4 := Lib.hid (HB3.out.trans (hB4.mono HB3.out.size))
            have HWK := Lib.hid (wakes06 w4 (HT.out.below HB4.out))
            clear hB4
            go_wp2_with (go_at_call 24; refine HWK.out.mono ?_; rintro r w8 ⟨rfl, hB8⟩; have HB8 : Hid (Below w.heap.size w w8) := HB4.out.trans (hB8.mono HB4.out.size); clear hB8)
            go_ret
            exact ⟨rfl, HB8.out⟩
          · exact absurd her h0
        · have her : er = 3 := hspl.err hs3
          rcases hres with ⟨h0, _⟩ | ⟨_, rfl, hB3⟩
          · omega
          · subst her
            have HB3 := Lib.hid (HB2.out.trans (hB3.mono HB2.out.size))
            have hpk : ((P : Int) != (K : Int)) = true := by simp; omega
            have hpk' : (P != K) = true := by simp; omega
            have HWK := Lib.hid (wakes06 w3 (HT.out.below HB3.out))
            clear hspl hKE hs3 hB3
            go_wp2_with (go_at_call 24; refine HWK.out.mono ?_; rintro r w8 ⟨rfl, hB8⟩; have HB8 : Hid (Below w.heap.size w w8) := HB3.out.trans (hB8.mono HB3.out.size); clear hB8)
            go_ret
            exact ⟨rfl, HB8.out⟩
      · have d1 : decide ((j : Int) < (n : Int)) = false := decide_eq_false (by omega)
        go_wp2_with (go_at_call 30; fail)
        refine HSP.out.mono ?_
        rintro e w3 ⟨ks, er, hspl, hres⟩
        rcases HCUT.out with ⟨hKE, hs0⟩ | ⟨hKE, ks', hs3⟩
        · have her : er = 0 := hspl.err hs0
          have hks : ks = (rs.take j).map Rec.key := (hspl.same hs0 her).1
          rcases hres with ⟨_, rs2, k3, c3, rfl, ho3, hkeys, hB3⟩ | ⟨h0, _⟩
          · have HB3 := Lib.hid (HB2.out.trans (hB3.mono HB2.out.size))
            have hpk : ((P : Int) != (K : Int)) = false := by rw [hKE]; simp
            have hpk' : (P != K) = false := by rw [hKE]; simp
            have hkr := keep_recs k3 ao rs2.length j c3 cap rs2 (rs.take j) w3 rfl (by rw [List.length_take, HL.out]; omega) (Nat.le_trans ho3.2.1 ho3.2.2.1) ho3.rs ((HRT.out.below hB3).take j)
            rw [decide_eq_true (hkeys.trans hks)] at hkr
            have HKR := Lib.hid hkr
            clear hspl hKE hs0 her hks ho3 hkeys hB3 hkr
            go_wp2_with (go_at_call 23; fail)
            refine HKR.out.mono ?_
            rintro e w4 ⟨rfl, hB4⟩
            have HB4 := Lib.hid (HB3.out.trans (hB4.mono HB3.out.size))
            have HWK := Lib.hid (wakes06 w4 (HT.out.below HB4.out))
            clear hB4
            go_wp2_with (go_at_call 24; refine HWK.out.mono ?_; rintro r w8 ⟨rfl, hB8⟩; have HB8 : Hid (Below w.heap.size w w8) := HB4.out.trans (hB8.mono HB4.out.size); clear hB8)
            go_ret
            exact ⟨rfl, HB8.out⟩
          · exact absurd her h0
        · have her : er = 3 := hspl.err hs3
          rcases hres with ⟨h0, _⟩ | ⟨_, rfl, hB3⟩
          · omega
          · subst her
            have HB3 := Lib.hid (HB2.out.trans (hB3.mono HB2.out.size))
            have hpk : ((P : Int) != (K : Int)) = true := by simp; omega
            have hpk' : (P != K) = true := by simp; omega
            have HWK := Lib.hid (wakes06 w3 (HT.out.below HB3.out))
            clear hspl hKE hs3 hB3
            go_wp2_with (go_at_call 24; refine HWK.out.mono ?_; rintro r w8 ⟨rfl, hB8⟩; have HB8 : Hid (Below w.heap.size w w8) := HB3.out.trans (hB8.mono HB3.out.size); clear hB8)
            go_ret
            exact ⟨rfl, HB8.out⟩

end Go.Proofs.YtmbkgjiofkggcaaDoor
