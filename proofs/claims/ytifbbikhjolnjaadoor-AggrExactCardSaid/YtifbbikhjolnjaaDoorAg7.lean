/-
  AggrSizes.
-/
import Derived.Test.YtifbbikhjolnjaaDoorAg6
namespace Go.Proofs.YtifbbikhjolnjaaDoor
open Go.RowKit
set_option linter.unusedVariables false

theorem jE_size (a b : Nat) (rs : List Rec) (h1 : 32 ≤ a) (h2 : a ≤ 256) (h3 : 32 ≤ b) (h4 : b ≤ 256) : jE (a : Int) rs = jE (b : Int) rs := by
  unfold jE
  rw [if_neg (by omega), if_neg (show ¬((b : Int) < 32 ∨ 256 < (b : Int)) by omega)]
theorem OPs.start {w : World} {base : Nat} {ko : Option Addr} {n kc : Nat} {ps : List Part} (h : OPs w base ko n kc ps) (h0 : 1 ≤ n) : ∃ g, ko = some ⟨g, 0, none⟩ ∧ ∀ r, (h : r < ps.length) → w.cell? ⟨g, r, none⟩ = some (.slice ps[r].a ps[r].l ps[r].c) ∧ ps[r].ok w := by
  obtain ⟨g, hg, _⟩ := h.at (j := 0) (by rw [h.len]; omega)
  refine ⟨g, hg, fun r hr => ?_⟩
  obtain ⟨g', hg', _, hc, ho⟩ := h.at hr
  rw [hg] at hg'; cases hg'
  exact ⟨hc, ho.1⟩
theorem chu_small (s : Nat) (zs : List Int) (m : Nat) : ∀ l ∈ chu s zs m, l.length ≤ s := by
  intro l hl
  obtain ⟨k, _, rfl⟩ := List.mem_map.1 hl
  rw [List.length_take]; omega
theorem OPs.lens {w : World} {base : Nat} {ko : Option Addr} {n kc : Nat} {ps : List Part} (h : OPs w base ko n kc ps) {s m : Nat} {zs : List Int} (hs : s ≤ 256) (hz : ps.map Part.z = chu s zs m) : ∀ r, (h : r < ps.length) → ps[r].l ≤ 300 := by
  intro r hr
  have h1 := (h.own _ (List.getElem_mem hr)).1.len
  have h2 := chu_small s zs m (ps[r].z) (hz ▸ List.mem_map.2 ⟨ps[r], List.getElem_mem hr, rfl⟩)
  omega
/-- The blocks joined again. -/
theorem flat_blocks {w : World} {base : Nat} {ko : Option Addr} {s kc : Nat} {ps : List Part} {zs : List Int} (h : OPs w base ko (nb zs.length s) kc ps) (hz : ps.map Part.z = chu s zs (nb zs.length s)) (h1 : 32 ≤ s) (h2 : s ≤ 256) (hl : zs.length ≤ 600000) (hl1 : 1 ≤ zs.length) :
    ∀ V, Below w.heap.size w V → Calls Tryd.prog 18 #[.slice ko (nb zs.length s) kc] V (R1 V zs.length zs) := by
  intro V hV
  have hV' := h.below hV
  obtain ⟨g, rfl, hc⟩ := hV'.start (nb_pos _ _ (by omega) hl1)
  have hf := flat_ag (by omega) hz
  have := flat_big g (nb zs.length s) kc ps V h.len (Nat.le_trans (nb_small _ _ h1 hl) (by omega)) hc (h.lens h2 hz)
  rw [hf] at this
  exact this

set_option maxHeartbeats 4000000 in
theorem sizes_walk (a1 a2 : Int) (ao : Option Addr) (n cap : Nat) (rs : List Rec) (w : World) (hT : Tab w) (hl : rs.length = n) (hm : n ≤ maxLen) (h : Rs w ao rs) :
    Calls Tryd.prog 5 #[.int .i64 a1, .int .i64 a2, .slice ao n cap] w fun e w' => e = .returned (.bool true) ∧ Below w.heap.size w w' := by
  obtain ⟨k1, hk1, he1⟩ := uwrap_at a1 225 (by omega) (by omega)
  obtain ⟨k2, hk2, he2⟩ := uwrap_at a2 225 (by omega) (by omega)
  obtain ⟨A, hA⟩ : ∃ A : Nat, A = 32 + k1 := ⟨_, rfl⟩
  obtain ⟨B, hB⟩ : ∃ B : Nat, B = 32 + k2 := ⟨_, rfl⟩
  have hA1 : 32 ≤ A := by omega
  have hA2 : A ≤ 256 := by omega
  have hB1 : 32 ≤ B := by omega
  have hB2 : B ≤ 256 := by omega
  have hwa : wrap64 (32 + (k1 : Int)) = (A : Int) := by rw [IntWalk.wrap64_in _ ⟨by omega, by omega⟩]; omega
  have hwb : wrap64 (32 + (k2 : Int)) = (B : Int) := by rw [IntWalk.wrap64_in _ ⟨by omega, by omega⟩]; omega
  have hHV := heavy_any ao n cap rs w hl hm h
  have hPA := fun V (hV : Below w.heap.size w V) => pack_any (A : Int) ao n cap rs V hl hm (hT.below hV) (h.below hV)
  have hPB := fun V (hV : Below w.heap.size w V) => pack_any (B : Int) ao n cap rs V hl hm (hT.below hV) (h.below hV)
  have hNA := fun V (hV : Below w.heap.size w V) => need_any (A : Int) ao n cap rs V hl hm (hT.below hV) (h.below hV)
  have hNB := fun V (hV : Below w.heap.size w V) => need_any (B : Int) ao n cap rs V hl hm (hT.below hV) (h.below hV)
  have hje := jE_size A B rs hA1 hA2 hB1 hB2
  obtain ⟨er, her⟩ : ∃ er, er = jE (B : Int) rs := ⟨_, rfl⟩
  rw [← her] at hje
  have HHV := Lib.hid hHV; have HPA := Lib.hid hPA; have HPB := Lib.hid hPB; have HNA := Lib.hid hNA; have HNB := Lib.hid hNB
  have HEA := Lib.hid hje; have HEB := Lib.hid her.symm
  have HT := Lib.hid hT; have HL := Lib.hid hl
  have HA := Lib.hid (And.intro hA1 hA2); have HBB := Lib.hid (And.intro hB1 hB2)
  clear hHV hPA hPB hNA hNB hje her hT h hA hB hk1 hk2 hA1 hA2 hB1 hB2
  go_enter Tryd.func5, Tryd.ntmps5
  go_wp2_with (go_at_call 8; fail)
  refine HHV.out.mono ?_
  rintro e w' ⟨hh, rfl⟩
  rcases hh with rfl | ⟨rfl, hn, hd⟩
  · clear HPA HPB HNA HNB
    go_wp2
    go_ret
    exact ⟨rfl, Below.refl _ _⟩
  clear HHV hd
  go_wp2_with (go_at_call 11; fail)
  refine (HPA.out w (Below.refl _ _)).mono ?_
  rintro e w1 ⟨hB1, hc⟩
  have HB1 := Lib.hid hB1
  by_cases h0 : er = 0
  · subst h0
    rcases hc with ⟨_, bo, bc, oo, oc, ps, rfl, hops, hon, hpz, hlen, hbts, _, _, hn1, hn2⟩ | ⟨hj, _⟩
    rotate_left
    · exact absurd HEA.out hj
    rw [Int.toNat_natCast] at hops hpz ⊢
    have HFA := Lib.hid (flat_blocks hops hpz HA.out.1 HA.out.2 hlen (by rw [ag_len]; omega))
    have HONA := Lib.hid hon; have HLEN := Lib.hid hlen; have HBT := Lib.hid hbts
    clear hops hon hpz hbts hB1
    go_wp2_with (go_at_call 11; fail)
    refine (HPB.out w1 HB1.out).mono ?_
    rintro e w2 ⟨hB2, ⟨_, co, cc, qo, qc, qs, rfl, hops, hon, hpz, _⟩ | ⟨hj, _⟩⟩
    rotate_left
    · exact absurd HEB.out hj
    rw [Int.toNat_natCast] at hops hpz ⊢
    have HFB := Lib.hid (flat_blocks hops hpz HBB.out.1 HBB.out.2 hlen (by rw [ag_len]; omega))
    have HONB := Lib.hid hon
    have HB2 := Lib.hid (HB1.out.trans (hB2.mono HB1.out.size)); have HB12 := Lib.hid hB2
    clear hops hon hpz hB2
    go_wp2_with (go_at_call 10; fail)
    refine (HNA.out w2 HB2.out).mono ?_
    rintro e w3 ⟨hB3, ⟨_, rfl⟩ | ⟨hj, _⟩⟩
    rotate_left
    · exact absurd HEA.out hj
    rw [Int.toNat_natCast]
    have HB3 := Lib.hid (HB2.out.trans (hB3.mono HB2.out.size)); have HB23 := Lib.hid hB3
    clear hB3
    go_wp2_with (go_at_call 10; fail)
    refine (HNB.out w3 HB3.out).mono ?_
    rintro e w4 ⟨hB4, ⟨_, rfl⟩ | ⟨hj, _⟩⟩
    rotate_left
    · exact absurd HEB.out hj
    rw [Int.toNat_natCast]
    have HB4 := Lib.hid (HB3.out.trans (hB4.mono HB3.out.size)); have HB34 := Lib.hid hB4
    clear hB4
    have hx4 := HFA.out w4 (HB12.out.trans ((HB23.out.trans (HB34.out.mono HB23.out.size)).mono HB12.out.size))
    have hnn : A ≤ B → nb (ag rs).length B ≤ nb (ag rs).length A := nb_anti _ _ _ (by have := HA.out.1; omega)
    obtain ⟨zs, hzs⟩ : ∃ zs, zs = ag rs := ⟨_, rfl⟩
    rw [← hzs] at hx4 hnn HFB HLEN HBT ⊢
    obtain ⟨N, hN⟩ : ∃ N, N = zs.length := ⟨_, rfl⟩
    rw [← hN] at hx4 hnn HFB HLEN ⊢
    have hq1 : nb N A ≤ 20000 := nb_small _ _ HA.out.1 HLEN.out
    have hq2 : nb N B ≤ 20000 := nb_small _ _ HBB.out.1 HLEN.out
    obtain ⟨n1, hn1⟩ : ∃ n1, n1 = nb N A := ⟨_, rfl⟩
    obtain ⟨n2, hn2⟩ : ∃ n2, n2 = nb N B := ⟨_, rfl⟩
    rw [← hn1] at hx4 hnn hq1 ⊢
    rw [← hn2] at HFB hnn hq2 ⊢
    rw [HL.out] at HONA HONB
    have hnr2 : n ≤ 1000000 := by omega
    have HX := Lib.hid hx4; have HNN := Lib.hid hnn; have HQ := Lib.hid (And.intro hq1 hq2); have HNL := Lib.hid hN; have HNR := Lib.hid hnr2
    clear hx4 hnn hq1 hq2 hN hn1 hn2 hzs hnr2 hlen HFA HPA HPB HNA HNB
    have d1 : ((0 : Int) != 0) = false := rfl
    have HTS : Hid ((decide (B < A) || decide (n2 ≤ n1)) = true) := by
      show (decide (B < A) || decide (n2 ≤ n1)) = true
      by_cases hba : B < A
      · rw [decide_eq_true hba]; rfl
      · rw [decide_eq_true (HNN.out (Nat.le_of_not_lt hba)), Bool.or_true]
    go_wp2_with (go_at_call 18; fail)
    refine HX.out.mono ?_
    rintro e w5 ⟨o5, c5, rfl, how5, hB5⟩
    have HO5 := Lib.hid how5
    have HY := Lib.hid (HFB.out w5 ((HB23.out.trans (HB34.out.mono HB23.out.size)).trans (hB5.mono (HB23.out.trans (HB34.out.mono HB23.out.size)).size)))
    have HB5 := Lib.hid (HB4.out.trans (hB5.mono HB4.out.size)); have HB25 := Lib.hid ((HB23.out.trans (HB34.out.mono HB23.out.size)).trans (hB5.mono (HB23.out.trans (HB34.out.mono HB23.out.size)).size)); have HB15 := Lib.hid (HB12.out.trans ((HB23.out.trans ((HB34.out.trans (hB5.mono HB34.out.size)).mono HB23.out.size)).mono HB12.out.size))
    clear how5 hB5 HX HFB
    go_wp2_with (go_at_call 18; fail)
    refine HY.out.mono ?_
    rintro e w6 ⟨o6, c6, rfl, how6, hB6⟩
    have HCM := Lib.hid (bytes_cmp o5 o6 N N c5 c6 zs zs w6 HNL.out.symm HNL.out.symm (by have := HLEN.out; unfold maxLen; omega) (HO5.out.below hB6).rd how6.rd)
    have HB6 := Lib.hid (HB5.out.trans (hB6.mono HB5.out.size)); have HB26 := Lib.hid (HB25.out.trans (hB6.mono HB25.out.size)); have HB16 := Lib.hid (HB15.out.trans (hB6.mono HB15.out.size))
    clear how6 hB6 HY
    go_wp2_with (go_at_call 21; fail)
    refine HCM.out.mono ?_
    rintro e w7 ⟨rfl, q, hw7⟩
    have hB7 : Below w6.heap.size w6 w7 := by rw [hw7]; exact below_drewN (Below.refl _ _) _
    rw [show decide True = true from rfl]
    have HB7 := Lib.hid (HB6.out.trans (hB7.mono HB6.out.size)); have HB17 := Lib.hid (HB16.out.trans (hB7.mono HB16.out.size))
    have HIC := Lib.hid (ints_cmp oo qo n n oc qc _ _ w7 _ _ HNR.out (HONA.out.below HB17.out) (HONB.out.below (HB26.out.trans (hB7.mono HB26.out.size))))
    clear hw7 hB7 HCM
    go_wp2_with (go_at_call 14; fail)
    refine HIC.out.mono ?_
    rintro e w8 ⟨rfl, q2, hw8⟩
    have hB8 : Below w7.heap.size w7 w8 := by rw [hw8]; exact below_drewN (Below.refl _ _) _
    try rw [show decide True = true from rfl]
    have HB8 := Lib.hid (HB7.out.trans (hB8.mono HB7.out.size))
    have HWK := Lib.hid (wakes15 w8 (HT.out.below HB8.out))
    clear hw8 hB8 HIC
    go_wp2_with (go_at_call 16; refine HWK.out.mono ?_; rintro e w9 ⟨rfl, hB9⟩; have HB9 := Lib.hid hB9; clear hB9)
    · go_ret
      exact ⟨congrArg (fun b => Ending.returned (Value.bool b)) HTS.out, HB8.out.trans (HB9.out.mono HB8.out.size)⟩
    · rename_i _ hf
      exact absurd (by simpa using HTS.out) hf
    · go_ret
      exact ⟨rfl, HB8.out.trans (HB9.out.mono HB8.out.size)⟩
  · rcases hc with ⟨hj, _⟩ | ⟨_, rfl⟩
    · exact absurd (HEA.out.symm.trans hj) h0
    clear hB1
    rw [HEA.out]
    go_wp2_with (go_at_call 11; fail)
    refine (HPB.out w1 HB1.out).mono ?_
    rintro e w2 ⟨hB2, ⟨hj, _⟩ | ⟨_, rfl⟩⟩
    · exact absurd (HEB.out.symm.trans hj) h0
    rw [HEB.out]
    have HB2 := Lib.hid (HB1.out.trans (hB2.mono HB1.out.size))
    clear hB2
    go_wp2_with (go_at_call 10; fail)
    refine (HNA.out w2 HB2.out).mono ?_
    rintro e w3 ⟨hB3, ⟨hj, _⟩ | ⟨_, rfl⟩⟩
    · exact absurd (HEA.out.symm.trans hj) h0
    rw [HEA.out]
    have HB3 := Lib.hid (HB2.out.trans (hB3.mono HB2.out.size))
    clear hB3
    go_wp2_with (go_at_call 10; fail)
    refine (HNB.out w3 HB3.out).mono ?_
    rintro e w4 ⟨hB4, ⟨hj, _⟩ | ⟨_, rfl⟩⟩
    · exact absurd (HEB.out.symm.trans hj) h0
    rw [HEB.out]
    have HB4 := Lib.hid (HB3.out.trans (hB4.mono HB3.out.size))
    have HWK := Lib.hid (wakes15 w4 (HT.out.below HB4.out))
    have d1 : (er != er) = false := by simp
    have d2 : (er != 0) = true := by simp [h0]
    clear hB4
    go_wp2_with (go_at_call 16; refine HWK.out.mono ?_; rintro e w9 ⟨rfl, hB9⟩; have HB9 := Lib.hid hB9; clear hB9)
    go_ret
    exact ⟨rfl, HB4.out.trans (HB9.out.mono HB4.out.size)⟩

end Go.Proofs.YtifbbikhjolnjaaDoor
