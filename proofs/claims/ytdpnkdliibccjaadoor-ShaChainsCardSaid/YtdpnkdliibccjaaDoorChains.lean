/-
  The walk of ShaChains.
-/
import Derived.Test.YtdpnkdliibccjaaDoorForced
namespace Go.Proofs.YtdpnkdliibccjaaDoor
open Go.RowKit
set_option linter.unusedVariables false

set_option maxRecDepth 100000 in
set_option maxHeartbeats 2000000 in
theorem chains_in (b : Option Addr) (lb cb : Nat) (zb : List Int) (a1 : Int) (w : World) (hT : Tab w) (hpb : Part.ok w ⟨b, lb, cb, zb⟩) (h1 : lb ≤ 300) :
    Calls Tryd.prog 7 #[.slice b lb cb, .int .i64 a1] w fun e w' => e = .returned (.bool true) ∧ Below w.heap.size w w' := by
  have d1 : decide ((300 : Int) < (lb : Int)) = false := decide_eq_false (by omega)
  have d1' : decide (300 < lb) = false := decide_eq_false (by omega)
  have hlb : zb.length = lb := hpb.len
  obtain ⟨T, hT2, hT1⟩ := uwrap_at a1 20 (by omega) (by omega)
  obtain ⟨SB, hSB⟩ : ∃ SB, SB = shaV zb := ⟨_, rfl⟩
  have lb32 : SB.length = 32 := by rw [hSB]; exact sha_len _
  have b1 : ∀ v ∈ SB, v.oneCell' = true := by rw [hSB]; exact sha_one _
  have hc1 : ∀ V, Below w.heap.size w V → Calls Tryd.prog 10 #[.slice (some ⟨V.heap.size, 0, none⟩) 1 1] (V.alloc (.cells #[.slice b lb cb] 28)) fun e w' => e = .returned (.agg SB.toArray) ∧ Below V.heap.size V w' := fun V hV => by
    rw [hSB]
    exact sum_new V [⟨b, lb, cb, zb⟩] 1 _ _ zb rfl rfl rfl (by decide) (hT.below hV) (by intro p hp; simp only [List.mem_cons, List.mem_nil_iff, or_false] at hp; rw [hp]; exact hpb.below hV) (by rw [flat1]) (by omega)
  have hc2 : ∀ V, Below w.heap.size w V → Calls Tryd.prog 11 #[.slice b lb cb] V fun e w' => e = .returned (.agg SB.toArray) ∧ Below V.heap.size V w' := fun V hV => id_part (p := ⟨b, lb, cb, zb⟩) V (hpb.below hV) (by show lb ≤ _; omega) hSB.symm
  have HC1 := Lib.hid hc1; have HC2 := Lib.hid hc2; have HT := Lib.hid hT; have HPB := Lib.hid hpb; have HSB := Lib.hid hSB; have LB := Lib.hid lb32; have B1 := Lib.hid b1; have HLB := Lib.hid hlb; have HT1 := Lib.hid hT1
  clear hc1 hc2 hT hpb hSB lb32 b1 hlb hT1
  go_enter Tryd.func7, Tryd.ntmps7
  go_wp2_with (go_at_call 10; fail)
  refine (HC1.out w (Below.refl _ _)).mono ?_
  rintro e w1 ⟨rfl, hB1⟩
  have HB1 := Lib.hid hB1
  clear hB1
  go_wp2_with (go_at_call 11; fail)
  refine (HC2.out w1 HB1.out).mono ?_
  rintro e w2 ⟨rfl, hB2⟩
  have HB2 : Hid (Below w.heap.size w w2) := HB1.out.trans (hB2.mono HB1.out.size)
  clear hB2
  obtain ⟨gy, hgy⟩ : ∃ gy, gy = w2.heap.size + 1 := ⟨_, rfl⟩
  go_wp2_with (first
    | (refine store_blk rfl 25 (.tmp 5) (.tmp 17) rfl w2.heap.size (zeros 32) SB rfl rfl 25 ((Blk.new w2 (zeros 32) 25).alloc _) (by rw [LB.out]; exact info25) (by rw [LB.out]; rfl) B1.out ?_; intro w3 HX3 HO3; have HY3 : Hid (Blk w3 gy 25 (zeros 32)) := (Blk.at (zeros 32) (by rw [hgy]; simp)).other HO3.out (by omega))
    | (refine store_blk rfl 25 (.tmp 6) (.tmp 19) rfl gy (zeros 32) SB (by rw [hgy]; rfl) rfl 25 HY3.out (by rw [LB.out]; exact info25) (by rw [LB.out]; rfl) B1.out ?_; intro w4 HY4 HO4))
  have HB3 : Hid (Below w.heap.size w w3) := ((HB2.out.alloc HB2.out.size _).alloc (Nat.le_trans HB2.out.size (by simp)) _).trans (HO3.out.below HB2.out.size)
  have HB4 : Hid (Below w.heap.size w w4) := HB3.out.trans (HO4.out.below (by have := HB2.out.size; omega))
  have HX4 : Hid (Blk w4 w2.heap.size 25 SB) := HX3.out.other HO4.out (by omega)
  have hne : ¬ w2.heap.size = gy := by omega
  have hlx : w.heap.size ≤ w2.heap.size := HB2.out.size
  have hly : w.heap.size ≤ gy := by omega
  generalize w2.heap.size = gx at *
  subst hgy
  clear HX3 HO3 HY3 HO4 HB1 HB2 HB3 HC1 HC2
  rw [HSB.out] at HX4 HY4
  try rw [HT1.out]
  go_loopw [7] (fun iv wr => ∃ (n : Nat) (m : List Int), n ≤ T ∧ iv = .int .i64 n ∧ Below w.heap.size w wr ∧ Blk wr gx 25 (shaV m) ∧ Blk wr (gx + 1) 25 (shaV m)) (fun iv _ => T - (intOf iv).toNat)
  case atStart => exact ⟨0, zb, by omega, rfl, HB4.out, HX4.out, HY4.out⟩
  case round =>
    obtain ⟨n, m, hn, rfl, hB, hX, hY⟩ := hrel
    have HB := Lib.hid hB; have HX := Lib.hid hX; have HY := Lib.hid hY
    have hsml := sha_blen m
    have hlb := HLB.out
    obtain ⟨m', hm'⟩ : ∃ m', m' = shaOf m ++ zb := ⟨_, rfl⟩
    have hml : m'.length = 32 + lb := by rw [hm', List.length_append, hsml, hlb]
    obtain ⟨SV, hSV⟩ : ∃ SV, SV = shaV m' := ⟨_, rfl⟩
    have lv32 : SV.length = 32 := by rw [hSV]; exact sha_len _
    have v1 : ∀ v ∈ SV, v.oneCell' = true := by rw [hSV]; exact sha_one _
    obtain ⟨SO, hSO⟩ : ∃ SO, SO = shaV m := ⟨_, rfl⟩
    have lo32 : SO.length = 32 := by rw [hSO]; exact sha_len _
    have q1 : ∀ V, (binOp .neq 25 (.agg SV.toArray) (.agg SV.toArray)).run Tryd.prog V = .ok (.bool false) V := fun V => by
      have := neq_sum m' m' V
      rw [← hSV] at this
      simpa using this
    have q2 : ∀ V, (Op.equalIn 10000 25 (.agg SV.toArray) (.agg SV.toArray)).run Tryd.prog V = .ok true V := fun V => by
      have := eqIn_sum m' m' V
      rw [← hSV] at this
      simpa using this
    have q3 : ∀ V, (binOp .eql 25 (.agg SO.toArray) (.agg SO.toArray)).run Tryd.prog V = .ok (.bool true) V := fun V => by
      have := eql_sum m m V
      rw [← hSO] at this
      simpa using this
    have q4 : ∀ V, (Op.equalIn 10000 25 (.agg SO.toArray) (.agg SO.toArray)).run Tryd.prog V = .ok true V := fun V => by
      have := eqIn_sum m m V
      rw [← hSO] at this
      simpa using this
    rw [← hSO] at HX HY
    have HML := Lib.hid hml; have HM' := Lib.hid hm'; have HSV := Lib.hid hSV; have LV := Lib.hid lv32; have V1 := Lib.hid v1; have HSO := Lib.hid hSO; have LO := Lib.hid lo32
    clear hB hX hY hsml hlb hml hm' hSV lv32 v1 hSO lo32
    by_cases hlt : n < T
    · have hpx := fun V (hV : Below wr.heap.size wr V) => Lib.hid (blk_part (m := m) (by rw [← HSO.out]; exact HX.out.below hV))
      have hpy := fun V (hV : Below wr.heap.size wr V) => Lib.hid (blk_part (m := m) (by rw [← HSO.out]; exact HY.out.below hV))
      have hpb := fun V (hV : Below wr.heap.size wr V) => Lib.hid (HPB.out.below (HB.out.trans (hV.mono HB.out.size)))
      have hxl := HX.out.lt
      have hyl := HY.out.lt
      go_wp2
      refine wp_region_forced [0, 1, 4, 6] [2, 3, 5, 7, 8, 9, 10] [_, _, _, _] [_, _, _, _, _, _, _] (by kernel_rfl) (by kernel_rfl) (by kernel_rfl) rfl rfl rfl ?_
      refine ⟨.slice (some ⟨gx, 0, none⟩) 32 32, .inl ⟨rfl, fun V => ?_⟩, .slice b lb cb, .inl ⟨rfl, fun V => ?_⟩, .slice (some ⟨gx + 1, 0, none⟩) 32 32, .inl ⟨rfl, fun V => ?_⟩, .slice b lb cb, .inl ⟨rfl, fun V => ?_⟩, ?_⟩
      · have := cut_all arr25 V gx 0 (by omega)
        go_simp
      · go_simp
      · have := cut_all arr25 V (gx + 1) 0 (by omega)
        go_simp
      · go_simp
      change wpList Tryd.prog _ _ _ _ wr.drew
      simp only [List.getElem_toArray, List.getElem_cons_zero, List.getElem_cons_succ]
      have HBD := Lib.hid (Below.refl wr.heap.size wr).drew
      have HCS := Lib.hid (sum_new wr.drew [⟨some ⟨gx, 0, none⟩, 32, 32, shaOf m⟩, ⟨b, lb, cb, zb⟩] 2 wr.drew.heap.size #[.slice (some ⟨gx, 0, none⟩) 32 32, .slice b lb cb] m' rfl rfl rfl (by decide) (HT.out.below (HB.out.trans (HBD.out.mono HB.out.size)))
        (by intro p hp; simp only [List.mem_cons, List.mem_nil_iff, or_false] at hp; exact hp.elim (fun h => h ▸ (hpx _ HBD.out).out) (fun h => h ▸ (hpb _ HBD.out).out)) (by rw [flat2]; exact HM'.out) (by rw [HML.out]; omega))
      rw [← HSV.out] at HCS
      go_wp2_with (go_at_call 10; fail)
      refine HCS.out.mono ?_
      rintro e w5 ⟨rfl, hB5⟩
      have HB5 : Hid (Below wr.heap.size wr w5) := HBD.out.trans hB5
      have hg5 := HB5.out.size
      have HX5 := Lib.hid (HX.out.below HB5.out)
      have HY5 := Lib.hid (HY.out.below HB5.out)
      clear hB5
      have HTW := Lib.hid (twin_any (some ⟨gx + 1, 0, none⟩) 32 32 (shaOf m) w5 (sha_blen m) (by omega) (hpy _ HB5.out).out.rd (fun h => by cases h))
      go_wp2_with (go_at_call 16; fail)
      refine HTW.out.mono ?_
      rintro e w6 ⟨ko, kc, rfl, how, hB6⟩
      have HOW := Lib.hid how
      have HB6 : Hid (Below wr.heap.size wr w6) := HB5.out.trans (hB6.mono hg5)
      have hg6 := hB6.size
      have HX6 := Lib.hid (HX5.out.below hB6)
      have HY6 := Lib.hid (HY5.out.below hB6)
      have HRD := Lib.hid (hpb _ HB6.out).out
      have hlx5 := HX5.out.lt
      have hly5 := HY5.out.lt
      clear how hB6
      go_wp2_with (first
        | (at_builtin; (refine append_bytes rfl (.tmp 30) (.tmp 31) rfl w5.heap.size 32 kc lb cb ko b (shaOf m) zb rfl HOW.out rfl HRD.out.rd HLB.out HRD.out.nil (by omega) hg6 ?_; intro ko7 kc7 w7 how7 hB7; have HOW7 := Lib.hid how7; have HB7 := Lib.hid hB7; clear how7 hB7))
        | (go_at_call 11; fail))
      have hv : shaV (shaOf m ++ zb) = SV := by rw [HSV.out, HM'.out]
      have HID := Lib.hid (id_part (p := ⟨ko7, 32 + lb, kc7, shaOf m ++ zb⟩) w7 (HOW7.out.part (Bts.append (sha_bts m) HPB.out.bts)) (by show 32 + lb ≤ _; omega) hv)
      have HX7 : Hid (Blk w7 gx 25 SO) := (HB7.out.block gx (by omega)).trans HX6.out
      have HY7 : Hid (Blk w7 (gx + 1) 25 SO) := (HB7.out.block (gx + 1) (by omega)).trans HY6.out
      have HB7' : Hid (Below wr.heap.size wr w7) := HB6.out.trans (HB7.out.mono hg5)
      refine HID.out.mono ?_
      rintro e w8 ⟨rfl, hB8⟩
      have HX8 := Lib.hid (HX7.out.below hB8)
      have HY8 := Lib.hid (HY7.out.below hB8)
      have HB8 : Hid (Below w.heap.size w w8) := HB.out.trans ((HB7'.out.trans (hB8.mono HB7'.out.size)).mono HB.out.size)
      clear hB8 hv HID HX7 HY7 HX6 HY6 HX5 HY5 HTW HCS HRD
      go_wp2_with (first
        | (refine store_blk rfl 25 (.tmp 5) (.tmp 28) rfl gx SO SV rfl rfl 25 HX8.out (by rw [LV.out]; exact info25) (by rw [LO.out, LV.out]) V1.out ?_; intro w9 HX9 HO9; have HY9 : Hid (Blk w9 (gx + 1) 25 SO) := HY8.out.other HO9.out (by omega))
        | (refine store_blk rfl 25 (.tmp 6) (.tmp 33) rfl (gx + 1) SO SV rfl rfl 25 HY9.out (by rw [LV.out]; exact info25) (by rw [LO.out, LV.out]) V1.out ?_; intro w10 HY10 HO10))
      have HX10 : Hid (Blk w10 gx 25 SV) := HX9.out.other HO10.out (by omega)
      have HB10 : Hid (Below w.heap.size w w10) := (HB8.out.trans (HO9.out.below hlx)).trans (HO10.out.below hly)
      clear HX9 HO9 HY9 HO10 HX8 HY8 HB8
      refine NoPanic.normal ?_
      go_wp2_with (first
        | (refine load_blk rfl 25 (.tmp 5) rfl gx 0 SV SV rfl 25 HX10.out (by rw [List.drop_zero, List.take_length]) _ Tryd.underlying25 rfl (by rw [LV.out]; exact info25) ?_)
        | (refine load_blk rfl 25 (.tmp 6) rfl (gx + 1) 0 SV SV rfl 25 HY10.out (by rw [List.drop_zero, List.take_length]) _ Tryd.underlying25 rfl (by rw [LV.out]; exact info25) ?_))
      go_roundw
      case rel =>
        rw [HSV.out] at HX10 HY10
        exact ⟨n + 1, m', by omega, by go_num, HB10.out, HX10.out, HY10.out⟩
      case measure => simp [intOf]; omega
    · have HWK := Lib.hid (wakes_any wr (HT.out.below HB.out))
      go_wp2_with (first
        | (refine load_blk rfl 25 (.tmp 5) rfl gx 0 SO SO rfl 25 HX.out (by rw [List.drop_zero, List.take_length]) _ Tryd.underlying25 rfl (by rw [LO.out]; exact info25) ?_)
        | (refine load_blk rfl 25 (.tmp 6) rfl (gx + 1) 0 SO SO rfl 25 HY.out (by rw [List.drop_zero, List.take_length]) _ Tryd.underlying25 rfl (by rw [LO.out]; exact info25) ?_)
        | (go_at_call 14; refine HWK.out.mono ?_; rintro e w7 ⟨rfl, hB7⟩; have HB7 := Lib.hid (HB.out.trans (hB7.mono HB.out.size)); clear hB7))
      go_ret
      exact ⟨rfl, HB7.out⟩

theorem chains_any (b : Option Addr) (lb cb : Nat) (zb : List Int) (a1 : Int) (w : World) (hT : Tab w) (hpb : Part.ok w ⟨b, lb, cb, zb⟩) :
    Calls Tryd.prog 7 #[.slice b lb cb, .int .i64 a1] w fun e w' => e = .returned (.bool true) ∧ Below w.heap.size w w' := by
  by_cases h : lb ≤ 300
  · exact chains_in b lb cb zb a1 w hT hpb h
  · have d1 : decide ((300 : Int) < (lb : Int)) = true := decide_eq_true (by omega)
    have d1' : decide (300 < lb) = true := decide_eq_true (by omega)
    go_enter Tryd.func7, Tryd.ntmps7
    go_wp2
    go_ret
    exact ⟨rfl, Below.refl _ _⟩
end Go.Proofs.YtdpnkdliibccjaaDoor
