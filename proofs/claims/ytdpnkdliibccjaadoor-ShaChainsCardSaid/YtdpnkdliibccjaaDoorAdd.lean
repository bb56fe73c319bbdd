/-
  Bytes taken in.
-/
import Derived.Test.YtdpnkdliibccjaaDoorDig
namespace Go.Proofs.YtdpnkdliibccjaaDoor
open Go.RowKit
set_option linter.unusedVariables false

def lenV : Value → Nat | .slice _ l _ => l | _ => 0

set_option maxRecDepth 100000 in
set_option maxHeartbeats 2000000 in
theorem add_ok (g : Nat) (m : List Int) (N : Nat) (ao : Option Addr) (len cap : Nat) (z : List Int) (w : World) (hT : Tab w) (hg2 : 2 ≤ g) (hd : Dg w g m N) (hl : z.length = len) (hlc : len ≤ cap) (hcm : cap ≤ maxLen) (hr : Rd w ao z) (hz : Bts z)
    (hne : z ≠ [] → ∀ ad, ao = some ad → ad.block ≠ g) (hN : N + len ≤ 1000000000) :
    Calls Tryd.prog 17 #[.pointer (some ⟨g, 0, none⟩), .slice ao len cap] w fun e w' => e = .returned (.tuple #[]) ∧ Dg w' g (m ++ z) (N + len) ∧ Near g w w' := by
  obtain ⟨s, bl, hdg, hg⟩ := hd
  have hbl := hdg.len
  have c73 := hg.cell (j := 73) (by rw [dcs_len _ _ _ _ hbl]; omega)
  rw [dcs_num _ _ _ _ hbl] at c73
  have f73 := hg.free (j := 73)
  unfold maxLen at hcm
  have hst := hg.set (j := 73) (.int .u64 ((N : Int) + (len : Int)))
  rw [dcs_setn _ _ _ _ _ hbl] at hst
  obtain ⟨W, hW⟩ : ∃ W, W = w.setCell ⟨g, 73, none⟩ (.int .u64 ((N : Int) + (len : Int))) := ⟨_, rfl⟩
  rw [← hW] at hst
  have hoW : Only g w W := by rw [hW]; exact (Only.refl g w).set 73 _
  have hNW : Near g w W := Near.of_only hoW
  have hDW : Dg W g m (N + len) := ⟨s, bl, hdg, by rw [Int.natCast_add]; exact hst⟩
  have HW := Lib.hid hW; have HNW := Lib.hid hNW; have HDW := Lib.hid hDW; have HR := Lib.hid (hNW.rd hr hne); have HNE := Lib.hid hne; have HZ := Lib.hid hz; have HL := Lib.hid hl; have HT := Lib.hid hT
  clear hdg hg hbl hst hW hoW hNW hDW hr hne hz hl hT
  go_enter Tryd.func17, Tryd.ntmps17
  go_wp2
  rw [← HW.out]
  go_loopw [1] (fun v wr => ∃ (p L C : Nat) (ko : Option Addr), L + p = len ∧ C + p = cap ∧ v = .slice ko L C ∧ Rd wr ko (z.drop p) ∧ (z.drop p ≠ [] → ∀ ad, ko = some ad → ad.block ≠ g) ∧ Dg wr g (m ++ z.take p) (N + len) ∧ Near g w wr) (fun v _ => lenV v)
  case atStart => exact ⟨0, len, cap, ao, rfl, rfl, rfl, HR.out, HNE.out, by simpa using HDW.out, HNW.out⟩
  case round =>
    obtain ⟨p, L, C, ko, hLp, hCp, rfl, hr, hne, hd, hn⟩ := hrel
    by_cases hL : 0 < L
    · have hzl : (z.drop p).length = L := by rw [List.length_drop, HL.out]; omega
      obtain ⟨b, o, rfl, hcc⟩ := hr.at (by omega)
      obtain ⟨s, bl, hdg, hg⟩ := hd
      have hbl := hdg.len
      obtain ⟨M, hM⟩ : ∃ M, M = m ++ z.take p := ⟨_, rfl⟩
      rw [← hM] at hdg hg
      obtain ⟨f, hf⟩ : ∃ f, f = M.length % 64 := ⟨_, rfl⟩
      have hf64 : f < 64 := by rw [hf]; exact Nat.mod_lt _ (by decide)
      rw [← hf] at hg
      obtain ⟨cnt, hcnt⟩ : ∃ cnt, cnt = Nat.min L (64 - f) := ⟨_, rfl⟩
      have hc1 : cnt ≤ L := by rw [hcnt]; exact Nat.min_le_left _ _
      have hc2 : cnt ≤ 64 - f := by rw [hcnt]; exact Nat.min_le_right _ _
      have hc3 : 0 < cnt := by rw [hcnt]; exact Nat.lt_min.2 ⟨hL, by omega⟩
      obtain ⟨x, hx⟩ : ∃ x, x = (z.drop p).take cnt := ⟨_, rfl⟩
      have hxl : x.length = cnt := by rw [hx, List.length_take, hzl]; omega
      have hxb : Bts x := by rw [hx]; exact (HZ.out.drop p).take cnt
      have hsrc : ∀ j v, (x.map (Value.int .u8))[j]? = some v → wr.cell? ((⟨b, o, none⟩ : Addr).add j) = some v := fun j v hv => by
        have hj : j < cnt := by have := (List.getElem?_eq_some_iff.1 hv).1; rwa [List.length_map, hxl] at this
        rw [Addr.add_lit, hcc j (by omega), ← hv, hx]
        simp [List.getD, hj]
        rw [List.getElem?_eq_getElem (by rw [HL.out]; omega)]
        rfl
      have hcut := fun V => cut_arr arr39 V g 8 (f : Int) f rfl hf64
      have hsp : splice (dcs s bl (f : Int) ((N + len : Nat) : Int)) (8 + f) (x.map (Value.int .u8)) = dcs s (splice bl f x) (f : Int) ((N + len : Nat) : Int) := dcs_splice _ _ _ _ _ _ hbl (by omega)
      have hnbl : (splice bl f x).length = 64 := by rw [splice_len _ _ _ (by rw [hbl]; omega)]; exact hbl
      have c72 := hg.cell (j := 72) (by rw [dcs_len _ _ _ _ hbl]; omega)
      rw [dcs_fill _ _ _ _ hbl] at c72
      have hCL : L ≤ C := by omega
      have hMx : M ++ x = m ++ z.take (p + cnt) := by rw [hM, hx, List.append_assoc, List.take_add]
      have hrest : Rd wr (some ⟨b, o + cnt, none⟩) (z.drop (p + cnt)) := by
        have := Rd.drop hr cnt
        rwa [List.drop_drop] at this
      have hrest0 : C = cnt → z.drop (p + cnt) = [] := fun h => List.drop_eq_nil_of_le (by rw [HL.out]; omega)
      have hgb : b ≠ g := hne (fun e => by rw [e] at hzl; simp at hzl; omega) ⟨b, o, none⟩ rfl
      have hfit : 8 + f + cnt ≤ (dcs s bl (f : Int) ((N + len : Nat) : Int)).length := by rw [dcs_len _ _ _ _ hbl]; omega
      have hone : ∀ v ∈ x.map (Value.int .u8), v.oneCell' = true := fun v hv => by
        obtain ⟨y, _, rfl⟩ := List.mem_map.1 hv; rfl
      obtain ⟨XS, hXS⟩ : ∃ XS, XS = x.map (Value.int .u8) := ⟨_, rfl⟩
      have hXL : XS.length = cnt := by rw [hXS, List.length_map, hxl]
      obtain ⟨DL, hDL⟩ : ∃ DL, DL = dcs s bl (f : Int) ((N + len : Nat) : Int) := ⟨_, rfl⟩
      rw [← hXS] at hsrc hsp hone; rw [← hDL] at hsp hg hfit
      have HG := Lib.hid hg; have HSRC := Lib.hid hsrc; have HONE := Lib.hid hone; have HSP := Lib.hid hsp; have HXL := Lib.hid hXL; have HFIT := Lib.hid hfit; have HMX := Lib.hid hMx; have HRE := Lib.hid hrest; have HR0 := Lib.hid hrest0; have HCN := Lib.hid hcnt
      have HDG := Lib.hid hdg; have HF := Lib.hid hf; have HNB := Lib.hid hnbl; have HXB := Lib.hid hxb; have HX := Lib.hid hxl; have HNN := Lib.hid hn; have HGB := Lib.hid hgb; have HLP := Lib.hid hLp; have HCP := Lib.hid hCp
      have hb64 : f + cnt ≤ 64 := by omega
      clear hr hn hne hcc hzl hg hsrc hone hsp hXL hfit hMx hrest hrest0 hcnt hdg hf hnbl hxb hxl hM hx hbl hXS hDL hgb hLp hCp
      by_cases hC : C = cnt
      · obtain rfl : cnt = C := hC.symm
        clear hC
        by_cases h64 : f + cnt = 64
        · have d64 : (((f : Int) + (cnt : Int)) == 64) = true := beq_iff_eq.2 (by omega)
          go_wp2
          go_region_law (refine step_copy_blk rfl (.tmp 25) (.tmp 26) rfl g (8 + f) (64 - f) (64 - f) L cnt cnt ⟨b, o, none⟩ rfl rfl DL XS 42 HG.out.drew HXL.out HCN.out (fun j v hv => HSRC.out j v hv) HFIT.out HONE.out ?_; intro w4 hg4 ho4)
          have hgx : Blk w4 g 42 (dcs s (splice bl f x) (f : Int) ((N + len : Nat) : Int)) := by rw [← HSP.out]; exact hg4.out
          have c4 := hgx.cell (j := 72) (by rw [dcs_len _ _ _ _ HNB.out]; omega)
          rw [dcs_fill _ _ _ _ HNB.out] at c4
          have f4 := hgx.free (j := 72)
          have hs4 := hgx.set (j := 72) (.int .i64 ((f : Int) + (cnt : Int)))
          rw [dcs_setf _ _ _ _ _ HNB.out] at hs4
          have HO4 : Hid (Only g wr (w4.setCell ⟨g, 72, none⟩ (.int .i64 ((f : Int) + (cnt : Int))))) := ((Only.refl g wr).drew.trans ho4.out).set 72 _
          have HS4 := Lib.hid hs4
          clear hgx hs4 c72 hg4 ho4
          have HMI := Lib.hid (mix_ok g s (splice bl f x) ((f : Int) + (cnt : Int)) ((N + len : Nat) : Int) _ ((HNN.out.trans (Near.of_only HO4.out)).tab HT.out hg2) hg2 HNB.out (bts_splice HDG.out.bts HXB.out) HS4.out)
          go_wp2_with (go_at_call 23; refine HMI.out.mono ?_; rintro e w5 ⟨rfl, h5, n5⟩; have H5 := Lib.hid h5; have N5 := Lib.hid n5; clear h5 n5)
          have hNr : Near g wr w5 := (Near.of_only HO4.out).trans N5.out
          have hDg : Dg w5 g (M ++ x) (N + len) := by
            have := HDG.out.full HXB.out (by rw [← HF.out, HX.out]; exact h64)
            rw [← HF.out] at this
            refine ⟨_, _, this, ?_⟩
            rw [show (M ++ x).length % 64 = 0 by rw [List.length_append, HX.out]; have := HF.out; omega]
            exact H5.out
          rw [HMX.out] at hDg
          go_roundw
          case rel => exact ⟨p + cnt, 0, 0, some ⟨b, o, none⟩, by have := HLP.out; omega, by have := HCP.out; omega, rfl, .inl (HR0.out trivial), (by rintro _ ad ⟨⟩; exact HGB.out), hDg, HNN.out.trans hNr⟩
          case measure => simp [lenV]; omega
        · have d64 : (((f : Int) + (cnt : Int)) == 64) = false := beq_eq_false_iff_ne.2 (by omega)
          go_wp2
          go_region_law (refine step_copy_blk rfl (.tmp 25) (.tmp 26) rfl g (8 + f) (64 - f) (64 - f) L cnt cnt ⟨b, o, none⟩ rfl rfl DL XS 42 HG.out.drew HXL.out HCN.out (fun j v hv => HSRC.out j v hv) HFIT.out HONE.out ?_; intro w4 hg4 ho4)
          have hgx : Blk w4 g 42 (dcs s (splice bl f x) (f : Int) ((N + len : Nat) : Int)) := by rw [← HSP.out]; exact hg4.out
          have c4 := hgx.cell (j := 72) (by rw [dcs_len _ _ _ _ HNB.out]; omega)
          rw [dcs_fill _ _ _ _ HNB.out] at c4
          have f4 := hgx.free (j := 72)
          have hs4 := hgx.set (j := 72) (.int .i64 ((f : Int) + (cnt : Int)))
          rw [dcs_setf _ _ _ _ _ HNB.out] at hs4
          have HO4 : Hid (Only g wr (w4.setCell ⟨g, 72, none⟩ (.int .i64 ((f : Int) + (cnt : Int))))) := ((Only.refl g wr).drew.trans ho4.out).set 72 _
          have HS4 := Lib.hid hs4
          clear hgx hs4 c72 hg4 ho4
          go_wp2
          have hNr : Near g wr (w4.setCell ⟨g, 72, none⟩ (.int .i64 ((f : Int) + (cnt : Int)))) := Near.of_only HO4.out
          have hDg : Dg (w4.setCell ⟨g, 72, none⟩ (.int .i64 ((f : Int) + (cnt : Int)))) g (M ++ x) (N + len) := by
            have := HDG.out.part HXB.out (by rw [← HF.out, HX.out]; omega)
            rw [← HF.out] at this
            refine ⟨_, _, this, ?_⟩
            rw [show (M ++ x).length % 64 = f + cnt by rw [List.length_append, HX.out]; have := HF.out; omega, Int.natCast_add]
            exact HS4.out
          rw [HMX.out] at hDg
          go_roundw
          case rel => exact ⟨p + cnt, 0, 0, some ⟨b, o, none⟩, by have := HLP.out; omega, by have := HCP.out; omega, rfl, .inl (HR0.out trivial), (by rintro _ ad ⟨⟩; exact HGB.out), hDg, HNN.out.trans hNr⟩
          case measure => simp [lenV]; omega
      · by_cases h64 : f + cnt = 64
        · have d64 : (((f : Int) + (cnt : Int)) == 64) = true := beq_iff_eq.2 (by omega)
          go_wp2
          go_region_law (refine step_copy_blk rfl (.tmp 25) (.tmp 26) rfl g (8 + f) (64 - f) (64 - f) L C cnt ⟨b, o, none⟩ rfl rfl DL XS 42 HG.out.drew HXL.out HCN.out (fun j v hv => HSRC.out j v hv) HFIT.out HONE.out ?_; intro w4 hg4 ho4)
          have hgx : Blk w4 g 42 (dcs s (splice bl f x) (f : Int) ((N + len : Nat) : Int)) := by rw [← HSP.out]; exact hg4.out
          have c4 := hgx.cell (j := 72) (by rw [dcs_len _ _ _ _ HNB.out]; omega)
          rw [dcs_fill _ _ _ _ HNB.out] at c4
          have f4 := hgx.free (j := 72)
          have hs4 := hgx.set (j := 72) (.int .i64 ((f : Int) + (cnt : Int)))
          rw [dcs_setf _ _ _ _ _ HNB.out] at hs4
          have HO4 : Hid (Only g wr (w4.setCell ⟨g, 72, none⟩ (.int .i64 ((f : Int) + (cnt : Int))))) := ((Only.refl g wr).drew.trans ho4.out).set 72 _
          have HS4 := Lib.hid hs4
          clear hgx hs4 c72 hg4 ho4
          have HMI := Lib.hid (mix_ok g s (splice bl f x) ((f : Int) + (cnt : Int)) ((N + len : Nat) : Int) _ ((HNN.out.trans (Near.of_only HO4.out)).tab HT.out hg2) hg2 HNB.out (bts_splice HDG.out.bts HXB.out) HS4.out)
          go_wp2_with (go_at_call 23; refine HMI.out.mono ?_; rintro e w5 ⟨rfl, h5, n5⟩; have H5 := Lib.hid h5; have N5 := Lib.hid n5; clear h5 n5)
          have hNr : Near g wr w5 := (Near.of_only HO4.out).trans N5.out
          have hDg : Dg w5 g (M ++ x) (N + len) := by
            have := HDG.out.full HXB.out (by rw [← HF.out, HX.out]; exact h64)
            rw [← HF.out] at this
            refine ⟨_, _, this, ?_⟩
            rw [show (M ++ x).length % 64 = 0 by rw [List.length_append, HX.out]; have := HF.out; omega]
            exact H5.out
          rw [HMX.out] at hDg
          go_roundw
          case rel => exact ⟨p + cnt, L - cnt, C - cnt, _, by have := HLP.out; omega, by have := HCP.out; omega, rfl, hNr.rd HRE.out (by rintro _ ad ⟨⟩; exact HGB.out), (by rintro _ ad ⟨⟩; exact HGB.out), hDg, HNN.out.trans hNr⟩
          case measure => simp [lenV]; omega
        · have d64 : (((f : Int) + (cnt : Int)) == 64) = false := beq_eq_false_iff_ne.2 (by omega)
          go_wp2
          go_region_law (refine step_copy_blk rfl (.tmp 25) (.tmp 26) rfl g (8 + f) (64 - f) (64 - f) L C cnt ⟨b, o, none⟩ rfl rfl DL XS 42 HG.out.drew HXL.out HCN.out (fun j v hv => HSRC.out j v hv) HFIT.out HONE.out ?_; intro w4 hg4 ho4)
          have hgx : Blk w4 g 42 (dcs s (splice bl f x) (f : Int) ((N + len : Nat) : Int)) := by rw [← HSP.out]; exact hg4.out
          have c4 := hgx.cell (j := 72) (by rw [dcs_len _ _ _ _ HNB.out]; omega)
          rw [dcs_fill _ _ _ _ HNB.out] at c4
          have f4 := hgx.free (j := 72)
          have hs4 := hgx.set (j := 72) (.int .i64 ((f : Int) + (cnt : Int)))
          rw [dcs_setf _ _ _ _ _ HNB.out] at hs4
          have HO4 : Hid (Only g wr (w4.setCell ⟨g, 72, none⟩ (.int .i64 ((f : Int) + (cnt : Int))))) := ((Only.refl g wr).drew.trans ho4.out).set 72 _
          have HS4 := Lib.hid hs4
          clear hgx hs4 c72 hg4 ho4
          go_wp2
          have hNr : Near g wr (w4.setCell ⟨g, 72, none⟩ (.int .i64 ((f : Int) + (cnt : Int)))) := Near.of_only HO4.out
          have hDg : Dg (w4.setCell ⟨g, 72, none⟩ (.int .i64 ((f : Int) + (cnt : Int)))) g (M ++ x) (N + len) := by
            have := HDG.out.part HXB.out (by rw [← HF.out, HX.out]; omega)
            rw [← HF.out] at this
            refine ⟨_, _, this, ?_⟩
            rw [show (M ++ x).length % 64 = f + cnt by rw [List.length_append, HX.out]; have := HF.out; omega, Int.natCast_add]
            exact HS4.out
          rw [HMX.out] at hDg
          go_roundw
          case rel => exact ⟨p + cnt, L - cnt, C - cnt, _, by have := HLP.out; omega, by have := HCP.out; omega, rfl, hNr.rd HRE.out (by rintro _ ad ⟨⟩; exact HGB.out), (by rintro _ ad ⟨⟩; exact HGB.out), hDg, HNN.out.trans hNr⟩
          case measure => simp [lenV]; omega
    · obtain rfl : L = 0 := by omega
      have hp : z.take p = z := List.take_of_length_le (by rw [HL.out]; omega)
      rw [hp] at hd
      have HD := Lib.hid hd; have HNN := Lib.hid hn
      clear hr hne hd hn hp
      go_wp2
      go_end0
      exact ⟨rfl, HD.out, HNN.out⟩
end Go.Proofs.YtdpnkdliibccjaaDoor
