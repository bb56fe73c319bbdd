/-
  The document's own sum.
-/
import Derived.Test.YtdpnkdliibccjaaDoorPad
import Derived.Deep.RegionHeld3
import Derived.StillTailTactics
namespace Go.Proofs.YtdpnkdliibccjaaDoor
open Go.RowKit
set_option linter.unusedVariables false

theorem rot32q (x y : BitVec 32) (k : Nat) (h1 : 1 ≤ k) (h2 : k ≤ 31) (hy : y = rr x k) (kv : Int) (hk : kv = (k : Int)) (w : World) : Calls Tryd.prog 22 #[.int .u32 (x.toNat : Int), .int .u64 kv] w fun e w' => e = .returned (.int .u32 (y.toNat : Int)) ∧ w' = w := by
  subst hy; subst hk
  exact (rot32_any x k h1 h2 w).mono fun e w' ⟨a, b⟩ => ⟨a, b.symm⟩
theorem wcs_zero (s : List (BitVec 32)) (n : Nat) (h : s.length < n) : (wcs s n).getD s.length undef = .int .u32 0 := by
  obtain ⟨m, hm⟩ : ∃ m, n - s.length = m + 1 := ⟨n - s.length - 1, by omega⟩
  simp [wcs, List.getD, hm, List.replicate_succ]
theorem cells8 {w : World} {g : Nat} {s : St} (h : Blk w g 38 (s.l.map uv)) :
    w.cell? ⟨g, 0, none⟩ = some (.int .u32 (s.a.toNat : Int)) ∧ w.cell? ⟨g, 1, none⟩ = some (.int .u32 (s.b.toNat : Int)) ∧ w.cell? ⟨g, 2, none⟩ = some (.int .u32 (s.c.toNat : Int)) ∧ w.cell? ⟨g, 3, none⟩ = some (.int .u32 (s.d.toNat : Int)) ∧
    w.cell? ⟨g, 4, none⟩ = some (.int .u32 (s.e.toNat : Int)) ∧ w.cell? ⟨g, 5, none⟩ = some (.int .u32 (s.f.toNat : Int)) ∧ w.cell? ⟨g, 6, none⟩ = some (.int .u32 (s.g.toNat : Int)) ∧ w.cell? ⟨g, 7, none⟩ = some (.int .u32 (s.h.toNat : Int)) := by
  have hlen : 8 ≤ (s.l.map uv).length := by simp [St.l]
  exact ⟨h.cell (by omega), h.cell (by omega), h.cell (by omega), h.cell (by omega), h.cell (by omega), h.cell (by omega), h.cell (by omega), h.cell (by omega)⟩
theorem flat_get : ∀ (ws : List (BitVec 32)) (i : Nat), i < 4 * ws.length → (ws.flatMap wb).getD i 0 = (((ws.getD (i / 4) 0#32).toNat / 2 ^ (24 - 8 * (i % 4)) % 256 : Nat) : Int)
  | [], i, h => by simp at h
  | x :: ws, i, h => by
    rw [List.flatMap_cons]
    have h4 : (wb x).length = 4 := rfl
    by_cases hi : i < 4
    · match i, hi with
      | 0, _ => rfl
      | 1, _ => rfl
      | 2, _ => rfl
      | 3, _ => simp [wb, List.getD]
    · obtain ⟨j, rfl⟩ : ∃ j, i = j + 4 := ⟨i - 4, by omega⟩
      have ih := flat_get ws j (by simp at h; omega)
      have e1 : (j + 4) / 4 = j / 4 + 1 := by omega
      have e2 : (j + 4) % 4 = j % 4 := by omega
      rw [e1, e2]
      have e3 : (wb x ++ ws.flatMap wb).getD (j + 4) 0 = (ws.flatMap wb).getD j 0 := by
        simp only [List.getD]
        rw [List.getElem?_append_right (by omega), h4, Nat.add_sub_cancel]
      rw [e3, ih]
      simp [List.getD]
theorem bput (A : List Int) (n i : Nat) (b : Int) (hA : A.length = i) (h : i < n) : (A.map (Value.int .u8) ++ zeros (n - i)).set i (.int .u8 b) = (A ++ [b]).map (Value.int .u8) ++ zeros (n - (i + 1)) := by
  subst hA
  obtain ⟨m, hm⟩ : ∃ m, n - A.length = m + 1 := ⟨n - A.length - 1, by omega⟩
  rw [List.set_append_right _ _ (by simp), List.length_map, Nat.sub_self, hm, show n - (A.length + 1) = m by omega]
  unfold zeros
  rw [List.replicate_succ, List.set_cons_zero, List.map_append, List.append_assoc]
  rfl
theorem take_getD (l : List Int) (i : Nat) (h : i < l.length) : l.take (i + 1) = l.take i ++ [l.getD i 0] := by
  rw [List.take_succ_eq_append_getElem h]
  congr 2
  simp [List.getD, h]
theorem or_byte (y b : Int) (hy : 0 ≤ y ∧ y ≤ 16777215) (hb : 0 ≤ b ∧ b ≤ 255) : Go.bits .or .u32 (y * 256) b = y * 256 + b := by
  have hk : ∀ n : Int, 0 ≤ n → n < 2 ^ 32 → IntKind.u32.wrap n = n := fun n h0 h1 => by
    rw [IntKind.wrap_u32]; simp only [show (2 : Int) ^ 32 = 4294967296 from rfl] at h1; omega
  have e32 : (2 : Int) ^ 32 = 4294967296 := rfl
  have e8 : (2 : Int) ^ 8 = 256 := rfl
  exact bits_join .u32 32 (by decide) hk 8 (y * 256) b (by omega) (by rw [e8]; omega) (by rw [e32]; omega) hb.1 (by rw [e8]; omega) (by rw [e32]; omega)
set_option maxRecDepth 100000 in
set_option maxHeartbeats 4000000 in
theorem id_any (ao : Option Addr) (len cap : Nat) (z : List Int) (w : World) (hl : z.length = len) (hm : len ≤ 1000000) (hr : Rd w ao z) (hz : Bts z) (hn : ao = none → cap = 0) :
    Calls Tryd.prog 11 #[.slice ao len cap] w fun e w' => e = .returned (.agg (shaV z).toArray) ∧ Below w.heap.size w w' := by
  obtain ⟨KS, hKS⟩ : ∃ KS, KS = kl.map uv := ⟨_, rfl⟩
  have hkl : KS.length = 64 := by rw [hKS]; rfl
  have hk1 : ∀ v ∈ KS, v.oneCell' = true := by rw [hKS]; exact one_uv
  have hkc := fun V => k256_ok V
  rw [← hKS] at hkc
  have HKS := Lib.hid hKS; have HKL := Lib.hid hkl; have HK1 := Lib.hid hk1; have HKC := Lib.hid hkc
  have HL := Lib.hid hl; have HR := Lib.hid hr; have HN := Lib.hid hn; have HZ := Lib.hid hz
  clear hKS hkl hk1 hkc hl hr hn hz
  go_enter Tryd.func11, Tryd.ntmps11
  go_wp2_with (first
    | (go_at_call 20; refine (HKC.out _).mono ?_; rintro e w1 ⟨rfl, hB1⟩; have HB1 := Lib.hid hB1; clear hB1)
    | (refine store_blk rfl 45 (.tmp 3) (.tmp 21) rfl w1.heap.size (List.replicate 64 (.int .u32 0)) KS rfl rfl 45 (Blk.new w1 _ 45) (by rw [HKL.out]; exact info45) (by rw [List.length_replicate, HKL.out]) HK1.out ?_; intro w2 HB2 HO2)
    | (go_at_call 21; fail))
  have hlt1 : w.heap.size < w1.heap.size := by have := HB1.out.size; rw [World.size_alloc] at this; omega
  have hlt2 : w1.heap.size < w2.heap.size := HB2.out.lt
  have hR2 : Blk w2 w.heap.size 25 (zeros 32) := ((((Blk.at (w := w) (zeros 32) rfl).below HB1.out)).alloc _).other HO2.out (by omega)
  have hw2 : Below w.heap.size w w2 := ((((Below.refl _ _).alloc (Nat.le_refl _) _).trans (HB1.out.mono (by rw [World.size_alloc]; omega))).alloc (Nat.le_of_lt hlt1) _).trans (HO2.out.below (Nat.le_of_lt hlt1))
  obtain ⟨W3, hW3⟩ : ∃ W3, W3 = w2.alloc (.cells #[.int .u32 1779033703, .int .u32 3144134277, .int .u32 1013904242, .int .u32 2773480762, .int .u32 1359893119, .int .u32 2600822924, .int .u32 528734635, .int .u32 1541459225] 38) := ⟨_, rfl⟩
  rw [← hW3]
  have hw3 : Below w.heap.size w W3 := by rw [hW3]; exact hw2.alloc (by omega) _
  have hs3 : W3.heap.size = w2.heap.size + 1 := by rw [hW3, World.size_alloc]
  have hR3 : Blk W3 w.heap.size 25 (zeros 32) := by rw [hW3]; exact hR2.alloc _
  have hK3 : Blk W3 w1.heap.size 45 KS := by rw [hW3]; exact HB2.out.alloc _
  have hH3 : Blk W3 w2.heap.size 38 (st0.l.map uv) := by rw [hW3]; exact Blk.at (w := w2) (st0.l.map uv) rfl
  have HP := Lib.hid (padded_ok ao len cap z W3 HL.out hm (HR.out.below hw3) HN.out)
  have HW3 := Lib.hid hw3; have HR3 := Lib.hid hR3; have HK3 := Lib.hid hK3; have HH3 := Lib.hid hH3; have HS3 := Lib.hid hs3
  clear hW3 hw3 hs3 hR3 hK3 hH3 hR2 hw2 HB1 HO2 HB2
  refine HP.out.mono ?_
  rintro e w3 ⟨ko, kc, rfl, how, hB3⟩
  obtain ⟨P, hPz⟩ : ∃ P, P = padd z := ⟨_, rfl⟩
  obtain ⟨hp64, hpl⟩ := padd_len z
  rw [← hPz] at how hp64 hpl
  obtain ⟨N, hN⟩ : ∃ N, N = P.length / 64 := ⟨_, rfl⟩
  have hPN : P.length = 64 * N := by omega
  have hN1 : N ≤ 16000 := by
    have : zn z.length < 64 := Nat.mod_lt _ (by decide)
    have := HL.out
    omega
  have hle : len + 1 + zn len + 8 = 64 * N := by rw [← hPN, hpl, HL.out]; omega
  have hPb : Bts P := by
    rw [hPz]; unfold padd
    refine Bts.append HZ.out (Bts.append (fun j hj => by match j, hj with | 0, _ => decide) (Bts.append (bts_zeros _) ?_))
    rw [be8_words _ (by rw [HL.out]; omega)]
    exact Bts.append (wb_bts _) (wb_bts _)
  rw [hle] at how
  have hN0 : 0 < N := by omega
  obtain ⟨gp, rfl, hgp⟩ := how.at (by omega)
  have hpr := how.rd
  have HPR := Lib.hid hpr
  have hR : Blk w3 w.heap.size 25 (zeros 32) := HR3.out.below hB3
  have hK : Blk w3 w1.heap.size 45 KS := HK3.out.below hB3
  have hH : Blk w3 w2.heap.size 38 (st0.l.map uv) := HH3.out.below hB3
  have hBw : Below w.heap.size w w3 := HW3.out.trans (hB3.mono HW3.out.size)
  have hgp2 : w2.heap.size < gp := by have := HS3.out; omega
  have HR0 := Lib.hid hR; have HKK := Lib.hid hK; have HHH := Lib.hid hH; have HBW := Lib.hid hBw; have HPL := Lib.hid hPN; have HPB := Lib.hid hPb; have HPZ := Lib.hid hPz
  rw [hle]
  clear how hR hK hH hBw hpr hpl hPN hPb hPz hN hle hp64 hgp hB3 HR3 HK3 HH3 HW3 HS3
  have hR0 : w.heap.size < w2.heap.size := by omega
  go_wp2
  go_loopw [6] (fun at' wr => ∃ k a : Nat, a = 64 * k ∧ k ≤ N ∧ at' = .int .i64 a ∧ Blk wr w2.heap.size 38 ((hs P k).l.map uv) ∧ Blk wr w1.heap.size 45 KS ∧ Rd wr (some ⟨gp, 0, none⟩) P ∧ Blk wr w.heap.size 25 (zeros 32) ∧ Below w.heap.size w wr) (fun at' _ => (64 * N + 64 - (intOf at').toNat))
  case atStart => exact ⟨0, 0, rfl, Nat.zero_le _, rfl, HHH.out, HKK.out, HPR.out, HR0.out, HBW.out⟩
  case round =>
    obtain ⟨k, a, ha, hk, rfl, hH, hK, hpr, hR, hBw⟩ := hrel
    obtain ⟨wo, rfl⟩ : ∃ wo : World, wo = wr := ⟨_, rfl⟩
    have HH := Lib.hid hH; have HK := Lib.hid hK; have HPR := Lib.hid hpr; have HRR := Lib.hid hR; have HBO := Lib.hid hBw; have HA := Lib.hid ha
    have hgo : gp < wo.heap.size := by
      obtain ⟨b, o, e, hcc⟩ := hpr.at (by rw [HPL.out]; omega)
      cases e
      exact cell_lt (hcc 0 (by rw [HPL.out]; omega))
    have ha16 : a ≤ 2000000 := by omega
    by_cases hlt : k < N
    · have d1 : decide ((a : Int) < 64 * (N : Int)) = true := decide_eq_true (by omega)
      have d1' : decide (a < 64 * N) = true := decide_eq_true (by omega)
      have haN : a + 64 ≤ 64 * N := by omega
      obtain ⟨bl, hbl⟩ : ∃ bl, bl = (P.drop (64 * k)).take 64 := ⟨_, rfl⟩
      have hbll : bl.length = 64 := by rw [hbl, List.length_take, List.length_drop, HPL.out]; omega
      have hblb : Bts bl := by rw [hbl]; exact (HPB.out.drop _).take _
      have hblc : ∀ j, j < 64 → wo.cell? ⟨gp, a + j, none⟩ = some (.int .u8 (bl.getD j 0)) := fun j hj => by
        obtain ⟨b, o, e, hcc⟩ := hpr.at (by rw [HPL.out]; omega)
        cases e
        have := hcc (a + j) (by rw [HPL.out]; omega)
        rw [Nat.zero_add] at this
        rw [this, hbl, ha]
        simp [List.getD, hj]
      have HBL := Lib.hid hbl; have HBLL := Lib.hid hbll; have HBB := Lib.hid hblb; have HBC := Lib.hid hblc
      clear hH hK hpr hR hBw ha hbl hbll hblb hblc
      go_wp2
      go_loopw [8] (fun tv wr => ∃ t : Nat, t ≤ 64 ∧ tv = .int .i64 t ∧ Blk wr wo.heap.size 45 (wcs (sch bl t) 64) ∧ Below wo.heap.size wo wr) (fun tv _ => 64 - (intOf tv).toNat)
      case atStart => exact ⟨0, Nat.zero_le _, rfl, Blk.new wo (wcs (sch bl 0) 64) 45, (Below.refl _ _).alloc (Nat.le_refl _) _⟩
      case round =>
        obtain ⟨t, ht, rfl, hb, hB⟩ := hrel
        have HBK := Lib.hid hb; have HB := Lib.hid hB
        have hsl := sch_len bl t
        have hwl : (wcs (sch bl t) 64).length = 64 := wcs_len _ _ (by omega)
        by_cases ht16 : t < 16
        · have hc : ∀ i, i < 4 → wr.cell? ⟨gp, a + 4 * t + i, none⟩ = some (.int .u8 (bl.getD (4 * t + i) 0)) := fun i hi => by
            rw [hB.cell (p := ⟨gp, a + 4 * t + i, none⟩) hgo, Nat.add_assoc]; exact HBC.out _ (by omega)
          have p0 := hc 0 (by omega)
          have p1 := hc 1 (by omega)
          have p2 := hc 2 (by omega)
          have p3 := hc 3 (by omega)
          rw [Nat.add_zero] at p0
          have ct := hb.cell (j := t) (by omega)
          rw [show (wcs (sch bl t) 64).getD t undef = .int .u32 0 by have := wcs_zero (sch bl t) 64 (by omega); rwa [hsl] at this] at ct
          have ft := hb.free (j := t)
          have hwd := wd_at bl (4 * t) HBB.out (by rw [HBLL.out]; omega)
          have g0 := HBB.out (4 * t) (by rw [HBLL.out]; omega)
          have g1 := HBB.out (4 * t + 1) (by rw [HBLL.out]; omega)
          have g2 := HBB.out (4 * t + 2) (by rw [HBLL.out]; omega)
          have g3 := HBB.out (4 * t + 3) (by rw [HBLL.out]; omega)
          rw [Nat.add_zero] at p0
          generalize bl.getD (4 * t) 0 = b0 at p0 hwd g0
          generalize bl.getD (4 * t + 1) 0 = b1 at p1 hwd g1
          generalize bl.getD (4 * t + 2) 0 = b2 at p2 hwd g2
          generalize bl.getD (4 * t + 3) 0 = b3 at p3 hwd g3
          obtain ⟨y2, hy2⟩ : ∃ y, y = b0 * 256 + b1 := ⟨_, rfl⟩
          obtain ⟨y3, hy3⟩ : ∃ y, y = y2 * 256 + b2 := ⟨_, rfl⟩
          obtain ⟨y4, hy4⟩ : ∃ y, y = y3 * 256 + b3 := ⟨_, rfl⟩
          have hy2b : 0 ≤ y2 ∧ y2 ≤ 65535 := by omega
          have hy3b : 0 ≤ y3 ∧ y3 ≤ 16777215 := by omega
          have o1 : Go.bits .or .u32 0 b0 = b0 := by have := or_byte 0 b0 (by omega) g0; simpa using this
          have o2 : Go.bits .or .u32 (b0 * 256) b1 = y2 := by rw [hy2]; exact or_byte b0 b1 (by omega) g1
          have o3 : Go.bits .or .u32 (y2 * 256) b2 = y3 := by rw [hy3]; exact or_byte y2 b2 (by omega) g2
          have o4 : Go.bits .or .u32 (y3 * 256) b3 = y4 := by rw [hy4]; exact or_byte y3 b3 hy3b g3
          have hwy : ((wd bl (4 * t)).toNat : Int) = y4 := by rw [hwd, hy4, hy3, hy2]
          have HWY := Lib.hid hwy
          clear hc hwd hy2 hy3 hy4 hwy hb hB hsl hwl
          go_wp2
          refine wp_loop_rounds 5 ?_
          iterate 2 (rw [rounds_succ]; go_wp2; go_region; go_wp2)
          obtain ⟨V, hV⟩ : ∃ V, V = (((wr.setCell ⟨wo.heap.size, t, none⟩ (.int .u32 b0)).setCell ⟨wo.heap.size, t, none⟩ (.int .u32 y2)).drew.drew) := ⟨_, rfl⟩
          have hbV : Blk V wo.heap.size 45 ((wcs (sch bl t) 64).set t (.int .u32 y2)) := by
            have := ((HBK.out.set (j := t) (.int .u32 b0)).set (j := t) (.int .u32 y2)).drew.drew
            rw [List.set_set] at this
            rw [hV]; exact this
          have hBV : Below wo.heap.size wo V := by rw [hV]; exact (((HB.out.setCell (Nat.le_refl _) _).setCell (Nat.le_refl _) _).drew).drew
          have p2' : V.cell? ⟨gp, a + 4 * t + 2, none⟩ = some (.int .u8 b2) := by
            rw [hBV.cell (p := ⟨gp, a + 4 * t + 2, none⟩) hgo, ← HB.out.cell (p := ⟨gp, a + 4 * t + 2, none⟩) hgo]; exact p2
          have p3' : V.cell? ⟨gp, a + 4 * t + 3, none⟩ = some (.int .u8 b3) := by
            rw [hBV.cell (p := ⟨gp, a + 4 * t + 3, none⟩) hgo, ← HB.out.cell (p := ⟨gp, a + 4 * t + 3, none⟩) hgo]; exact p3
          have hwl' : ((wcs (sch bl t) 64).set t (.int .u32 y2)).length = 64 := by rw [List.length_set]; exact wcs_len _ _ (by rw [sch_len]; omega)
          have ct' := hbV.cell (j := t) (by omega)
          rw [show ((wcs (sch bl t) 64).set t (Value.int .u32 y2)).getD t undef = .int .u32 y2 by rw [List.length_set] at hwl'; simp [List.getD, hwl', show t < 64 by omega]] at ct'
          have ft' := hbV.free (j := t)
          rw [← hV]
          have HBV := Lib.hid hbV; have HBLV := Lib.hid hBV
          clear hV hbV hBV p0 p1 p2 p3 ct ft hwl' o1 o2
          iterate 2 (rw [rounds_succ]; go_wp2; go_region; go_wp2)
          rw [rounds_succ]
          go_wp2
          go_roundw
          case rel =>
            refine ⟨t + 1, by omega, by go_num, ?_, ((HBLV.out.setCell (Nat.le_refl _) _).setCell (Nat.le_refl _) _).drew.drew⟩
            have := ((HBV.out.set (j := t) (.int .u32 y3)).set (j := t) (.int .u32 y4)).drew.drew
            rw [List.set_set, List.set_set] at this
            have e := wcs_set (sch bl t) 64 (wd bl (4 * t)) (by rw [sch_len]; omega)
            rw [sch_len] at e
            have e2 : (wcs (sch bl t) 64).set t (.int .u32 y4) = wcs (sch bl (t + 1)) 64 := by rw [← HWY.out, e, ← nxw_low bl t ht16]; rfl
            rw [e2] at this
            exact this
          case measure => simp [intOf]; omega
        · by_cases hlt64 : t < 64
          · have cw : ∀ i, i < t → wr.cell? ⟨wo.heap.size, i, none⟩ = some (.int .u32 (((sch bl t).getD i 0#32).toNat : Int)) := fun i hi => by
              rw [hb.cell (by omega), wcs_get _ _ _ (by omega)]
            have c15 := cw (t - 15) (by omega)
            have c2 := cw (t - 2) (by omega)
            have c7 := cw (t - 7) (by omega)
            have c16 := cw (t - 16) (by omega)
            have ct := hb.cell (j := t) (by omega)
            have ft := hb.free (j := t)
            have h16 : 16 ≤ t := by omega
            obtain ⟨xa, ha⟩ : ∃ a, a = (sch bl t).getD (t - 15) 0#32 := ⟨_, rfl⟩
            obtain ⟨xb, hbb⟩ : ∃ b, b = (sch bl t).getD (t - 2) 0#32 := ⟨_, rfl⟩
            obtain ⟨xc, hc⟩ : ∃ c, c = (sch bl t).getD (t - 7) 0#32 := ⟨_, rfl⟩
            obtain ⟨xd, hd⟩ : ∃ d, d = (sch bl t).getD (t - 16) 0#32 := ⟨_, rfl⟩
            rw [← ha] at c15; rw [← hbb] at c2; rw [← hc] at c7; rw [← hd] at c16
            obtain ⟨x, hx⟩ : ∃ x, x = sml0 xa := ⟨_, rfl⟩
            obtain ⟨y, hy⟩ : ∃ y, y = sml1 xb := ⟨_, rfl⟩
            obtain ⟨nw, hnw⟩ : ∃ u, u = nxw bl (sch bl t) t := ⟨_, rfl⟩
            obtain ⟨dc, hdc⟩ : ∃ u, u = xd + xc := ⟨_, rfl⟩
            obtain ⟨dx, hdx⟩ : ∃ u, u = dc + x := ⟨_, rfl⟩
            have hnw2 : nw = dx + y := by rw [hnw, nxw_ref _ _ _ h16, hdx, hdc, hx, hy, ha, hbb, hc, hd]
            obtain ⟨a7, h7⟩ : ∃ u, u = rr xa 7 := ⟨_, rfl⟩
            obtain ⟨a18, h18⟩ : ∃ u, u = rr xa 18 := ⟨_, rfl⟩
            obtain ⟨b17, h17⟩ : ∃ u, u = rr xb 17 := ⟨_, rfl⟩
            obtain ⟨b19, h19⟩ : ∃ u, u = rr xb 19 := ⟨_, rfl⟩
            have R7 : ∀ V, Calls Tryd.prog 22 #[.int .u32 (xa.toNat : Int), .int .u64 7] V fun e w' => e = .returned (.int .u32 (a7.toNat : Int)) ∧ w' = V := fun V => rot32q xa a7 7 (by omega) (by omega) h7 7 rfl V
            have R18 : ∀ V, Calls Tryd.prog 22 #[.int .u32 (xa.toNat : Int), .int .u64 18] V fun e w' => e = .returned (.int .u32 (a18.toNat : Int)) ∧ w' = V := fun V => rot32q xa a18 18 (by omega) (by omega) h18 18 rfl V
            have R17 : ∀ V, Calls Tryd.prog 22 #[.int .u32 (xb.toNat : Int), .int .u64 17] V fun e w' => e = .returned (.int .u32 (b17.toNat : Int)) ∧ w' = V := fun V => rot32q xb b17 17 (by omega) (by omega) h17 17 rfl V
            have R19 : ∀ V, Calls Tryd.prog 22 #[.int .u32 (xb.toNat : Int), .int .u64 19] V fun e w' => e = .returned (.int .u32 (b19.toNat : Int)) ∧ w' = V := fun V => rot32q xb b19 19 (by omega) (by omega) h19 19 rfl V
            have HR7 := Lib.hid R7; have HR18 := Lib.hid R18; have HR17 := Lib.hid R17; have HR19 := Lib.hid R19
            have e0 : Go.bits .xor .u32 (Go.bits .xor .u32 (a7.toNat : Int) (a18.toNat : Int)) ((xa.toNat : Int) / 8) = (x.toNat : Int) := by
              have := shr_u32 xa 3
              rw [show (2 : Int) ^ 3 = 8 from rfl] at this
              rw [this, xor_u32, xor_u32, hx, h7, h18]; rfl
            have e1 : Go.bits .xor .u32 (Go.bits .xor .u32 (b17.toNat : Int) (b19.toNat : Int)) ((xb.toNat : Int) / 1024) = (y.toNat : Int) := by
              have := shr_u32 xb 10
              rw [show (2 : Int) ^ 10 = 1024 from rfl] at this
              rw [this, xor_u32, xor_u32, hy, h17, h19]; rfl
            have q1 : IntKind.u32.wrap ((xd.toNat : Int) + xc.toNat) = (dc.toNat : Int) := by rw [IntKind.wrap_u32, hdc]; exact add_u32 _ _
            have q2 : IntKind.u32.wrap ((dc.toNat : Int) + x.toNat) = (dx.toNat : Int) := by rw [IntKind.wrap_u32, hdx]; exact add_u32 _ _
            have q3 : IntKind.u32.wrap ((dx.toNat : Int) + y.toNat) = (nw.toNat : Int) := by rw [IntKind.wrap_u32, hnw2]; exact add_u32 _ _
            have HNW := Lib.hid hnw
            clear cw R7 R18 R17 R19 hb hB hsl hwl ha hbb hc hd hx hy hnw hnw2 hdc hdx h7 h18 h17 h19
            go_wp2
            go_region
            go_wp2
            obtain ⟨i16, hi16⟩ : ∃ i, i = t - 16 := ⟨_, rfl⟩
            obtain ⟨i7, hi7⟩ : ∃ i, i = t - 7 := ⟨_, rfl⟩
            have k16 : (i16 : Int) < 64 := by omega
            have k7 : (i7 : Int) < 64 := by omega
            have w16 : IntKind.i64.wrap ((t : Int) - 16) = (i16 : Int) := by rw [IntKind.wrap_i64]; omega
            have w7 : IntKind.i64.wrap ((t : Int) - 7) = (i7 : Int) := by rw [IntKind.wrap_i64]; omega
            rw [← hi16] at c16; rw [← hi7] at c7
            obtain ⟨V, hV⟩ : ∃ V, V = wr.drew := ⟨_, rfl⟩
            have v16 : V.cell? ⟨wo.heap.size, i16, none⟩ = some (.int .u32 (xd.toNat : Int)) := by rw [hV]; exact c16
            have v7 : V.cell? ⟨wo.heap.size, i7, none⟩ = some (.int .u32 (xc.toNat : Int)) := by rw [hV]; exact c7
            have vt : V.cell? ⟨wo.heap.size, t, none⟩ = some ((wcs (sch bl t) 64).getD t undef) := by rw [hV]; exact ct
            have vf : V.frozen? ⟨wo.heap.size, t, none⟩ = false := by rw [hV]; exact ft
            have HVB : Hid (Blk V wo.heap.size 45 (wcs (sch bl t) 64)) := by rw [hV]; exact HBK.out.drew
            have HVW : Hid (Below wo.heap.size wo V) := by rw [hV]; exact HB.out.drew
            rw [← hV]
            clear hi16 hi7 hV c2 c7 c15 c16 ct ft
            go_still_tail 29, (by kernel_rfl)
            still_call (HR7.out _)
            repeat still_step
            still_call (HR18.out _)
            repeat still_step
            still_call (HR17.out _)
            repeat still_step
            still_call (HR19.out _)
            repeat still_step
            refine wpStill_nil ?_
            change wpList _ _ _ _ _ V.drew
            go_wp2
            go_roundw
            case rel => exact ⟨t + 1, by omega, by go_num, (sch_set HVB.out hlt64 (by rw [HNW.out])).drew, (HVW.out.setCell (Nat.le_refl _) _).drew⟩
            case measure => simp [intOf]; omega
          · obtain rfl : t = 64 := by omega
            obtain ⟨w5, rfl⟩ : ∃ w5 : World, w5 = wr := ⟨_, rfl⟩
            obtain ⟨S, hS⟩ : ∃ S, S = sch bl 64 := ⟨_, rfl⟩
            obtain ⟨s, hs'⟩ : ∃ s, s = hs P k := ⟨_, rfl⟩
            have hSl : S.length = 64 := by rw [hS]; exact sch_len bl 64
            have hwS : wcs (sch bl 64) 64 = S.map uv := by rw [← hS]; unfold wcs; rw [hSl]; simp
            have HW5 : Hid (Blk w5 wo.heap.size 45 (S.map uv)) := by rw [← hwS]; exact hb
            have HH5 : Hid (Blk w5 w2.heap.size 38 (s.l.map uv)) := by rw [hs']; exact HH.out.below hB
            have HK5 : Hid (Blk w5 w1.heap.size 45 KS) := HK.out.below hB
            have HS := Lib.hid hS; have HSS := Lib.hid hs'; have HSL := Lib.hid hSl
            have hsz5 : wo.heap.size < w5.heap.size := hb.lt
            obtain ⟨c0, c1, c2, c3, c4, c5, c6, c7⟩ := cells8 HH5.out
            rw [show ((64 : Nat) : Int) = 64 from rfl]
            have HB5 := Lib.hid hB
            clear hb hB hsl hwl hS hs' hSl hwS ht16 ht hlt64
            go_wp2
            go_loopw [13] (fun tv wr => ∃ t : Nat, t ≤ 64 ∧ tv = .int .i64 t ∧ Blk wr w5.heap.size 38 ((rnd S s t).l.map uv) ∧ Below w5.heap.size w5 wr) (fun tv _ => 64 - (intOf tv).toNat)
            case atStart => exact ⟨0, Nat.zero_le _, rfl, Blk.new w5 (s.l.map uv) 38, (Below.refl _ _).alloc (Nat.le_refl _) _⟩
            case round =>
              obtain ⟨t, ht, rfl, hb, hB⟩ := hrel
              have HBV := Lib.hid hb; have HBL4 := Lib.hid hB
              clear c0 c1 c2 c3 c4 c5 c6 c7
              by_cases hlt64 : t < 64
              · have htI : (t : Int) < 64 := by omega
                obtain ⟨v0, v1, v2, v3, v4, v5, v6, v7⟩ := cells8 hb
                have hsc : wr.cell? ⟨wo.heap.size, t, none⟩ = some (.int .u32 ((S.getD t 0#32).toNat : Int)) := by
                  rw [hB.cell (p := ⟨wo.heap.size, t, none⟩) hsz5, HW5.out.cell (by rw [List.length_map, HSL.out]; exact hlt64)]
                  simp [List.getD, HSL.out, hlt64, uv]
                have hkc : wr.cell? ⟨w1.heap.size, t, none⟩ = some (.int .u32 ((kk t).toNat : Int)) := by
                  rw [hB.cell (p := ⟨w1.heap.size, t, none⟩) HK5.out.lt, HK5.out.cell (by rw [HKL.out]; exact hlt64), HKS.out]
                  have : kl.length = 64 := rfl
                  simp [List.getD, this, hlt64, uv, kk]
                obtain ⟨q, hq⟩ : ∃ q, q = rnd S s t := ⟨_, rfl⟩
                obtain ⟨K, hK⟩ : ∃ K, K = kk t := ⟨_, rfl⟩
                obtain ⟨Wt, hWt⟩ : ∃ Wt, Wt = S.getD t 0#32 := ⟨_, rfl⟩
                have hnx : rnd S s (t + 1) = q.next K Wt := by rw [hq, hK, hWt]; rfl
                rw [← hK] at hkc; rw [← hWt] at hsc; rw [← hq] at v0 v1 v2 v3 v4 v5 v6 v7 hb
                obtain ⟨qa, qb, qc, qd, qe, qf, qg, qh⟩ := q
                simp only at v0 v1 v2 v3 v4 v5 v6 v7
                obtain ⟨E6, eE6⟩ : ∃ u, u = rr qe 6 := ⟨_, rfl⟩
                obtain ⟨E11, eE11⟩ : ∃ u, u = rr qe 11 := ⟨_, rfl⟩
                obtain ⟨E25, eE25⟩ : ∃ u, u = rr qe 25 := ⟨_, rfl⟩
                obtain ⟨A2, eA2⟩ : ∃ u, u = rr qa 2 := ⟨_, rfl⟩
                obtain ⟨A13, eA13⟩ : ∃ u, u = rr qa 13 := ⟨_, rfl⟩
                obtain ⟨A22, eA22⟩ : ∃ u, u = rr qa 22 := ⟨_, rfl⟩
                obtain ⟨S1, eS1⟩ : ∃ u, u = big1 qe := ⟨_, rfl⟩
                obtain ⟨S0, eS0⟩ : ∃ u, u = big0 qa := ⟨_, rfl⟩
                obtain ⟨NE, eNE⟩ : ∃ u, u = ~~~ qe := ⟨_, rfl⟩
                obtain ⟨EF, eEF⟩ : ∃ u, u = qe &&& qf := ⟨_, rfl⟩
                obtain ⟨NG, eNG⟩ : ∃ u, u = NE &&& qg := ⟨_, rfl⟩
                obtain ⟨CH, eCH⟩ : ∃ u, u = cho qe qf qg := ⟨_, rfl⟩
                obtain ⟨AB, eAB⟩ : ∃ u, u = qa &&& qb := ⟨_, rfl⟩
                obtain ⟨AC, eAC⟩ : ∃ u, u = qa &&& qc := ⟨_, rfl⟩
                obtain ⟨BC, eBC⟩ : ∃ u, u = qb &&& qc := ⟨_, rfl⟩
                obtain ⟨MJ, eMJ⟩ : ∃ u, u = maj qa qb qc := ⟨_, rfl⟩
                obtain ⟨hS1, ehS1⟩ : ∃ u, u = qh + S1 := ⟨_, rfl⟩
                obtain ⟨hC1, ehC1⟩ : ∃ u, u = hS1 + CH := ⟨_, rfl⟩
                obtain ⟨hK1, ehK1⟩ : ∃ u, u = hC1 + K := ⟨_, rfl⟩
                obtain ⟨T1, eT1⟩ : ∃ u, u = hK1 + Wt := ⟨_, rfl⟩
                obtain ⟨T2, eT2⟩ : ∃ u, u = S0 + MJ := ⟨_, rfl⟩
                obtain ⟨ZT, eZT⟩ : ∃ u, u = qd + T1 := ⟨_, rfl⟩
                obtain ⟨TT, eTT⟩ : ∃ u, u = T1 + T2 := ⟨_, rfl⟩
                have hnx2 : rnd S s (t + 1) = ⟨TT, qa, qb, qc, ZT, qe, qf, qg⟩ := by rw [hnx, eTT, eZT, eT2, eT1, ehK1, ehC1, ehS1, eS1, eCH, eS0, eMJ]; rfl
                have HNX := Lib.hid hnx2
                have RE6 : ∀ V, Calls Tryd.prog 22 #[.int .u32 (qe.toNat : Int), .int .u64 6] V fun e w' => e = .returned (.int .u32 (E6.toNat : Int)) ∧ w' = V := fun V => rot32q qe E6 6 (by omega) (by omega) eE6 6 rfl V
                have RE11 : ∀ V, Calls Tryd.prog 22 #[.int .u32 (qe.toNat : Int), .int .u64 11] V fun e w' => e = .returned (.int .u32 (E11.toNat : Int)) ∧ w' = V := fun V => rot32q qe E11 11 (by omega) (by omega) eE11 11 rfl V
                have RE25 : ∀ V, Calls Tryd.prog 22 #[.int .u32 (qe.toNat : Int), .int .u64 25] V fun e w' => e = .returned (.int .u32 (E25.toNat : Int)) ∧ w' = V := fun V => rot32q qe E25 25 (by omega) (by omega) eE25 25 rfl V
                have RA2 : ∀ V, Calls Tryd.prog 22 #[.int .u32 (qa.toNat : Int), .int .u64 2] V fun e w' => e = .returned (.int .u32 (A2.toNat : Int)) ∧ w' = V := fun V => rot32q qa A2 2 (by omega) (by omega) eA2 2 rfl V
                have RA13 : ∀ V, Calls Tryd.prog 22 #[.int .u32 (qa.toNat : Int), .int .u64 13] V fun e w' => e = .returned (.int .u32 (A13.toNat : Int)) ∧ w' = V := fun V => rot32q qa A13 13 (by omega) (by omega) eA13 13 rfl V
                have RA22 : ∀ V, Calls Tryd.prog 22 #[.int .u32 (qa.toNat : Int), .int .u64 22] V fun e w' => e = .returned (.int .u32 (A22.toNat : Int)) ∧ w' = V := fun V => rot32q qa A22 22 (by omega) (by omega) eA22 22 rfl V
                have HRE6 := Lib.hid RE6; have HRE11 := Lib.hid RE11; have HRE25 := Lib.hid RE25; have HRA2 := Lib.hid RA2; have HRA13 := Lib.hid RA13; have HRA22 := Lib.hid RA22
                have q1 : Go.bits .xor .u32 (Go.bits .xor .u32 (E6.toNat : Int) (E11.toNat : Int)) (E25.toNat : Int) = (S1.toNat : Int) := by rw [xor_u32, xor_u32, eE6, eE11, eE25, eS1]; rfl
                have q2 : Go.bits .xor .u32 (Go.bits .xor .u32 (A2.toNat : Int) (A13.toNat : Int)) (A22.toNat : Int) = (S0.toNat : Int) := by rw [xor_u32, xor_u32, eA2, eA13, eA22, eS0]; rfl
                have q3 : Go.bits .xor .u32 IntKind.u32.max (qe.toNat : Int) = (NE.toNat : Int) := by rw [not_u32, eNE]
                have q3' : Go.bits .xor .u32 (if IntKind.u32.signed = true then -1 else IntKind.u32.max) (qe.toNat : Int) = (NE.toNat : Int) := by rw [if_neg (by decide)]; exact q3
                have q4 : Go.bits .and .u32 (qe.toNat : Int) (qf.toNat : Int) = (EF.toNat : Int) := by rw [and_u32, eEF]
                have q5 : Go.bits .and .u32 (NE.toNat : Int) (qg.toNat : Int) = (NG.toNat : Int) := by rw [and_u32, eNG]
                have q6 : Go.bits .xor .u32 (EF.toNat : Int) (NG.toNat : Int) = (CH.toNat : Int) := by rw [xor_u32, eEF, eNG, eNE, eCH]; rfl
                have q7 : Go.bits .and .u32 (qa.toNat : Int) (qb.toNat : Int) = (AB.toNat : Int) := by rw [and_u32, eAB]
                have q8 : Go.bits .and .u32 (qa.toNat : Int) (qc.toNat : Int) = (AC.toNat : Int) := by rw [and_u32, eAC]
                have q9 : Go.bits .and .u32 (qb.toNat : Int) (qc.toNat : Int) = (BC.toNat : Int) := by rw [and_u32, eBC]
                have q10 : Go.bits .xor .u32 (Go.bits .xor .u32 (AB.toNat : Int) (AC.toNat : Int)) (BC.toNat : Int) = (MJ.toNat : Int) := by rw [xor_u32, xor_u32, eAB, eAC, eBC, eMJ]; rfl
                have u1 : IntKind.u32.wrap ((qh.toNat : Int) + S1.toNat) = (hS1.toNat : Int) := by rw [IntKind.wrap_u32, ehS1]; exact add_u32 _ _
                have u2 : IntKind.u32.wrap ((hS1.toNat : Int) + CH.toNat) = (hC1.toNat : Int) := by rw [IntKind.wrap_u32, ehC1]; exact add_u32 _ _
                have u3 : IntKind.u32.wrap ((hC1.toNat : Int) + K.toNat) = (hK1.toNat : Int) := by rw [IntKind.wrap_u32, ehK1]; exact add_u32 _ _
                have u4 : IntKind.u32.wrap ((hK1.toNat : Int) + Wt.toNat) = (T1.toNat : Int) := by rw [IntKind.wrap_u32, eT1]; exact add_u32 _ _
                have u5 : IntKind.u32.wrap ((S0.toNat : Int) + MJ.toNat) = (T2.toNat : Int) := by rw [IntKind.wrap_u32, eT2]; exact add_u32 _ _
                have q13 : ((qd.toNat : Int) + T1.toNat) % 4294967296 = (ZT.toNat : Int) := by rw [eZT]; exact add_u32 _ _
                have q14 : ((T1.toNat : Int) + T2.toNat) % 4294967296 = (TT.toNat : Int) := by rw [eTT]; exact add_u32 _ _
                have HBQ := Lib.hid hb
                clear hq hK hWt hnx hnx2 hb hB eE6 eE11 eE25 eA2 eA13 eA22 eS1 eS0 eNE eEF eNG eCH eAB eAC eBC eMJ ehS1 ehC1 ehK1 eT1 eT2 eZT eTT RE6 RE11 RE25 RA2 RA13 RA22
                go_wp2
                go_region
                go_wp2
                obtain ⟨V, hV⟩ : ∃ V, V = wr.drew := ⟨_, rfl⟩
                have HVB : Hid (Blk V w5.heap.size 38 ((⟨qa, qb, qc, qd, qe, qf, qg, qh⟩ : St).l.map uv)) := by rw [hV]; exact HBQ.out.drew
                have HVL : Hid (Below w5.heap.size w5 V) := by rw [hV]; exact HBL4.out.drew
                obtain ⟨v0, v1, v2, v3, v4, v5, v6, v7⟩ := cells8 HVB.out
                replace hsc : V.cell? ⟨wo.heap.size, t, none⟩ = some (.int .u32 (Wt.toNat : Int)) := by rw [hV]; exact hsc
                replace hkc : V.cell? ⟨w1.heap.size, t, none⟩ = some (.int .u32 (K.toNat : Int)) := by rw [hV]; exact hkc
                simp only at v0 v1 v2 v3 v4 v5 v6 v7
                rw [← hV]
                clear hV
                refine wp_region_still_lit (by kernel_rfl) (by kernel_rfl) ?_
                repeat still_step
                still_call (HRE6.out _)
                repeat still_step
                still_call (HRE11.out _)
                repeat still_step
                still_call (HRE25.out _)
                repeat still_step
                refine wpStill_nil ?_
                change Exit.then _ _ Exit.normal _ V.drew
                obtain ⟨V2, hV2⟩ : ∃ V2, V2 = V.drew := ⟨_, rfl⟩
                have HVB2 : Hid (Blk V2 w5.heap.size 38 ((⟨qa, qb, qc, qd, qe, qf, qg, qh⟩ : St).l.map uv)) := by rw [hV2]; exact HVB.out.drew
                have HVL2 : Hid (Below w5.heap.size w5 V2) := by rw [hV2]; exact HVL.out.drew
                rw [← hV2]
                clear v0 v1 v2 v3 v4 v5 v6 v7 hsc hkc hV2 u1 u2 u3 u4
                obtain ⟨v0, v1, v2, v3, v4, v5, v6, v7⟩ := cells8 HVB2.out
                simp only at v0 v1 v2 v3 v4 v5 v6 v7
                go_wp2
                refine wp_region_still_lit (by kernel_rfl) (by kernel_rfl) ?_
                repeat still_step
                still_call (HRA2.out _)
                repeat still_step
                still_call (HRA13.out _)
                repeat still_step
                still_call (HRA22.out _)
                repeat still_step
                refine wpStill_nil ?_
                change Exit.then _ _ Exit.normal _ V2.drew
                obtain ⟨V3, hV3⟩ : ∃ V3, V3 = V2.drew := ⟨_, rfl⟩
                have HVB3 : Hid (Blk V3 w5.heap.size 38 ((⟨qa, qb, qc, qd, qe, qf, qg, qh⟩ : St).l.map uv)) := by rw [hV3]; exact HVB2.out.drew
                have HVL3 : Hid (Below w5.heap.size w5 V3) := by rw [hV3]; exact HVL2.out.drew
                rw [← hV3]
                clear v0 v1 v2 v3 v4 v5 v6 v7 hV3 u5 q1 q2 q3 q3' q4 q5 q6 q7 q8 q9 q10
                obtain ⟨v0, v1, v2, v3, v4, v5, v6, v7⟩ := cells8 HVB3.out
                simp only at v0 v1 v2 v3 v4 v5 v6 v7
                go_wp2_with (refine store_blk rfl 38 (.tmp 12) (.tmp 177) rfl w5.heap.size ((⟨qa, qb, qc, qd, qe, qf, qg, qh⟩ : St).l.map uv) ((⟨TT, qa, qb, qc, ZT, qe, qf, qg⟩ : St).l.map uv) rfl rfl 38 HVB3.out info38 rfl one_uv ?_; intro w9 HB9 HO9)
                go_roundw
                case rel => exact ⟨t + 1, by omega, by go_num, by rw [HNX.out]; exact HB9.out, HVL3.out.trans (HO9.out.below (Nat.le_refl _))⟩
                case measure => simp [intOf]; omega
              · obtain rfl : t = 64 := by omega
                obtain ⟨w6, rfl⟩ : ∃ w6 : World, w6 = wr := ⟨_, rfl⟩
                have hH6 : Blk w6 w2.heap.size 38 (s.l.map uv) := HH5.out.below hB
                have HH6 := Lib.hid hH6
                have hmx : mixd s bl = s.add (rnd S s 64) := by rw [HS.out]; rfl
                have hnx : hs P (k + 1) = mixd s bl := by rw [HSS.out, HBL.out]; rfl
                have hBo6 : Below w.heap.size w w6 := (HBO.out.trans ((HB5.out.trans (hB.mono (Nat.le_of_lt hsz5))).mono HBO.out.size))
                have HB6 : Hid (Below wo.heap.size wo w6) := HB5.out.trans (hB.mono (Nat.le_of_lt hsz5))
                obtain ⟨q, hq⟩ : ∃ q, q = rnd S s 64 := ⟨_, rfl⟩
                rw [← hq] at hb hmx
                have hmx2 := hnx.trans hmx
                have HMX := Lib.hid hmx2
                obtain ⟨c0, c1, c2, c3, c4, c5, c6, c7⟩ := cells8 hH6
                obtain ⟨v0, v1, v2, v3, v4, v5, v6, v7⟩ := cells8 hb
                have f0 := hH6.free (j := 0)
                have f1 := hH6.free (j := 1)
                have f2 := hH6.free (j := 2)
                have f3 := hH6.free (j := 3)
                have f4 := hH6.free (j := 4)
                have f5 := hH6.free (j := 5)
                have f6 := hH6.free (j := 6)
                have f7 := hH6.free (j := 7)
                have hne : w5.heap.size ≠ w2.heap.size := by have := HH5.out.lt; omega
                have hne' : w2.heap.size ≠ w5.heap.size := fun e => hne e.symm
                obtain ⟨qa, qb, qc, qd, qe, qf, qg, qh⟩ := q
                obtain ⟨sa, sb, sc, sd, se, sf, sg, sh⟩ := s
                simp only at c0 c1 c2 c3 c4 c5 c6 c7 v0 v1 v2 v3 v4 v5 v6 v7
                obtain ⟨U0, u0⟩ : ∃ u, u = sa + qa := ⟨_, rfl⟩
                obtain ⟨U1, u1⟩ : ∃ u, u = sb + qb := ⟨_, rfl⟩
                obtain ⟨U2, u2⟩ : ∃ u, u = sc + qc := ⟨_, rfl⟩
                obtain ⟨U3, u3⟩ : ∃ u, u = sd + qd := ⟨_, rfl⟩
                obtain ⟨U4, u4⟩ : ∃ u, u = se + qe := ⟨_, rfl⟩
                obtain ⟨U5, u5⟩ : ∃ u, u = sf + qf := ⟨_, rfl⟩
                obtain ⟨U6, u6⟩ : ∃ u, u = sg + qg := ⟨_, rfl⟩
                obtain ⟨U7, u7⟩ : ∃ u, u = sh + qh := ⟨_, rfl⟩
                have a0 : ((sa.toNat : Int) + qa.toNat) % 4294967296 = (U0.toNat : Int) := by rw [u0]; exact add_u32 _ _
                have a1 : ((sb.toNat : Int) + qb.toNat) % 4294967296 = (U1.toNat : Int) := by rw [u1]; exact add_u32 _ _
                have a2 : ((sc.toNat : Int) + qc.toNat) % 4294967296 = (U2.toNat : Int) := by rw [u2]; exact add_u32 _ _
                have a3 : ((sd.toNat : Int) + qd.toNat) % 4294967296 = (U3.toNat : Int) := by rw [u3]; exact add_u32 _ _
                have a4 : ((se.toNat : Int) + qe.toNat) % 4294967296 = (U4.toNat : Int) := by rw [u4]; exact add_u32 _ _
                have a5 : ((sf.toNat : Int) + qf.toNat) % 4294967296 = (U5.toNat : Int) := by rw [u5]; exact add_u32 _ _
                have a6 : ((sg.toNat : Int) + qg.toNat) % 4294967296 = (U6.toNat : Int) := by rw [u6]; exact add_u32 _ _
                have a7 : ((sh.toNat : Int) + qh.toNat) % 4294967296 = (U7.toNat : Int) := by rw [u7]; exact add_u32 _ _
                have HU : Hid (hs P (k + 1) = ⟨U0, U1, U2, U3, U4, U5, U6, U7⟩) := by
                  show _ = _
                  rw [hmx2, u0, u1, u2, u3, u4, u5, u6, u7]; rfl
                rw [show ((64 : Nat) : Int) = 64 from rfl]
                clear hb hB hH6 hmx hnx hBo6 hq hmx2 u0 u1 u2 u3 u4 u5 u6 u7 ht hlt64
                go_wp2
                refine wp_loop_rounds 9 ?_
                iterate 8 (rw [rounds_succ]; go_wp2; go_region; go_wp2)
                rw [rounds_succ]
                go_wp2
                go_roundw
                case rel =>
                  have hO : Only w2.heap.size w6 ((((((((((((((((w6.setCell ⟨w2.heap.size, 0, none⟩ (uv U0)).setCell ⟨w2.heap.size, 1, none⟩ (uv U1)).setCell ⟨w2.heap.size, 2, none⟩ (uv U2)).setCell ⟨w2.heap.size, 3, none⟩ (uv U3)).setCell ⟨w2.heap.size, 4, none⟩ (uv U4)).setCell ⟨w2.heap.size, 5, none⟩ (uv U5)).setCell ⟨w2.heap.size, 6, none⟩ (uv U6)).setCell ⟨w2.heap.size, 7, none⟩ (uv U7)).drew).drew).drew).drew).drew).drew).drew).drew) := (((((((((((((((((Only.refl _ w6).set 0 _).set 1 _).set 2 _).set 3 _).set 4 _).set 5 _).set 6 _).set 7 _).drew).drew).drew).drew).drew).drew).drew).drew)
                  refine ⟨k + 1, a + 64, by have := HA.out; omega, by omega, by go_num, ?_, ?_, ?_, ?_, ?_⟩
                  · rw [HU.out]
                    exact ((((((((HH6.out.set (j := 0) (uv U0)).set (j := 1) (uv U1)).set (j := 2) (uv U2)).set (j := 3) (uv U3)).set (j := 4) (uv U4)).set (j := 5) (uv U5)).set (j := 6) (uv U6)).set (j := 7) (uv U7)).drew.drew.drew.drew.drew.drew.drew.drew
                  · exact (HK.out.below HB6.out).other hO (by omega)
                  · exact (Near.of_only hO).rd (HPR.out.below HB6.out) (fun _ ad e => by cases e; show gp ≠ w2.heap.size; omega)
                  · exact (HRR.out.below HB6.out).other hO (by omega)
                  · exact (HBO.out.trans (HB6.out.mono HBO.out.size)).trans (hO.below (by omega))
                case measure => simp [intOf]; omega
    · obtain rfl : k = N := by omega
      obtain ⟨w7, rfl⟩ : ∃ w7 : World, w7 = wo := ⟨_, rfl⟩
      have d1 : decide ((a : Int) < 64 * (k : Int)) = false := decide_eq_false (by omega)
      have d1' : decide (a < 64 * k) = false := decide_eq_false (by omega)
      obtain ⟨ws, hws⟩ : ∃ ws, ws = (hs P k).l := ⟨_, rfl⟩
      have hwl : ws.length = 8 := by rw [hws]; rfl
      rw [← hws] at HH
      have hB : ws.flatMap wb = shaOf z := by
        rw [hws, HPZ.out]
        unfold shaOf St.bytes
        have e : (padd z).length / 64 = k := by rw [← HPZ.out, HPL.out]; omega
        rw [e]
      have HWS := Lib.hid hB; have HWL := Lib.hid hwl
      have hH2 : w2.heap.size < w7.heap.size := hH.lt
      clear hH hK hpr hR hBw ha hws hB hwl
      go_wp2
      go_loopw [20] (fun iv wr => ∃ i : Nat, i ≤ 32 ∧ iv = .int .i64 i ∧ Blk wr w7.heap.size 25 (((ws.flatMap wb).take i).map (Value.int .u8) ++ zeros (32 - i)) ∧ Below w7.heap.size w7 wr) (fun iv _ => 32 - (intOf iv).toNat)
      case atStart => exact ⟨0, Nat.zero_le _, rfl, Blk.new w7 (zeros 32) 25, (Below.refl _ _).alloc (Nat.le_refl _) _⟩
      case round =>
        obtain ⟨i, hi, rfl, hb, hB⟩ := hrel
        have HBI := Lib.hid hb; have HB := Lib.hid hB
        by_cases hlt : i < 32
        · have hi4 : i / 4 < 8 := by omega
          have hc : wr.cell? ⟨w2.heap.size, i / 4, none⟩ = some (.int .u32 ((ws.getD (i / 4) 0#32).toNat : Int)) := by
            rw [hB.cell (p := ⟨w2.heap.size, i / 4, none⟩) hH2, HH.out.cell (by rw [List.length_map, HWL.out]; exact hi4)]
            simp [List.getD, HWL.out, hi4, uv]
          have hlen : (((ws.flatMap wb).take i).map (Value.int .u8) ++ zeros (32 - i)).length = 32 := by
            rw [List.length_append, List.length_map, List.length_take, flat_wb_len, HWL.out]; unfold zeros; rw [List.length_replicate]; omega
          have ct := hb.cell (j := i) (by omega)
          have ft := hb.free (j := i)
          obtain ⟨x, hx⟩ : ∃ x, x = ws.getD (i / 4) 0#32 := ⟨_, rfl⟩
          rw [← hx] at hc
          have hby : ((x.toNat : Int) / 2 ^ (24 - 8 * (i % 4)) % 256) = (ws.flatMap wb).getD i 0 := by
            rw [flat_get _ _ (by rw [HWL.out]; omega), ← hx, Int.natCast_emod, Int.natCast_ediv, Int.natCast_pow]; rfl
          have htk : (ws.flatMap wb).take (i + 1) = (ws.flatMap wb).take i ++ [(ws.flatMap wb).getD i 0] := by
            exact take_getD _ i (by rw [flat_wb_len, HWL.out]; omega)
          have hset := hb.set (j := i) (.int .u8 ((ws.flatMap wb).getD i 0))
          rw [bput _ 32 i _ (by rw [List.length_take, flat_wb_len, HWL.out]; omega) hlt, ← htk, ← hby] at hset
          have HST := Lib.hid hset
          clear hb hB hlen hx hby htk hset
          go_wp2
          go_roundw
          case rel => exact ⟨i + 1, by omega, by go_num, HST.out, HB.out.setCell (Nat.le_refl _) _⟩
          case measure => simp [intOf]; omega
        · obtain rfl : i = 32 := by omega
          have hfull : ((ws.flatMap wb).take 32).map (Value.int .u8) ++ zeros (32 - 32) = shaV z := by
            rw [List.take_of_length_le (by rw [flat_wb_len, HWL.out]; exact Nat.le_refl _), HWS.out]
            simp [zeros, shaV]
          obtain ⟨SV, hSV⟩ : ∃ SV, SV = shaV z := ⟨_, rfl⟩
          rw [hfull, ← hSV] at hb
          have hl9 : SV.length = 32 := by rw [hSV]; exact sha_len z
          have h19 : ∀ v ∈ SV, v.oneCell' = true := by rw [hSV]; exact sha_one z
          have hR7 : Blk wr w.heap.size 25 (zeros 32) := HRR.out.below hB
          have P9 := Lib.hid hb; have HSV := Lib.hid hSV; have HL9 := Lib.hid hl9; have H19 := Lib.hid h19; have HR7 := Lib.hid hR7
          clear hfull hSV hl9 h19 hR7 hb hB
          go_wp2_with (first
            | (refine load_blk rfl 25 (.tmp 19) rfl w7.heap.size 0 SV SV rfl 25 P9.out (by rw [List.drop_zero, List.take_length]) _ Tryd.underlying25 rfl (by rw [HL9.out]; exact info25) ?_)
            | (refine store_blk rfl 25 (.tmp 2) (.tmp 207) rfl w.heap.size (zeros 32) SV rfl rfl 25 HR7.out (by rw [HL9.out]; exact info25) (by rw [HL9.out]; rfl) H19.out ?_; intro w9 HB9 HO9))
          refine bodyPost_ret (results_cell_row rfl _ _ w.heap.size 25 SV.toArray (0, 0) _ rfl HB9.out Tryd.underlying25 rfl (by rw [List.size_toArray, HL9.out]; exact info25)) rfl ?_
          exact ⟨by rw [HSV.out], (HBO.out.trans (HB.out.mono HBO.out.size)).trans (HO9.out.below (Nat.le_refl _))⟩
end Go.Proofs.YtdpnkdliibccjaaDoor
