/-
  The words of a block.
-/
import Derived.Test.YtdpnkdliibccjaaDoorArr
namespace Go.Proofs.YtdpnkdliibccjaaDoor
open Go.RowKit
set_option linter.unusedVariables false

def uv (x : BitVec 32) : Value := .int .u32 (x.toNat : Int)
/-- The words so far, and noughts. -/
def wcs (s : List (BitVec 32)) (n : Nat) : List Value := s.map uv ++ List.replicate (n - s.length) (.int .u32 0)
theorem wcs_len (s : List (BitVec 32)) (n : Nat) (h : s.length ≤ n) : (wcs s n).length = n := by simp [wcs]; omega
theorem wcs_get (s : List (BitVec 32)) (n i : Nat) (h : i < s.length) : (wcs s n).getD i undef = .int .u32 ((s.getD i 0#32).toNat : Int) := by
  simp [wcs, List.getD, List.getElem?_append_left, h, uv]
theorem wcs_set (s : List (BitVec 32)) (n : Nat) (x : BitVec 32) (h : s.length < n) : (wcs s n).set s.length (.int .u32 (x.toNat : Int)) = wcs (s ++ [x]) n := by
  unfold wcs
  obtain ⟨m, hm⟩ : ∃ m, n - s.length = m + 1 := ⟨n - s.length - 1, by omega⟩
  rw [List.set_append_right _ _ (by simp), List.length_map, Nat.sub_self, hm, List.replicate_succ, List.set_cons_zero, List.map_append, List.append_assoc, List.length_append, show n - (s.length + [x].length) = m by simp; omega]
  rfl
/-- One word more. -/
theorem sch_set {w : World} {g : Nat} {l : List Int} {t : Nat} {v : Int} (h : Blk w g 45 (wcs (sch l t) 64)) (ht : t < 64) (hv : v = ((nxw l (sch l t) t).toNat : Int)) : Blk (w.setCell ⟨g, t, none⟩ (.int .u32 v)) g 45 (wcs (sch l (t + 1)) 64) := by
  subst hv
  have e := wcs_set (sch l t) 64 (nxw l (sch l t) t) (by rw [sch_len]; exact ht)
  rw [sch_len] at e
  have := h.set (j := t) (.int .u32 ((nxw l (sch l t) t).toNat : Int))
  rw [e] at this
  exact this
theorem nxw_low (l : List Int) (t : Nat) (h : t < 16) : nxw l (sch l t) t = wd l (4 * t) := by unfold nxw; rw [if_pos h]
/-- A word is made of four. -/
theorem nxw_int (l : List Int) (t : Nat) (h : 16 ≤ t) (a b c d x y : BitVec 32) (ha : a = (sch l t).getD (t - 15) 0#32) (hb : b = (sch l t).getD (t - 2) 0#32) (hc : c = (sch l t).getD (t - 7) 0#32) (hd : d = (sch l t).getD (t - 16) 0#32)
    (hx : x = sml0 a) (hy : y = sml1 b) : ((y.toNat : Int) + c.toNat + x.toNat + d.toNat) % 4294967296 = ((nxw l (sch l t) t).toNat : Int) := by
  unfold nxw
  rw [if_neg (by omega), ← ha, ← hb, ← hc, ← hd, ← hx, ← hy]
  simp only [BitVec.toNat_add]
  omega

set_option maxRecDepth 100000 in
set_option maxHeartbeats 1000000 in
theorem sched_ok (g o : Nat) (l : List Int) (w : World) (hl : l.length = 64) (hz : Bts l) (hc : ∀ j, j < 64 → w.cell? ⟨g, o + j, none⟩ = some (.int .u8 (l.getD j 0))) :
    Calls Tryd.prog 24 #[.pointer (some ⟨g, o, none⟩)] w fun e w' => e = .returned (.agg ((sch l 64).map uv).toArray) ∧ Below w.heap.size w w' := by
  have HL := Lib.hid hl; have HZ := Lib.hid hz; have HC := Lib.hid hc
  have hglt : g < w.heap.size := cell_lt (hc 0 (by omega))
  clear hl hz hc
  go_enter Tryd.func24, Tryd.ntmps24
  go_wp2
  go_loopw [9] (fun i wr => ∃ t : Nat, t ≤ 16 ∧ i = .int .i64 t ∧ Blk wr w.heap.size 45 (wcs (sch l t) 64) ∧ Below w.heap.size w wr) (fun i _ => 16 - (intOf i).toNat)
  case atStart => exact ⟨0, by omega, rfl, Blk.new w (wcs (sch l 0) 64) 45, (Below.refl _ _).alloc (Nat.le_refl _) _⟩
  case round =>
    obtain ⟨t, ht, rfl, hb, hB⟩ := hrel
    have HBK := Lib.hid hb; have HB := Lib.hid hB
    have hsl := sch_len l t
    by_cases hlt : t < 16
    · have hcell : ∀ j, j < 4 → wr.cell? ⟨g, o + 4 * t + j, none⟩ = some (.int .u8 (l.getD (4 * t + j) 0)) := fun j hj => by
        rw [hB.cell (p := ⟨g, o + 4 * t + j, none⟩) hglt, Nat.add_assoc]; exact HC.out (4 * t + j) (by omega)
      have HW := Lib.hid (word_ok g (o + 4 * t) (64 - 4 * t) (64 - 4 * t) l (4 * t) wr HZ.out (by rw [HL.out]; omega) (by omega) (by omega) hcell)
      have hwl : (wcs (sch l t) 64).length = 64 := wcs_len _ _ (by omega)
      have c0 := hb.cell (j := t) (by omega)
      have f0 := hb.free (j := t)
      have hcut := cut_arr arr39 wr g o (4 * (t : Int)) (4 * t) (by omega) (by omega)
      obtain ⟨u, hu⟩ : ∃ u, u = wd l (4 * t) := ⟨_, rfl⟩
      rw [← hu] at HW
      have HU := Lib.hid hu
      clear hcell hb hB hwl hu
      go_wp2_with (go_at_call 26; refine HW.out.mono ?_; rintro e w1 ⟨rfl, rfl⟩)
      go_roundw
      case rel => exact ⟨t + 1, by omega, by go_num, sch_set HBK.out.drew (by omega) (by rw [nxw_low _ _ hlt, HU.out]), HB.out.drew.setCell (Nat.le_refl _) _⟩
      case measure => simp [intOf]; omega
    · obtain rfl : t = 16 := by omega
      obtain ⟨wo, rfl⟩ : ∃ wo : World, wo = wr := ⟨_, rfl⟩
      clear hb hB ht hlt hsl
      rw [show ((16 : Nat) : Int) = 16 from rfl]
      go_wp2
      go_loopw [4] (fun i wr => ∃ t : Nat, 16 ≤ t ∧ t ≤ 64 ∧ i = .int .i64 t ∧ Blk wr w.heap.size 45 (wcs (sch l t) 64) ∧ Below w.heap.size w wr) (fun i _ => 64 - (intOf i).toNat)
      case atStart => exact ⟨16, by omega, by omega, rfl, HBK.out, HB.out⟩
      case round =>
        obtain ⟨t, ht, ht2, rfl, hb, hB⟩ := hrel
        have HBK := Lib.hid hb; have HB := Lib.hid hB
        have hsl := sch_len l t
        have hwl : (wcs (sch l t) 64).length = 64 := wcs_len _ _ (by omega)
        by_cases hlt : t < 64
        · have cw : ∀ i, i < t → wr.cell? ⟨w.heap.size, i, none⟩ = some (.int .u32 (((sch l t).getD i 0#32).toNat : Int)) := fun i hi => by
            rw [hb.cell (by omega), wcs_get _ _ _ (by omega)]
          have c15 := cw (t - 15) (by omega)
          have c2 := cw (t - 2) (by omega)
          have c7 := cw (t - 7) (by omega)
          have c16 := cw (t - 16) (by omega)
          have ct := hb.cell (j := t) (by omega)
          have ft := hb.free (j := t)
          obtain ⟨a, ha⟩ : ∃ a, a = (sch l t).getD (t - 15) 0#32 := ⟨_, rfl⟩
          obtain ⟨b, hbb⟩ : ∃ b, b = (sch l t).getD (t - 2) 0#32 := ⟨_, rfl⟩
          obtain ⟨c, hc⟩ : ∃ c, c = (sch l t).getD (t - 7) 0#32 := ⟨_, rfl⟩
          obtain ⟨d, hd⟩ : ∃ d, d = (sch l t).getD (t - 16) 0#32 := ⟨_, rfl⟩
          rw [← ha] at c15; rw [← hbb] at c2; rw [← hc] at c7; rw [← hd] at c16
          obtain ⟨x, hx⟩ : ∃ x, x = sml0 a := ⟨_, rfl⟩
          obtain ⟨y, hy⟩ : ∃ y, y = sml1 b := ⟨_, rfl⟩
          have HN := Lib.hid (nxw_int l t ht a b c d x y ha hbb hc hd hx hy)
          obtain ⟨a7, h7⟩ : ∃ u, u = rr a 7 := ⟨_, rfl⟩
          obtain ⟨a18, h18⟩ : ∃ u, u = rr a 18 := ⟨_, rfl⟩
          obtain ⟨b17, h17⟩ : ∃ u, u = rr b 17 := ⟨_, rfl⟩
          obtain ⟨b19, h19⟩ : ∃ u, u = rr b 19 := ⟨_, rfl⟩
          have e0 : Go.bits .xor .u32 (Go.bits .xor .u32 (a7.toNat : Int) (a18.toNat : Int)) ((a.toNat : Int) / 8) = (x.toNat : Int) := by
            have := shr_u32 a 3
            rw [show (2 : Int) ^ 3 = 8 from rfl] at this
            rw [this, xor_u32, xor_u32, hx, h7, h18]; rfl
          have e1 : Go.bits .xor .u32 (Go.bits .xor .u32 (b17.toNat : Int) (b19.toNat : Int)) ((b.toNat : Int) / 1024) = (y.toNat : Int) := by
            have := shr_u32 b 10
            rw [show (2 : Int) ^ 10 = 1024 from rfl] at this
            rw [this, xor_u32, xor_u32, hy, h17, h19]; rfl
          have R7 : ∀ V, Calls Tryd.prog 25 #[.int .u32 (a.toNat : Int), .int .i64 7] V fun e w' => e = .returned (.int .u32 (a7.toNat : Int)) ∧ V = w' := fun V => by rw [h7]; exact rotr_any a 7 (by omega) (by omega) V
          have R18 : ∀ V, Calls Tryd.prog 25 #[.int .u32 (a.toNat : Int), .int .i64 18] V fun e w' => e = .returned (.int .u32 (a18.toNat : Int)) ∧ V = w' := fun V => by rw [h18]; exact rotr_any a 18 (by omega) (by omega) V
          have R17 : ∀ V, Calls Tryd.prog 25 #[.int .u32 (b.toNat : Int), .int .i64 17] V fun e w' => e = .returned (.int .u32 (b17.toNat : Int)) ∧ V = w' := fun V => by rw [h17]; exact rotr_any b 17 (by omega) (by omega) V
          have R19 : ∀ V, Calls Tryd.prog 25 #[.int .u32 (b.toNat : Int), .int .i64 19] V fun e w' => e = .returned (.int .u32 (b19.toNat : Int)) ∧ V = w' := fun V => by rw [h19]; exact rotr_any b 19 (by omega) (by omega) V
          have HR7 := Lib.hid R7; have HR18 := Lib.hid R18; have HR17 := Lib.hid R17; have HR19 := Lib.hid R19
          have hax := a.isLt; have hbx := b.isLt
          clear cw ha hbb hc hd hx hy h7 h18 h17 h19 R7 R18 R17 R19 hb hB hsl hwl
          go_wp2
          go_region
          go_wp2_with (first | (go_at_call 25; (with_reducible refine (HR7.out _).mono ?_); rintro e w1 ⟨rfl, rfl⟩) | (go_at_call 25; (with_reducible refine (HR18.out _).mono ?_); rintro e w1 ⟨rfl, rfl⟩) | (go_at_call 25; (with_reducible refine (HR17.out _).mono ?_); rintro e w1 ⟨rfl, rfl⟩) | (go_at_call 25; (with_reducible refine (HR19.out _).mono ?_); rintro e w1 ⟨rfl, rfl⟩))
          go_region
          go_wp2
          go_roundw
          case rel => exact ⟨t + 1, by omega, by omega, by go_num, sch_set HBK.out.drew.drew hlt HN.out, HB.out.drew.drew.setCell (Nat.le_refl _) _⟩
          case measure => simp [intOf]; omega
        · obtain rfl : t = 64 := by omega
          have e64 : wcs (sch l 64) 64 = (sch l 64).map uv := by unfold wcs; rw [sch_len]; simp
          have HB64 : Hid (Blk wr w.heap.size 45 ((sch l 64).map uv)) := by rw [← e64]; exact HBK.out
          have hn64 : ((sch l 64).map uv).length = 64 := by simp [sch_len]
          have HN64 := Lib.hid hn64
          obtain ⟨S, hS⟩ : ∃ S, S = (sch l 64).map uv := ⟨_, rfl⟩
          have h1 : Hid (∀ v ∈ S, v.oneCell' = true) := by show ∀ v ∈ S, v.oneCell' = true; rw [hS]; exact one_uv
          rw [← hS] at HB64 HN64
          have HS := Lib.hid hS
          have HBB := Lib.hid hB
          clear e64 hn64 hS hb hB hsl hwl HBK
          go_wp2_with (first
            | (with_reducible refine load_blk rfl 45 (.tmp 2) rfl w.heap.size 0 S S rfl 45 HB64.out (by rw [List.drop_zero, List.take_length]) _ Tryd.underlying45 rfl (by rw [HN64.out]; exact info45) ?_)
            | (with_reducible refine store_blk rfl 45 (.tmp 2) (.tmp 64) rfl w.heap.size S S rfl rfl 45 HB64.out (by rw [HN64.out]; exact info45) rfl h1.out ?_; intro w2 HB2 HO2))
          refine bodyPost_ret (results_cell_row rfl _ _ w.heap.size 45 S.toArray (0, 0) _ rfl HB2.out Tryd.underlying45 rfl (by rw [List.size_toArray, HN64.out]; exact info45)) rfl ?_
          exact ⟨by rw [HS.out], HBB.out.trans (HO2.out.below (Nat.le_refl _))⟩
end Go.Proofs.YtdpnkdliibccjaaDoor
