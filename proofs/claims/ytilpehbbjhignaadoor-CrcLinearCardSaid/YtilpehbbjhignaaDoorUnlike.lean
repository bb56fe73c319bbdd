/-
  The walk of CrcUnlike.
-/
import Derived.Test.YtilpehbbjhignaaDoorTwin
import Derived.Test.YtilpehbbjhignaaDoorBurst
namespace Go.Proofs.YtilpehbbjhignaaDoor
open Go.RowKit
set_option linter.unusedVariables false

theorem uwrap_at (a M : Int) (h : 0 < M) (hM : M ≤ 1000000000) : ∃ k : Nat, (k : Int) < M ∧ wrap64 ((IntKind.u64.wrap a).tmod M) = k := by
  have h0 : 0 ≤ IntKind.u64.wrap a := by rw [IntKind.wrap_u64]; omega
  refine ⟨((IntKind.u64.wrap a) % M).toNat, ?_, ?_⟩
  · have := Int.emod_lt_of_pos (IntKind.u64.wrap a) h; have := Int.emod_nonneg (IntKind.u64.wrap a) (by omega : M ≠ 0); omega
  · rw [Int.tmod_eq_emod_of_nonneg h0]
    have h1 := Int.emod_lt_of_pos (IntKind.u64.wrap a) h; have h2 := Int.emod_nonneg (IntKind.u64.wrap a) (by omega : M ≠ 0)
    generalize IntKind.u64.wrap a % M = r at *
    rw [IntWalk.wrap64_in _ ⟨by omega, by omega⟩]; omega

theorem bit_u32 (V k : Nat) (hV : V < 2 ^ 32) : (Go.bits .and .u32 ((V : Int) / 2 ^ k) 1 == 1) = V.testBit k := by
  have e : ((V : Int) / 2 ^ k) = ((V / 2 ^ k : Nat) : Int) := by
    rw [Int.natCast_ediv, Int.natCast_pow]; rfl
  have hlt : V / 2 ^ k < 2 ^ 32 := Nat.lt_of_le_of_lt (Nat.div_le_self _ _) hV
  have h1 : Go.bits .and .u32 ((V / 2 ^ k : Nat) : Int) 1 = ((V / 2 ^ k % 2 : Nat) : Int) := by
    generalize V / 2 ^ k = n at *
    show IntKind.u32.wrap ((BitVec.ofInt 32 (n : Int) &&& BitVec.ofInt 32 1).toNat : Int) = _
    rw [BitVec.ofInt_natCast, BitVec.toNat_and, BitVec.toNat_ofNat, show (BitVec.ofInt 32 1).toNat = 2 ^ 1 - 1 by decide, Nat.and_two_pow_sub_one_eq_mod, IntKind.wrap_u32]
    omega
  rw [e, h1, Nat.testBit_eq_decide_div_mod_eq, Bool.eq_iff_iff]
  simp only [beq_iff_eq, decide_eq_true_eq]
  omega
theorem xor_u8 (c d : Int) (h0 : 0 ≤ c) (h1 : c ≤ 255) (h2 : 0 ≤ d) (h3 : d ≤ 255) : Go.bits .xor .u8 c d = bx c d := by
  show IntKind.u8.wrap ((BitVec.ofInt 8 c ^^^ BitVec.ofInt 8 d).toNat : Int) = _
  have e1 : (BitVec.ofInt 8 c).toNat = c.toNat := by rw [BitVec.toNat_ofInt]; omega
  have e2 : (BitVec.ofInt 8 d).toNat = d.toNat := by rw [BitVec.toNat_ofInt]; omega
  have hb := bx_bd c d h0 h1 h2 h3
  rw [BitVec.toNat_xor, e1, e2]
  show IntKind.u8.wrap (bx c d) = bx c d
  rw [IntKind.wrap_u8]; omega
theorem pow_byte (k : Nat) (h : k < 8) : (2 : Int) ^ k % 256 = ((2 ^ k : Nat) : Int) := by
  match k, h with
  | 0, _ => rfl
  | 1, _ => rfl
  | 2, _ => rfl
  | 3, _ => rfl
  | 4, _ => rfl
  | 5, _ => rfl
  | 6, _ => rfl
  | 7, _ => rfl
theorem burst_pos {zs : List Int} {t V k : Nat} (h : V.testBit k = true) : burst zs t V (k + 1) = (burst zs t V k).set ((t + k) / 8) (bx ((burst zs t V k).getD ((t + k) / 8) 0) ((2 ^ ((t + k) % 8) : Nat) : Int)) := by
  show (if V.testBit k = true then flip1 (burst zs t V k) (t + k) else burst zs t V k) = _
  rw [if_pos h]; rfl
theorem burst_neg {zs : List Int} {t V k : Nat} (h : ¬ V.testBit k = true) : burst zs t V (k + 1) = burst zs t V k := by
  show (if V.testBit k = true then flip1 (burst zs t V k) (t + k) else burst zs t V k) = _
  rw [if_neg h]
theorem flat_one (p : Part) : flat [p] = p.z := by simp [flat]

/-- The sum of one part, set into a row of its own. -/
theorem sum_one (W : World) (ao : Option Addr) (n cap : Nat) (zs : List Int) (g : Nat) (s : Int) (hs : s = ((sumOf zs).toNat : Int)) (hg : g = W.heap.size) (hT : Tab W) (h : Part.ok W ⟨ao, n, cap, zs⟩) :
    Calls Tryd.prog 11 #[.slice (some ⟨g, 0, none⟩) 1 1] (W.alloc (.cells #[.slice ao n cap] 25)) fun e w' => e = .returned (.int .u32 s) ∧ W.alloc (.cells #[.slice ao n cap] 25) = w' := by
  have := sum_new W [⟨ao, n, cap, zs⟩] 1 g _ rfl rfl hg (by decide) hT (by intro p hp; simp only [List.mem_cons, List.mem_nil_iff, or_false] at hp; rw [hp]; exact h)
  rw [flat_one] at this
  rw [hs]
  exact this

theorem ow_store {w : World} {base g n kc : Nat} {zs : List Int} {j : Nat} {x : Int} (h : Ow w base (some ⟨g, 0, none⟩) n kc zs) : Ow (w.setCell ⟨g, j, none⟩ (.int .u8 x)) base (some ⟨g, 0, none⟩) n kc (zs.set j x) :=
  ⟨by simp [h.1], h.2.1, h.2.2.1, by rw [List.map_set]; exact (h.2.2.2.stored j _).1⟩

set_option maxRecDepth 100000 in
set_option maxHeartbeats 1000000 in
theorem unlike_walk (ao : Option Addr) (len cap : Nat) (zs : List Int) (a1 : Int) (V T : Nat) (w : World) (hT : Tab w) (hl : zs.length = len) (hlc : len ≤ cap) (hcm : cap ≤ maxLen) (h0 : 1 ≤ len) (hm : len ≤ 300) (hr : Rd w ao zs) (hz : Bts zs) (hn : ao = none → cap = 0)
    (hT1 : wrap64 ((IntKind.u64.wrap a1).tmod (8 * len)) = T) (hT2 : T < 8 * len) (hV : V < 2 ^ 32) :
    Calls Tryd.prog 5 #[.slice ao len cap, .int .i64 a1, .int .u32 (V : Int)] w fun e w' => e = .returned (.bool true) ∧ Below w.heap.size w w' := by
  have d1 : decide ((len : Int) < 1) = false := decide_eq_false (by omega)
  have d2 : decide ((300 : Int) < (len : Int)) = false := decide_eq_false (by omega)
  have HTW := Lib.hid (twin_any ao len cap zs w hl (by omega) hr hn)
  go_enter Tryd.func5, Tryd.ntmps5
  go_wp2_with (go_at_call 18; refine HTW.out.mono ?_; rintro e w1 ⟨ko, kc, rfl, how, hB1⟩; have HOW := Lib.hid how; have HB1 := Lib.hid hB1; clear how hB1)
  rw [hT1]
  clear hT1
  have hpos : 0 < len := h0
  obtain ⟨g, rfl, hg⟩ := HOW.out.at hpos
  go_loopw [8] (fun i wr => ∃ k : Nat, k ≤ 32 ∧ T + k ≤ 8 * len ∧ i = .int .i64 k ∧ Ow wr w.heap.size (some ⟨g, 0, none⟩) len kc (burst zs T V k) ∧ Below w.heap.size w wr) (fun i _ => 32 - (intOf i).toNat)
  case atStart => exact ⟨0, Nat.zero_le _, by omega, rfl, HOW.out, HB1.out⟩
  case round =>
    obtain ⟨k, hk, hTk, rfl, how, hB⟩ := hrel
    have HOK := Lib.hid how; have HB := Lib.hid hB
    clear how hB
    by_cases hlt : k < 32 ∧ T + k < 8 * len
    · obtain ⟨hk1, hk2⟩ := hlt
      have d3 : decide ((k : Int) < 32) = true := decide_eq_true (by omega)
      have d4 : decide ((T : Int) + k < 8 * len) = true := decide_eq_true (by omega)
      have hq : (T + k) / 8 < len := by omega
      obtain ⟨c, hc⟩ : ∃ c, c = (burst zs T V k).getD ((T + k) / 8) 0 := ⟨_, rfl⟩
      have hbl := burst_len zs T V k
      have hcell : wr.cell? ⟨g, (T + k) / 8, none⟩ = some (.int .u8 c) := by
        obtain ⟨b, o, e, hcc⟩ := HOK.out.rd.at (by rw [hbl]; omega)
        cases e
        have := hcc ((T + k) / 8) (by rw [hbl]; omega)
        rwa [Nat.zero_add, ← hc] at this
      have hfr := HOK.out.2.2.2.frozenAt ((T + k) / 8)
      have HC := Lib.hid hc; have HBL := Lib.hid hbl
      clear hc hbl
      have hcb : 0 ≤ c ∧ c ≤ 255 := by rw [HC.out]; exact burst_bts hz k (by rw [hl]; omega) _ (by rw [HBL.out, hl]; exact hq)
      have hx : Go.bits .xor .u8 c (2 ^ ((T + k) % 8) % 256) = bx c ((2 ^ ((T + k) % 8) : Nat) : Int) := by
        rw [pow_byte _ (Nat.mod_lt _ (by decide))]
        have h3 : 2 ^ ((T + k) % 8) ≤ 2 ^ 7 := Nat.pow_le_pow_right (by decide) (by omega)
        exact xor_u8 _ _ hcb.1 hcb.2 (Int.natCast_nonneg _) (by have : ((2 ^ ((T + k) % 8) : Nat) : Int) ≤ ((2 ^ 7 : Nat) : Int) := Int.ofNat_le.2 h3; omega)
      have HX := Lib.hid hx
      have HBIT := Lib.hid (bit_u32 V k hV)
      clear hx hcb
      by_cases hbit : V.testBit k = true
      · have hb : (Go.bits .and .u32 ((V : Int) / 2 ^ k) 1 == 1) = true := by rw [HBIT.out]; exact hbit
        have HBT := Lib.hid hbit
        clear hbit
        go_wp2
        go_roundw
        case rel => exact ⟨k + 1, by omega, by omega, by go_num, by rw [HX.out, HC.out, burst_pos HBT.out]; exact ow_store HOK.out, HB.out.setCell hg _⟩
        case measure => simp [intOf]; omega
      · have hb : (Go.bits .and .u32 ((V : Int) / 2 ^ k) 1 == 1) = false := by rw [HBIT.out]; simpa using hbit
        have HBT := Lib.hid hbit
        clear hbit
        go_wp2
        go_roundw
        case rel => exact ⟨k + 1, by omega, by omega, by go_num, by rw [burst_neg HBT.out]; exact HOK.out, HB.out⟩
        case measure => simp [intOf]; omega
    · have hiff := unlike_iff zs T V k hz (by rw [hl]; exact hTk) hk
      obtain ⟨wo, rfl⟩ : ∃ wo : World, wo = wr := ⟨_, rfl⟩
      have hbz := burst_bts (t := T) (V := V) hz k (by rw [hl]; exact hTk)
      obtain ⟨ys, hys⟩ : ∃ ys, ys = burst zs T V k := ⟨_, rfl⟩
      rw [← hys] at hiff hbz HOK
      obtain ⟨s1, hs1⟩ : ∃ s : Int, s = ((sumOf zs).toNat : Int) := ⟨_, rfl⟩
      obtain ⟨s2, hs2⟩ : ∃ s : Int, s = ((sumOf ys).toNat : Int) := ⟨_, rfl⟩
      obtain ⟨r, hrr⟩ : ∃ r, r = decide (zs = ys) := ⟨_, rfl⟩
      have he : (s1 == s2) = r := by
        rw [hrr, Bool.eq_iff_iff, beq_iff_eq, decide_eq_true_eq, ← hiff, hs1, hs2]; omega
      have hB0 := HB.out
      obtain ⟨W1, hW1⟩ : ∃ W, W = wo.alloc (.cells #[.slice ao len cap] 25) := ⟨_, rfl⟩
      have hb1 : Below wo.heap.size wo W1 := by rw [hW1]; exact (Below.refl _ _).alloc (Nat.le_refl _) _
      have hsz : W1.heap.size = wo.heap.size + 1 := by rw [hW1]; exact World.size_alloc ..
      obtain ⟨W2, hW2⟩ : ∃ W, W = W1.alloc (.cells #[.slice (some ⟨g, 0, none⟩) len kc] 25) := ⟨_, rfl⟩
      have hb2 : Below W1.heap.size W1 W2 := by rw [hW2]; exact (Below.refl _ _).alloc (Nat.le_refl _) _
      have hp1 : Part.ok wo ⟨ao, len, cap, zs⟩ := ⟨hr.below hB0, hl, hz, Nat.le_trans hlc hcm, hn⟩
      have hp2 := (HOK.out.part hbz).below hb1
      have HS1 := Lib.hid (sum_one wo ao len cap zs wo.heap.size s1 hs1 rfl (hT.below hB0) hp1)
      have HS2 := Lib.hid (sum_one W1 _ len kc ys (wo.heap.size + 1) s2 hs2 hsz.symm ((hT.below hB0).below hb1) hp2)
      have hb12 := hb1.trans (hb2.mono hb1.size)
      have HC := Lib.hid (bytes_cmp ao (some ⟨g, 0, none⟩) len len cap kc zs ys W2 hl (by rw [hys, burst_len]; exact hl) (by unfold maxLen at *; omega) ((hr.below hB0).below hb12) (HOK.out.rd.below hb12))
      rw [← hrr] at HC
      have HBF := Lib.hid (hB0.trans (hb12.mono hB0.size))
      have HT := Lib.hid (((hT.below hB0).below hb1).below hb2)
      rw [hW2, hW1] at HC HBF HT
      rw [hW1] at HS2
      clear hiff hbz hys hs1 hs2 hrr hB0 hb1 hsz hb2 hp1 hp2 hb12 hW2 hW1 W1 W2 HOK HB HOW HB1 HTW hT hl hr hz hn
      have hrr : (r == r) = true := by simp
      by_cases h32 : k < 32
      · have d3 : decide ((k : Int) < 32) = true := decide_eq_true (by omega)
        have d4 : decide ((T : Int) + k < 8 * len) = false := decide_eq_false (by omega)
        clear hlt
        go_wp2_with (first
          | (go_at_call_of 11 (Value.slice (some ⟨wo.heap.size, 0, none⟩) 1 1); refine HS1.out.mono ?_; rintro e w2 ⟨rfl, rfl⟩)
          | (go_at_call 11; refine HS2.out.mono ?_; rintro e w2 ⟨rfl, rfl⟩)
          | (go_at_call 14; refine HC.out.mono ?_; rintro e w3 ⟨rfl, hq⟩))
        obtain ⟨q, hq⟩ := hq
        have hq' : Below w.heap.size w w3 := by rw [hq]; exact below_drewN HBF.out q
        have HT3 : Tab w3 := by rw [hq]; exact HT.out
        have HBQ := Lib.hid hq'
        have HW := Lib.hid (wakes_any w3 HT3)
        clear hq hq' HT3
        go_wp2_with (go_at_call 17; refine HW.out.mono ?_; rintro e w4 ⟨rfl, hB4⟩; have HB4 := Lib.hid hB4; clear hB4)
        go_ret
        exact ⟨rfl, HBQ.out.trans (HB4.out.mono HBQ.out.size)⟩
      · have d3 : decide ((k : Int) < 32) = false := decide_eq_false (by omega)
        clear hlt
        go_wp2_with (first
          | (go_at_call_of 11 (Value.slice (some ⟨wo.heap.size, 0, none⟩) 1 1); refine HS1.out.mono ?_; rintro e w2 ⟨rfl, rfl⟩)
          | (go_at_call 11; refine HS2.out.mono ?_; rintro e w2 ⟨rfl, rfl⟩)
          | (go_at_call 14; refine HC.out.mono ?_; rintro e w3 ⟨rfl, hq⟩))
        obtain ⟨q, hq⟩ := hq
        have hq' : Below w.heap.size w w3 := by rw [hq]; exact below_drewN HBF.out q
        have HT3 : Tab w3 := by rw [hq]; exact HT.out
        have HBQ := Lib.hid hq'
        have HW := Lib.hid (wakes_any w3 HT3)
        clear hq hq' HT3
        go_wp2_with (go_at_call 17; refine HW.out.mono ?_; rintro e w4 ⟨rfl, hB4⟩; have HB4 := Lib.hid hB4; clear hB4)
        go_ret
        exact ⟨rfl, HBQ.out.trans (HB4.out.mono HBQ.out.size)⟩

theorem unlike_out (ao : Option Addr) (len cap : Nat) (a1 a2 : Int) (w : World) (h : len < 1 ∨ 300 < len) :
    Calls Tryd.prog 5 #[.slice ao len cap, .int .i64 a1, .int .u32 a2] w fun e w' => e = .returned (.bool true) ∧ Below w.heap.size w w' := by
  by_cases h1 : len < 1
  · have d1 : decide ((len : Int) < 1) = true := decide_eq_true (by omega)
    go_enter Tryd.func5, Tryd.ntmps5
    go_wp2
    go_ret
    exact ⟨rfl, Below.refl _ _⟩
  · have d1 : decide ((len : Int) < 1) = false := decide_eq_false (by omega)
    have d2 : decide ((300 : Int) < (len : Int)) = true := decide_eq_true (by omega)
    go_enter Tryd.func5, Tryd.ntmps5
    go_wp2
    go_ret
    exact ⟨rfl, Below.refl _ _⟩

end Go.Proofs.YtilpehbbjhignaaDoor
