/-
  The walk of BinBack.
-/
import Derived.Test.YtilpehbbjhignaaParts
import Derived.Test.YtilpehbbjhignaaPlain2
import Derived.Test.YtilpehbbjhignaaWakes
import Derived.Test.YtilpehbbjhignaaKeep
import Derived.Test.YtilpehbbjhignaaOpen
import Derived.Test.YtilpehbbjhignaaOrder
import Derived.WalkKit
import Derived.WalkSpells
import Derived.WalkSmall
import Derived.Outline
import Derived.Lib.Hide
namespace Go.Proofs.Ytilpehbbjhignaa
open Go.RowKit
set_option linter.unusedVariables false


/-- What is left of a number by the mask of s bytes. -/
def mv (a : Int) (s : Nat) : Nat := (BitVec.ofInt 64 a).toNat % 256 ^ s
theorem mv_lt (a : Int) (s : Nat) : mv a s < 256 ^ s := Nat.mod_lt _ (Nat.pow_pos (by decide))
theorem and_mv (a : Int) (i : Nat) (h1 : 1 ≤ i) (hi : i ≤ 7) : Go.bits BinOp.and IntKind.i64 a ((256 ^ i - 1 : Nat) : Int) = mv a i := by
  have hp : 256 ^ i ≤ 256 ^ 7 := Nat.pow_le_pow_right (by decide) hi
  have hp0 : 0 < 256 ^ i := Nat.pow_pos (by decide)
  have hm : (256 ^ i - 1) % 2 ^ 64 = 256 ^ i - 1 := Nat.mod_eq_of_lt (by omega)
  have e : (256 : Nat) ^ i = 2 ^ (8 * i) := by rw [Nat.pow_mul]
  have hlt : (BitVec.ofInt 64 a).toNat % 256 ^ i < 256 ^ i := Nat.mod_lt _ hp0
  unfold mv
  show IntKind.i64.wrap (((BitVec.ofInt 64 a &&& BitVec.ofInt 64 ((256 ^ i - 1 : Nat) : Int)).toNat : Nat) : Int) = _
  rw [BitVec.toNat_and, BitVec.ofInt_natCast, BitVec.toNat_ofNat, hm]
  rw [e, Nat.and_two_pow_sub_one_eq_mod, ← e]
  generalize (BitVec.ofInt 64 a).toNat % 256 ^ i = r at *
  rw [IntKind.wrap_i64]; omega

/-- Pieces, one behind the other. -/
def catP (P : Nat → List Int) : Nat → List Int
  | 0 => []
  | k + 1 => catP P k ++ P k
theorem catP_bts {P : Nat → List Int} (h : ∀ r, Bts (P r)) : ∀ k, Bts (catP P k)
  | 0 => Bts.nil
  | k + 1 => (catP_bts h k).append (h k)
theorem catP_le {P : Nat → List Int} (m : Nat) : ∀ k, (∀ r, r < k → (P r).length ≤ m) → (catP P k).length ≤ k * m
  | 0, _ => by simp [catP]
  | k + 1, h => by
    have h1 := catP_le m k (fun r hr => h r (by omega))
    have h2 := h k (by omega)
    rw [catP, List.length_append, Nat.add_mul, Nat.one_mul]; omega
theorem catP_drop {P : Nat → List Int} {r : Nat} : ∀ n, r < n → ∃ t, (catP P n).drop (catP P r).length = P r ++ t ∧ (catP P n).length = (catP P r).length + (P r).length + t.length
  | 0, h => by omega
  | n + 1, h => by
    by_cases e : r = n
    · subst e
      exact ⟨[], by rw [catP, List.drop_append_of_le_length (Nat.le_refl _), List.drop_of_length_le (Nat.le_refl _)]; simp, by rw [catP, List.length_append]; rfl⟩
    · obtain ⟨t, ht, hl⟩ := catP_drop (P := P) (r := r) n (by omega)
      exact ⟨t ++ P n, by rw [catP, List.drop_append_of_le_length (by omega), ht]; simp, by rw [catP, List.length_append, hl, List.length_append]; omega⟩

/-- The r-th number and the r-th part, each if there is one. -/
def piece (n1 n2 s : Nat) (X : Nat → Int) (L : Nat → Nat) (Z : Nat → List Int) (r : Nat) : List Int :=
  (if r < n1 then be (mv (X r) s) s else []) ++ (if r < n2 then be (L r) 4 ++ Z r else [])
theorem piece_bts {n1 n2 s : Nat} {X : Nat → Int} {L : Nat → Nat} {Z : Nat → List Int} (h : ∀ r, r < n2 → Bts (Z r)) : ∀ r, Bts (piece n1 n2 s X L Z r) := by
  intro r
  unfold piece
  refine Bts.append ?_ ?_
  · split
    · exact Bts.be _ _
    · exact Bts.nil
  · split
    · exact (Bts.be _ _).append (h r ‹_›)
    · exact Bts.nil
theorem piece_le {n1 n2 s : Nat} {X : Nat → Int} {L : Nat → Nat} {Z : Nat → List Int} (hs : s ≤ 7) (r : Nat) (h : r < n2 → (Z r).length ≤ 2000) : (piece n1 n2 s X L Z r).length ≤ 2011 := by
  unfold piece
  by_cases h1 : r < n1 <;> by_cases h2 : r < n2
  · have := h h2; rw [if_pos h1, if_pos h2]; simp [be_length]; omega
  · rw [if_pos h1, if_neg h2]; simp [be_length]; omega
  · have := h h2; rw [if_neg h1, if_pos h2]; simp [be_length]; omega
  · rw [if_neg h1, if_neg h2]; simp
theorem take_first {a t : List Int} {n : Nat} (h : a.length = n) : (a ++ t).take n = a := by
  rw [List.take_append_of_le_length (by omega), List.take_of_length_le (by omega)]
theorem drop_first {a t : List Int} {n : Nat} (h : a.length = n) : (a ++ t).drop n = t := by
  rw [List.drop_append_of_le_length (by omega), List.drop_of_length_le (by omega)]; rfl

set_option maxRecDepth 100000 in
set_option maxHeartbeats 8000000 in
theorem back_walk (a0 a1 : Option Addr) (n1 c1 n2 c2 : Nat) (X : Nat → Int) (A : Nat → Option Addr) (L C : Nat → Nat) (Z : Nat → List Int) (a2 : Int) (w : World) (hn1 : n1 ≤ 50) (hn2 : n2 ≤ 50)
    (nb no pb po : Nat) (ha0 : 0 < n1 → a0 = some ⟨nb, no, none⟩) (ha1 : 0 < n2 → a1 = some ⟨pb, po, none⟩)
    (hnum : ∀ r, r < n1 → w.cell? ⟨nb, no + r, none⟩ = some (.int .i64 (X r)))
    (hcell : ∀ r, r < n2 → w.cell? ⟨pb, po + r, none⟩ = some (.slice (A r) (L r) (C r))) (hP : Pts w n2 A L C Z) :
    Calls Try.prog 4 #[.slice a0 n1 c1, .slice a1 n2 c2, .int .i64 a2] w fun e w' => e = .returned (.bool true) ∧ Below w.heap.size w w' := by
  obtain ⟨k7, hk1, hk⟩ := uwrap_mod a2 7 (by omega) (by omega)
  obtain ⟨s, hsk⟩ : ∃ s : Nat, s = 1 + k7 := ⟨_, rfl⟩
  have hs : (1 : Int) + (k7 : Int) = (s : Int) := by omega
  have s1 : 1 ≤ s := by omega
  have s7 : s ≤ 7 := by omega
  obtain ⟨M, hMM⟩ : ∃ M : Nat, M = 256 ^ s - 1 := ⟨_, rfl⟩
  have hM := mask_wrap s s1 s7
  have HAND := Lib.hid (fun r => and_mv (X r) s s1 s7)
  rw [← hMM] at hM HAND
  obtain ⟨P, hPP⟩ : ∃ P, P = piece n1 n2 s X L Z := ⟨_, rfl⟩
  have HPP := Lib.hid hPP
  have HPB : Hid (∀ r, Bts (P r)) := by rw [hPP]; exact piece_bts hP.bts
  have HLEN : Hid (∀ k, k ≤ 50 → (∀ r, r < k → r < n2 → L r ≤ 2000) → (catP P k).length ≤ 200000) := by
    intro k hk hL
    have := catP_le (P := P) 2011 k (fun r hr => by rw [hPP]; exact piece_le s7 r (fun h => by rw [hP.len r h]; exact hL r hr h))
    omega
  have HMAX : Hid (n1 ≤ max n1 n2 ∧ n2 ≤ max n1 n2 ∧ max n1 n2 ≤ 50) := by unfold Hid; omega
  have d1 : decide (50 < (n1 : Int)) = false := by simp; omega
  have d2 : decide (50 < (n2 : Int)) = false := by simp; omega
  have HCELL := Lib.hid hcell; have HPT := Lib.hid hP; have HNUM := Lib.hid hnum; have HA0 := Lib.hid ha0; have HA1 := Lib.hid ha1
  clear hk1 hsk hMM hPP hcell hP hnum ha0 ha1
  go_enter Try.func4, Try.ntmps4
  go_wp2_with (first | (go_at_call 10; fail))
  try rw [hk]
  try rw [hs]
  clear hk hs
  go_loopw [7, 9] (fun v i wr => ∃ k T : Nat, T = (catP P k).length ∧ k ≤ max n1 n2 ∧ i = .int .i64 k ∧ Below w.heap.size w wr ∧ (∀ r, r < k → r < n2 → L r ≤ 2000) ∧ T ≤ 200000 ∧
      ∃ ao cap, v = .slice ao T cap ∧ Rd wr ao (catP P k) ∧ T ≤ cap ∧ cap ≤ 1000000) (fun _ i _ => max n1 n2 - (intOf i).toNat)
  case atStart => exact ⟨0, 0, rfl, Nat.zero_le _, rfl, Below.refl _ _, fun r hr => by omega, by omega, none, 0, rfl, Rd.nil _ _, Nat.le_refl _, by omega⟩
  case round =>
    obtain ⟨k, T, hT, hkm, rfl, hB, hL, hT2, ao, cap, rfl, hR, hc1, hc2⟩ := hrel
    have HT := Lib.hid hT; have HKM := Lib.hid hkm
    have HB := Lib.hid hB; have HLL := Lib.hid hL; have HR := Lib.hid hR
    clear hB hL hR hT hkm
    by_cases g1 : k < n1
    · obtain rfl := HA0.out (by omega)
      have hx0 := HNUM.out k g1
      have hx : wr.cell? ⟨nb, no + k, none⟩ = some (.int .i64 (X k)) := by rw [HB.out.cell (cell_lt hx0), hx0]
      have hv := HAND.out k
      have HQ1 := Lib.hid (put_rd ao T cap (catP P k) (mv (X k) s) s wr HT.out.symm (by omega) HR.out s1 s7 (mv_lt _ _))
      clear hx0
      by_cases g2 : k < n2
      · obtain rfl := HA1.out (by omega)
        have hc0 := HCELL.out k g2
        have hc : wr.cell? ⟨pb, po + k, none⟩ = some (.slice (A k) (L k) (C k)) := by rw [HB.out.cell (cell_lt hc0), hc0]
        have HCP := Lib.hid (cell_lt hc)
        have HPK : Hid (P k = be (mv (X k) s) s ++ (be (L k) 4 ++ Z k)) := by unfold Hid; rw [HPP.out]; unfold piece; rw [if_pos g1, if_pos g2]
        clear hc0
        by_cases hl : L k ≤ 2000
        · have d3 : decide (2000 < (L k : Int)) = false := by simp; omega
          go_wp2_with (first
            | (go_at_call 10; refine HQ1.out.mono ?_; rintro e w1 ⟨rfl, hb1, hB1⟩; have hc1' : w1.cell? ⟨pb, po + k, none⟩ = some (.slice (A k) (L k) (C k)) := (hB1.cell HCP.out).trans hc; have HQ2 := Lib.hid (putPart_ok (some ⟨wr.heap.size, 0, none⟩) (T + s) (T + s) (catP P k ++ be (mv (X k) s) s) (A k) (L k) (C k) (Z k) w1 (by rw [List.length_append, be_length, ← HT.out]) (by omega) (Rd.block hb1) (HPT.out.len k g2) (by omega) (((HPT.out.rd k g2).below HB.out).below hB1) (HPT.out.nil k g2)); have HB1 := Lib.hid hB1; clear hb1 hB1)
            | (go_at_call 16; refine HQ2.out.mono ?_; rintro e w2 ⟨g, hg, rfl, hb2, hB2⟩; have HB2 := Lib.hid hB2; have HBB2 := Lib.hid hb2; clear hb2 hB2))
          have hT' : T + s + 4 + L k = (catP P (k + 1)).length := by rw [catP, List.length_append, ← HT.out, HPK.out]; simp [be_length, HPT.out.len k g2]; omega
          have b1 := HB.out.trans (HB1.out.mono HB.out.size)
          have hnl : ∀ r, r < k + 1 → r < n2 → L r ≤ 2000 := fun r hr h => by by_cases e : r = k; (rw [e]; exact hl); exact HLL.out r (by omega) h
          go_roundw
          case rel => exact ⟨k + 1, T + s + 4 + L k, hT', by have := HMAX.out; omega, by go_num, b1.trans (HB2.out.mono b1.size), hnl, by rw [hT']; exact HLEN.out (k + 1) (by have := HMAX.out; omega) hnl, some ⟨g, 0, none⟩, T + s + 4 + L k, rfl, Rd.block (t := 5) (by rw [catP, HPK.out, ← List.append_assoc, ← List.append_assoc]; exact HBB2.out), Nat.le_refl _, by omega⟩
          case measure => have := HMAX.out; simp [intOf]; omega
        · have d3 : decide (2000 < (L k : Int)) = true := by simp; omega
          clear hl
          go_wp2_with (first
            | (go_at_call 10; refine HQ1.out.mono ?_; rintro e w1 ⟨rfl, hb1, hB1⟩; have hc1' : w1.cell? ⟨pb, po + k, none⟩ = some (.slice (A k) (L k) (C k)) := (hB1.cell HCP.out).trans hc; have HB1 := Lib.hid hB1; clear hb1 hB1)
            | (go_at_call 16; fail))
          go_ret
          exact ⟨rfl, HB.out.trans (HB1.out.mono HB.out.size)⟩
      · have HPK : Hid (P k = be (mv (X k) s) s) := by unfold Hid; rw [HPP.out]; unfold piece; rw [if_pos g1, if_neg g2, List.append_nil]
        go_wp2_with (first
          | (go_at_call 10; refine HQ1.out.mono ?_; rintro e w1 ⟨rfl, hb1, hB1⟩; have HB1 := Lib.hid hB1; have HBB1 := Lib.hid hb1; clear hb1 hB1)
          | (go_at_call 16; fail))
        have hT' : T + s = (catP P (k + 1)).length := by rw [catP, List.length_append, ← HT.out, HPK.out, be_length]
        have b1 := HB.out.trans (HB1.out.mono HB.out.size)
        have hnl : ∀ r, r < k + 1 → r < n2 → L r ≤ 2000 := fun r hr h => HLL.out r (by omega) h
        go_roundw
        case rel => exact ⟨k + 1, T + s, hT', by have := HMAX.out; omega, by go_num, b1, hnl, by rw [hT']; exact HLEN.out (k + 1) (by have := HMAX.out; omega) hnl, some ⟨wr.heap.size, 0, none⟩, T + s, rfl, Rd.block (t := 5) (by rw [catP, HPK.out]; exact HBB1.out), Nat.le_refl _, by omega⟩
        case measure => have := HMAX.out; simp [intOf]; omega
    · by_cases g2 : k < n2
      · obtain rfl := HA1.out (by omega)
        have hc0 := HCELL.out k g2
        have hc : wr.cell? ⟨pb, po + k, none⟩ = some (.slice (A k) (L k) (C k)) := by rw [HB.out.cell (cell_lt hc0), hc0]
        have HPK : Hid (P k = be (L k) 4 ++ Z k) := by unfold Hid; rw [HPP.out]; unfold piece; rw [if_neg g1, if_pos g2, List.nil_append]
        clear hc0
        by_cases hl : L k ≤ 2000
        · have d3 : decide (2000 < (L k : Int)) = false := by simp; omega
          have HQ2 := Lib.hid (putPart_ok ao T cap (catP P k) (A k) (L k) (C k) (Z k) wr HT.out.symm (by omega) HR.out (HPT.out.len k g2) (by omega) ((HPT.out.rd k g2).below HB.out) (HPT.out.nil k g2))
          go_wp2_with (first
            | (go_at_call 10; fail)
            | (go_at_call 16; refine HQ2.out.mono ?_; rintro e w2 ⟨g, hg, rfl, hb2, hB2⟩; have HB2 := Lib.hid hB2; have HBB2 := Lib.hid hb2; clear hb2 hB2))
          have hT' : T + 4 + L k = (catP P (k + 1)).length := by rw [catP, List.length_append, ← HT.out, HPK.out]; simp [be_length, HPT.out.len k g2]; omega
          have hnl : ∀ r, r < k + 1 → r < n2 → L r ≤ 2000 := fun r hr h => by by_cases e : r = k; (rw [e]; exact hl); exact HLL.out r (by omega) h
          go_roundw
          case rel => exact ⟨k + 1, T + 4 + L k, hT', by have := HMAX.out; omega, by go_num, HB.out.trans (HB2.out.mono HB.out.size), hnl, by rw [hT']; exact HLEN.out (k + 1) (by have := HMAX.out; omega) hnl, some ⟨g, 0, none⟩, T + 4 + L k, rfl, Rd.block (t := 5) (by rw [catP, HPK.out, ← List.append_assoc]; exact HBB2.out), Nat.le_refl _, by omega⟩
          case measure => have := HMAX.out; simp [intOf]; omega
        · have d3 : decide (2000 < (L k : Int)) = true := by simp; omega
          clear hl
          go_wp2_with (first | (go_at_call 10; fail) | (go_at_call 16; fail))
          go_ret
          exact ⟨rfl, HB.out⟩
      · have hkm : k = max n1 n2 := by have := HKM.out; omega
        have HKX := Lib.hid hkm
        obtain ⟨wo, rfl⟩ : ∃ wo : World, wo = wr := ⟨_, rfl⟩
        clear hkm
        go_wp2_with (first | (go_at_call 14; fail) | (go_at_call 18; fail))
        go_loopw [10, 11] (fun a i w2 => ∃ r U : Nat, U = (catP P r).length ∧ r ≤ k ∧ U ≤ 200000 ∧ i = .int .i64 r ∧ a = .int .i64 U ∧ Below wo.heap.size wo w2) (fun _ i _ => k - (intOf i).toNat)
        case atStart => exact ⟨0, 0, rfl, Nat.zero_le _, by omega, rfl, rfl, Below.refl _ _⟩
        case round =>
          obtain ⟨r, U, hU, hr, hU2, rfl, rfl, hB2⟩ := hrel
          have HU := Lib.hid hU; have HB2 := Lib.hid hB2
          have HRR := Lib.hid (HR.out.below hB2)
          have HZB := Lib.hid (catP_bts HPB.out k)
          have HBW := Lib.hid (HB.out.trans (hB2.mono HB.out.size))
          clear hU hB2
          by_cases hrk : r < k
          · obtain ⟨t, ht, htl⟩ := catP_drop (P := P) k hrk
            rw [← HU.out] at ht htl
            rw [← HT.out] at htl
            have HTD := Lib.hid ht; have HTL := Lib.hid htl
            clear ht htl
            by_cases q1 : r < n1
            · obtain rfl := HA0.out (by omega)
              have hx0 := HNUM.out r q1
              have hx : wr.cell? ⟨nb, no + r, none⟩ = some (.int .i64 (X r)) := by rw [HBW.out.cell (cell_lt hx0), hx0]
              have hv := HAND.out r
              clear hx0
              by_cases q2 : r < n2
              · obtain rfl := HA1.out (by omega)
                have hc0 := HCELL.out r q2
                have hc : wr.cell? ⟨pb, po + r, none⟩ = some (.slice (A r) (L r) (C r)) := by rw [HBW.out.cell (cell_lt hc0), hc0]
                have HCP := Lib.hid (cell_lt hc)
                have hl : L r ≤ 2000 := HLL.out r hrk q2
                have hz := HPT.out.len r q2
                have HPR : Hid (P r = be (mv (X r) s) s ++ (be (L r) 4 ++ Z r)) := by unfold Hid; rw [HPP.out]; unfold piece; rw [if_pos q1, if_pos q2]
                have hle : U + s + 4 + L r ≤ T := by have := HTL.out; rw [HPR.out] at this; simp [be_length, hz] at this; omega
                have HG := Lib.hid (get_rd ao T cap (catP P k) U s wr HT.out.symm hc1 (by unfold maxLen; omega) HRR.out HZB.out s1 s7 (by omega))
                rw [HTD.out, HPR.out, List.append_assoc, take_first (be_length _ _), num_be _ _ (mv_lt _ _)] at HG
                have e1 : (catP P k).drop (U + s) = be (L r) 4 ++ (Z r ++ t) := by rw [← List.drop_drop, HTD.out, HPR.out, List.append_assoc, drop_first (be_length _ _), List.append_assoc]
                have e2 : (catP P k).drop (U + s + 4) = Z r ++ t := by rw [← List.drop_drop, e1, drop_first (be_length _ _)]
                have HQ := Lib.hid (getPart_ok ao T cap (catP P k) (U + s) wr HT.out.symm hc1 (by unfold maxLen; omega) HRR.out HZB.out (by omega) (L r) (by rw [e1, take_first (be_length _ _), num_be _ _ (by omega)]) (by omega) hle)
                rw [e2, take_first hz, show ((U + s : Nat) : Int) = (U : Int) + (s : Int) by omega] at HQ
                have HZ := Lib.hid hz; have HRA := Lib.hid ((HPT.out.rd r q2).below HBW.out)
                clear hc0 e1 e2 hz
                go_wp2_with (first
                  | (go_at_call 14; refine HG.out.mono ?_; rintro e w3 ⟨rfl, rfl⟩)
                  | (go_at_call 18; refine HQ.out.mono ?_; rintro e w3 ⟨rfl, hb3, hB3⟩; have hc3 : w3.cell? ⟨pb, po + r, none⟩ = some (.slice (A r) (L r) (C r)) := (hB3.cell HCP.out).trans hc; have HBB3 := Lib.hid hb3; have HB3 := Lib.hid hB3; clear hb3 hB3)
                  | (go_at_call 12; refine (bytes_rd _ _ _ _ (L r) (Z r) w3 HZ.out (by omega) (Rd.block HBB3.out) (HRA.out.below HB3.out)).mono ?_; rintro e w4 ⟨rfl, hB4⟩; have HB4 := Lib.hid hB4; clear hB4))
                have b1 := HB2.out.trans (HB3.out.mono HB2.out.size)
                go_roundw
                case rel => exact ⟨r + 1, U + s + 4 + L r, by rw [catP, List.length_append, ← HU.out, HPR.out]; simp [be_length, HZ.out]; omega, by omega, by omega, by go_num, by go_num, b1.trans (HB4.out.mono b1.size)⟩
                case measure => simp [intOf]; omega
              · have HPR : Hid (P r = be (mv (X r) s) s) := by unfold Hid; rw [HPP.out]; unfold piece; rw [if_pos q1, if_neg q2, List.append_nil]
                have hle : U + s ≤ T := by have := HTL.out; rw [HPR.out, be_length] at this; omega
                have HG := Lib.hid (get_rd ao T cap (catP P k) U s wr HT.out.symm hc1 (by unfold maxLen; omega) HRR.out HZB.out s1 s7 hle)
                rw [HTD.out, HPR.out, take_first (be_length _ _), num_be _ _ (mv_lt _ _)] at HG
                go_wp2_with (first
                  | (go_at_call 14; refine HG.out.mono ?_; rintro e w3 ⟨rfl, rfl⟩)
                  | (go_at_call 18; fail))
                go_roundw
                case rel => exact ⟨r + 1, U + s, by rw [catP, List.length_append, ← HU.out, HPR.out, be_length], by omega, by omega, by go_num, by go_num, HB2.out⟩
                case measure => simp [intOf]; omega
            · have q2 : r < n2 := by have := HKX.out; omega
              obtain rfl := HA1.out (by omega)
              have hc0 := HCELL.out r q2
              have hc : wr.cell? ⟨pb, po + r, none⟩ = some (.slice (A r) (L r) (C r)) := by rw [HBW.out.cell (cell_lt hc0), hc0]
              have HCP := Lib.hid (cell_lt hc)
              have hl : L r ≤ 2000 := HLL.out r hrk q2
              have hz := HPT.out.len r q2
              have HPR : Hid (P r = be (L r) 4 ++ Z r) := by unfold Hid; rw [HPP.out]; unfold piece; rw [if_neg q1, if_pos q2, List.nil_append]
              have hle : U + 4 + L r ≤ T := by have := HTL.out; rw [HPR.out] at this; simp [be_length, hz] at this; omega
              have e2 : (catP P k).drop (U + 4) = Z r ++ t := by rw [← List.drop_drop, HTD.out, HPR.out, List.append_assoc, drop_first (be_length _ _)]
              have HQ := Lib.hid (getPart_ok ao T cap (catP P k) U wr HT.out.symm hc1 (by unfold maxLen; omega) HRR.out HZB.out (by omega) (L r) (by rw [HTD.out, HPR.out, List.append_assoc, take_first (be_length _ _), num_be _ _ (by omega)]) (by omega) hle)
              rw [e2, take_first hz] at HQ
              have HZ := Lib.hid hz; have HRA := Lib.hid ((HPT.out.rd r q2).below HBW.out)
              clear hc0 e2 hz
              go_wp2_with (first
                | (go_at_call 14; fail)
                | (go_at_call 18; refine HQ.out.mono ?_; rintro e w3 ⟨rfl, hb3, hB3⟩; have hc3 : w3.cell? ⟨pb, po + r, none⟩ = some (.slice (A r) (L r) (C r)) := (hB3.cell HCP.out).trans hc; have HBB3 := Lib.hid hb3; have HB3 := Lib.hid hB3; clear hb3 hB3)
                | (go_at_call 12; refine (bytes_rd _ _ _ _ (L r) (Z r) w3 HZ.out (by omega) (Rd.block HBB3.out) (HRA.out.below HB3.out)).mono ?_; rintro e w4 ⟨rfl, hB4⟩; have HB4 := Lib.hid hB4; clear hB4))
              have b1 := HB2.out.trans (HB3.out.mono HB2.out.size)
              go_roundw
              case rel => exact ⟨r + 1, U + 4 + L r, by rw [catP, List.length_append, ← HU.out, HPR.out]; simp [be_length, HZ.out]; omega, by omega, by omega, by go_num, by go_num, b1.trans (HB4.out.mono b1.size)⟩
              case measure => simp [intOf]; omega
          · obtain rfl : r = k := by omega
            obtain rfl : U = T := by rw [HU.out, HT.out]
            have q1 : ¬ r < n1 := g1
            have q2 : ¬ r < n2 := g2
            go_wp2_with (go_at_call 20; refine (wakes_any _).mono ?_; rintro e w4 ⟨rfl, hB4⟩)
            go_ret
            exact ⟨rfl, HBW.out.trans (hB4.mono HBW.out.size)⟩

theorem back_more (a0 a1 : Option Addr) (n1 c1 n2 c2 : Nat) (a2 : Int) (w : World) (h : 50 < n1 ∨ 50 < n2) :
    Calls Try.prog 4 #[.slice a0 n1 c1, .slice a1 n2 c2, .int .i64 a2] w fun e w' => e = .returned (.bool true) ∧ Below w.heap.size w w' := by
  by_cases h1 : 50 < n1
  · have d1 : decide (50 < (n1 : Int)) = true := by simp; omega
    go_enter Try.func4, Try.ntmps4
    go_wp2_with fail
    go_ret
    exact ⟨rfl, Below.refl _ _⟩
  · have d1 : decide (50 < (n1 : Int)) = false := by simp; omega
    have d2 : decide (50 < (n2 : Int)) = true := by simp; omega
    go_enter Try.func4, Try.ntmps4
    go_wp2_with fail
    go_ret
    exact ⟨rfl, Below.refl _ _⟩

end Go.Proofs.Ytilpehbbjhignaa
