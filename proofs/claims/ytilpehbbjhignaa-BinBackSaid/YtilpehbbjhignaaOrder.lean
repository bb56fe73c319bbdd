/-
  The walk of BinOrder.
-/
import Derived.Test.YtilpehbbjhignaaParts
import Derived.Test.YtilpehbbjhignaaPlain2
import Derived.Test.YtilpehbbjhignaaWakes
import Derived.Test.YtilpehbbjhignaaEnds
import Derived.Deep.QuietTactic
import Derived.BigQuiet
import Derived.WalkKit
import Derived.WalkSpells
import Derived.WalkSmall
import Derived.Outline
import Derived.Lib.Hide
namespace Go.Proofs.Ytilpehbbjhignaa
open Go.RowKit
set_option linter.unusedVariables false


theorem and_mask (a : Int) (i : Nat) (h1 : 1 ≤ i) (hi : i ≤ 7) : ∃ A : Nat, A < 256 ^ i ∧ Go.bits BinOp.and IntKind.i64 a ((256 ^ i - 1 : Nat) : Int) = A := by
  refine ⟨(BitVec.ofInt 64 a).toNat % 256 ^ i, Nat.mod_lt _ (Nat.pow_pos (by decide)), ?_⟩
  have hp : 256 ^ i ≤ 256 ^ 7 := Nat.pow_le_pow_right (by decide) hi
  have hp0 : 0 < 256 ^ i := Nat.pow_pos (by decide)
  have hm : (256 ^ i - 1) % 2 ^ 64 = 256 ^ i - 1 := Nat.mod_eq_of_lt (by omega)
  have e : (256 : Nat) ^ i = 2 ^ (8 * i) := by rw [Nat.pow_mul]
  have hlt : (BitVec.ofInt 64 a).toNat % 256 ^ i < 256 ^ i := Nat.mod_lt _ hp0
  show IntKind.i64.wrap (((BitVec.ofInt 64 a &&& BitVec.ofInt 64 ((256 ^ i - 1 : Nat) : Int)).toNat : Nat) : Int) = _
  rw [BitVec.toNat_and, BitVec.ofInt_natCast, BitVec.toNat_ofNat, hm]
  rw [e, Nat.and_two_pow_sub_one_eq_mod, ← e]
  generalize (BitVec.ofInt 64 a).toNat % 256 ^ i = r at *
  rw [IntKind.wrap_i64]; omega

theorem mask_wrap (i : Nat) (h1 : 1 ≤ i) (hi : i ≤ 7) : wrap64 (wrap64 (2 ^ (8 * i)) - 1) = ((256 ^ i - 1 : Nat) : Int) := by
  have e : (2 : Int) ^ (8 * i) = ((256 ^ i : Nat) : Int) := by rw [Int.natCast_pow, Int.pow_mul]; rfl
  have hp : 256 ^ i ≤ 256 ^ 7 := Nat.pow_le_pow_right (by decide) hi
  have hp0 : 0 < 256 ^ i := Nat.pow_pos (by decide)
  rw [e]
  generalize 256 ^ i = m at *
  rw [IntWalk.wrap64_in (m : Int) ⟨by omega, by omega⟩, IntWalk.wrap64_in _ ⟨by omega, by omega⟩]
  omega

/-- How x stands to y. -/
def cmpv (x y : Nat) : Int := if x < y then -1 else if x = y then 0 else 1
theorem cmpv_same {p P a b : Nat} : cmpv (p * P + a) (p * P + b) = cmpv a b := by
  unfold cmpv
  by_cases h : a < b
  · rw [if_pos h, if_pos (by omega)]
  · by_cases h2 : a = b
    · rw [if_neg h, if_pos h2, if_neg (by omega), if_pos (by omega)]
    · rw [if_neg h, if_neg h2, if_neg (by omega), if_neg (by omega)]
theorem cmpv_less {p q P a b : Nat} (h : p < q) (ha : a < P) : cmpv (p * P + a) (q * P + b) = -1 := by
  have : (p + 1) * P ≤ q * P := Nat.mul_le_mul_right _ h
  rw [Nat.add_mul, Nat.one_mul] at this
  unfold cmpv
  rw [if_pos (by omega)]
theorem cmpv_more {p q P a b : Nat} (h : q < p) (hb : b < P) : cmpv (p * P + a) (q * P + b) = 1 := by
  have : (q + 1) * P ≤ p * P := Nat.mul_le_mul_right _ h
  rw [Nat.add_mul, Nat.one_mul] at this
  unfold cmpv
  rw [if_neg (by omega), if_neg (by omega)]
theorem tail_step (A s i : Nat) (h : i < s) : A % 256 ^ (s - i) = (digit A s i).toNat * 256 ^ (s - (i + 1)) + A % 256 ^ (s - (i + 1)) := by
  have e : s - i = (s - (i + 1)) + 1 := by omega
  have e3 : (2 : Nat) ^ (8 * (s - 1 - i)) = 256 ^ (s - (i + 1)) := by rw [Nat.pow_mul, show s - 1 - i = s - (i + 1) by omega]
  unfold digit
  rw [e3, Int.toNat_natCast, e, Nat.mod_pow_succ, Nat.mul_comm, Nat.add_comm]
/-- What has been seen of the two from the end on: they stand so. -/
def tails (A B s j : Nat) : Int := cmpv (A % 256 ^ (s - j)) (B % 256 ^ (s - j))
theorem tails_start (A B s : Nat) : tails A B s s = 0 := by simp [tails, cmpv, Nat.mod_one]
theorem tails_same {A B s i : Nat} (h : i < s) (hd : digit A s i = digit B s i) : tails A B s i = tails A B s (i + 1) := by
  unfold tails
  rw [tail_step A s i h, tail_step B s i h, hd, cmpv_same]
theorem tails_less {A B s i : Nat} (h : i < s) (hd : digit A s i < digit B s i) : tails A B s i = -1 := by
  unfold tails
  rw [tail_step A s i h, tail_step B s i h]
  exact cmpv_less (by have := digit_bd A s i; have := digit_bd B s i; omega) (Nat.mod_lt _ (Nat.pow_pos (by decide)))
theorem tails_more {A B s i : Nat} (h : i < s) (hd : digit B s i < digit A s i) : tails A B s i = 1 := by
  unfold tails
  rw [tail_step A s i h, tail_step B s i h]
  exact cmpv_more (by have := digit_bd A s i; have := digit_bd B s i; omega) (Nat.mod_lt _ (Nat.pow_pos (by decide)))
theorem tails_end {A B s : Nat} (hA : A < 256 ^ s) (hB : B < 256 ^ s) : tails A B s 0 = cmpv A B := by
  unfold tails; rw [Nat.sub_zero, Nat.mod_eq_of_lt hA, Nat.mod_eq_of_lt hB]
theorem digit_most (s i : Nat) (h : i < s) : digit (256 ^ s - 1) s i = 255 := by
  unfold digit
  have e3 : (2 : Nat) ^ (8 * (s - 1 - i)) = 256 ^ (s - (i + 1)) := by rw [Nat.pow_mul, show s - 1 - i = s - (i + 1) by omega]
  have e : 256 ^ s = 256 ^ i * 256 * 256 ^ (s - (i + 1)) := by rw [Nat.mul_assoc, ← Nat.pow_succ', ← Nat.pow_add]; congr 1; omega
  rw [e3, e]
  have hp0 : 0 < 256 ^ (s - (i + 1)) := Nat.pow_pos (by decide)
  have hq0 : 0 < 256 ^ i := Nat.pow_pos (by decide)
  generalize 256 ^ (s - (i + 1)) = P at *
  generalize 256 ^ i = Q at *
  have : (Q * 256 * P - 1) / P = Q * 256 - 1 := by
    obtain ⟨t, ht⟩ : ∃ t, Q * 256 = t + 1 := ⟨Q * 256 - 1, by omega⟩
    rw [ht, Nat.add_mul, Nat.one_mul, Nat.add_sub_cancel, show t * P + P - 1 = (P - 1) + t * P by omega, Nat.add_mul_div_right _ _ hp0, Nat.div_eq_of_lt (by omega)]
    omega
  rw [this]; omega

theorem put_nil (n s : Nat) (w : World) (h1 : 1 ≤ s) (h2 : s ≤ 7) (hn : n < 256 ^ s) :
    Calls Try.prog 10 #[.slice none 0 0, .int .i64 n, .int .i64 s] w fun e w' => e = .returned (.tuple #[.slice (some ⟨w.heap.size, 0, none⟩) s s, .int .i64 0]) ∧
      w'.heap[w.heap.size]? = some (.cells ((be n s).map (Value.int .u8)).toArray 5 (0, 0)) ∧ Below w.heap.size w w' := by
  have h := put_rd none 0 0 [] n s w rfl (by omega) (Rd.nil _ _) h1 h2 hn
  rwa [List.nil_append, Nat.zero_add] at h

/-- The digits of n lie in a block. -/
def Digs (w : World) (g n s : Nat) : Prop := w.heap[g]? = some (.cells ((be n s).map (Value.int .u8)).toArray 5 (0, 0))
theorem Digs.below {w w' : World} {g n s : Nat} (h : Digs w g n s) (hB : Below w.heap.size w w') : Digs w' g n s := by
  unfold Digs at *; rw [hB.block _ (lt_of_block h), h]
theorem Digs.cell {w : World} {g n s i : Nat} (h : Digs w g n s) (hi : i < s) : w.cell? ⟨g, i, none⟩ = some (.int .u8 (digit n s i)) := by
  unfold Digs at h
  rw [cell_of_block h (by simpa [be_length] using hi)]
  simp [List.getD, be, hi]

set_option maxRecDepth 100000 in
set_option maxHeartbeats 2000000 in
theorem order_any (a0 a1 a2 : Int) (w : World) :
    Calls Try.prog 6 #[.int .i64 a0, .int .i64 a1, .int .i64 a2] w fun e w' => e = .returned (.bool true) ∧ Below w.heap.size w w' := by
  obtain ⟨k, hk1, hk⟩ := uwrap_mod a2 7 (by omega) (by omega)
  obtain ⟨s, hsk⟩ : ∃ s : Nat, s = 1 + k := ⟨_, rfl⟩
  have hs : (1 : Int) + (k : Int) = (s : Int) := by omega
  have s1 : 1 ≤ s := by omega
  have s7 : s ≤ 7 := by omega
  obtain ⟨M, hMM⟩ : ∃ M : Nat, M = 256 ^ s - 1 := ⟨_, rfl⟩
  have hM := mask_wrap s s1 s7
  obtain ⟨A, hA1, hA⟩ := and_mask a0 s s1 s7
  obtain ⟨B, hB1, hB⟩ := and_mask a1 s s1 s7
  rw [← hMM] at hM hA hB
  have hp : 256 ^ s ≤ 256 ^ 7 := Nat.pow_le_pow_right (by decide) s7
  have hp0 : 0 < 256 ^ s := Nat.pow_pos (by decide)
  have hMb : M < 72057594037927936 := by omega
  have HA := Lib.hid hA1; have HB := Lib.hid hB1; have HMM := Lib.hid hMM
  have HMl : Hid (M < 256 ^ s) := by unfold Hid; omega
  have HM1 : Hid (256 ^ s ≤ M + 1) := by unfold Hid; omega
  clear hk1 hsk hA1 hB1 hMM hp hp0
  go_enter Try.func6, Try.ntmps6
  go_wp2_with (first | (go_at_call 10; fail))
  refine (put_nil A s _ s1 s7 HA.out).mono ?_
  rintro e wA ⟨rfl, hbA, hBA⟩
  have HDA := Lib.hid (show Digs wA w.heap.size A s from hbA); have HBA := Lib.hid hBA
  clear hbA hBA
  go_wp2_with (first | (go_at_call 10; fail))
  refine (put_nil B s _ s1 s7 HB.out).mono ?_
  rintro e wB ⟨rfl, hbB, hBB⟩
  have HDB := Lib.hid (show Digs wB wA.heap.size B s from hbB); have HBB := Lib.hid hBB
  clear hbB hBB
  go_wp2_with (first | (go_at_call 10; fail))
  refine (put_nil M s _ s1 s7 HMl.out).mono ?_
  rintro e wM ⟨rfl, hbM, hBM⟩
  have HDM := Lib.hid (show Digs wM wB.heap.size M s from hbM); have HBM := Lib.hid hBM
  clear hbM hBM
  go_wp2_with (first | (go_at_call 10; fail))
  have hM1 : ((M : Int) + 1) = ((M + 1 : Nat) : Int) := by omega
  rw [hM1]
  refine (put_more none 0 0 (M + 1) s _ s1 s7 HM1.out).mono ?_
  rintro e wN ⟨rfl, rfl⟩
  clear hM1 hM hA hB hk hMb
  have b1 := HBA.out.trans (HBB.out.mono HBA.out.size)
  have b2 := b1.trans (HBM.out.mono b1.size)
  have HB2 := Lib.hid b2
  have EA := Lib.hid ((HDA.out.below HBB.out).below HBM.out)
  have EB := Lib.hid (HDB.out.below HBM.out)
  clear b1 b2
  go_wp2_with (first | (go_at_call 20; fail))
  go_loopw [16, 17] (fun v i wr => ∃ j : Nat, j ≤ s ∧ i = .int .i64 ((j : Int) - 1) ∧ v = .int .i64 (tails A B s j) ∧ Below wM.heap.size wM wr) (fun _ i _ => (intOf i + 1).toNat)
  case atStart => exact ⟨s, Nat.le_refl _, rfl, by rw [tails_start], Below.refl _ _⟩
  case round =>
    obtain ⟨j, hj, hi, hv, hBr⟩ := hrel
    rcases j with _ | j
    · rw [show (((0 : Nat) : Int) - 1) = -1 by rfl] at hi
      subst hi
      rw [tails_end HA.out HB.out] at hv
      have HBr := Lib.hid hBr
      clear hBr
      unfold cmpv at hv
      by_cases c1 : A < B
      · rw [if_pos c1] at hv
        subst hv
        have f1 : decide (A < B) = true := by simpa using c1
        have f2 : (A == B) = false := beq_eq_false_iff_ne.2 (by omega)
        have f3 : ((A : Int) == (B : Int)) = false := beq_eq_false_iff_ne.2 (by omega)
        clear c1
        go_wp2_with (go_at_call 20; refine (wakes_any _).mono ?_; rintro e w8 ⟨rfl, hB8⟩)
        go_ret
        have b3 := HB2.out.trans (HBr.out.mono HB2.out.size)
        exact ⟨rfl, b3.trans (hB8.mono b3.size)⟩
      · by_cases c2 : A = B
        · rw [if_neg c1, if_pos c2] at hv
          subst hv
          subst c2
          clear c1
          go_wp2_with (go_at_call 20; refine (wakes_any _).mono ?_; rintro e w8 ⟨rfl, hB8⟩)
          go_ret
          have b3 := HB2.out.trans (HBr.out.mono HB2.out.size)
          exact ⟨rfl, b3.trans (hB8.mono b3.size)⟩
        · rw [if_neg c1, if_neg c2] at hv
          subst hv
          have f1 : decide (A < B) = false := by simpa using c1
          have f2 : (A == B) = false := beq_eq_false_iff_ne.2 c2
          have f3 : ((A : Int) == (B : Int)) = false := beq_eq_false_iff_ne.2 (by omega)
          clear c1 c2
          go_wp2_with (go_at_call 20; refine (wakes_any _).mono ?_; rintro e w8 ⟨rfl, hB8⟩)
          go_ret
          have b3 := HB2.out.trans (HBr.out.mono HB2.out.size)
          exact ⟨rfl, b3.trans (hB8.mono b3.size)⟩
    · rw [show (((j + 1 : Nat) : Int) - 1) = (j : Int) by omega] at hi
      subst hi
      have hjs : j < s := by omega
      have cz := (HDM.out.below hBr).cell hjs
      rw [HMM.out, digit_most s j hjs] at cz
      have cx := (EA.out.below hBr).cell hjs
      have cy := (EB.out.below hBr).cell hjs
      have bx := digit_bd A s j; have by' := digit_bd B s j
      have HS := Lib.hid (@tails_same A B s j hjs); have HLs := Lib.hid (@tails_less A B s j hjs); have HMr := Lib.hid (@tails_more A B s j hjs)
      generalize digit A s j = x at *
      generalize digit B s j = y at *
      have HV := Lib.hid hv; have HBr := Lib.hid hBr
      clear hBr hj
      rcases Int.lt_trichotomy x y with c | c | c
      · have g1 : (x == y) = false := beq_eq_false_iff_ne.2 (by omega)
        have g2 : (x != y) = true := by rw [bne_iff_ne]; omega
        have g3 : decide (x < y) = true := by simp; omega
        have HC := Lib.hid c
        clear c
        go_wp2
        go_quiet (fail)
        go_wp2
        go_quiet (fail)
        go_wp2
        go_roundw
        case rel => exact ⟨j, by omega, rfl, by rw [HLs.out HC.out], by first | exact below_drewN (below_drewN HBr.out _) _ | exact below_drewN HBr.out _⟩
        case measure => first | (simp [intOf]; done) | (simp [intOf]; omega)
      · subst c
        go_wp2
        go_quiet (fail)
        go_wp2
        go_roundw
        case rel => exact ⟨j, by omega, rfl, by rw [HS.out trivial], below_drewN HBr.out _⟩
        case measure => first | (simp [intOf]; done) | (simp [intOf]; omega)
      · have g1 : (x == y) = false := beq_eq_false_iff_ne.2 (by omega)
        have g2 : (x != y) = true := by rw [bne_iff_ne]; omega
        have g3 : decide (x < y) = false := by simp; omega
        have HC := Lib.hid c
        clear c
        go_wp2
        go_quiet (fail)
        go_wp2
        go_quiet (fail)
        go_wp2
        go_roundw
        case rel => exact ⟨j, by omega, rfl, by rw [HMr.out HC.out], by first | exact below_drewN (below_drewN HBr.out _) _ | exact below_drewN HBr.out _⟩
        case measure => first | (simp [intOf]; done) | (simp [intOf]; omega)

end Go.Proofs.Ytilpehbbjhignaa
