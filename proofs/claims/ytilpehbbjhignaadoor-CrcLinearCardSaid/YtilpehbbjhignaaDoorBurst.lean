/-
  Bits that are turned about, up to 32 side by side.
-/
import Derived.Test.YtilpehbbjhignaaDoorLin
namespace Go.Proofs.YtilpehbbjhignaaDoor
open Go.RowKit
set_option linter.unusedVariables false

/-- A bit turned about. -/
def flip1 (zs : List Int) (p : Nat) : List Int := zs.set (p / 8) (bx (zs.getD (p / 8) 0) ((2 ^ (p % 8) : Nat) : Int))
/-- Up to k bits, side by side from bit t on. -/
def burst (zs : List Int) (t V : Nat) : Nat → List Int
  | 0 => zs
  | i + 1 => if V.testBit i = true then flip1 (burst zs t V i) (t + i) else burst zs t V i
theorem flip1_len (zs : List Int) (p : Nat) : (flip1 zs p).length = zs.length := by simp [flip1]
theorem burst_len (zs : List Int) (t V : Nat) : ∀ i, (burst zs t V i).length = zs.length
  | 0 => rfl
  | i + 1 => by
    unfold burst
    split
    · rw [flip1_len, burst_len zs t V i]
    · exact burst_len zs t V i
theorem flip1_bts {zs : List Int} {p : Nat} (h : Bts zs) (hp : p < 8 * zs.length) : Bts (flip1 zs p) := fun j hj => by
  rw [flip1_len] at hj
  have h1 := h j hj
  have hq := h (p / 8) (by omega)
  by_cases e : j = p / 8
  · subst e
    have h2 : 2 ^ (p % 8) ≤ 2 ^ 7 := Nat.pow_le_pow_right (by decide) (by omega)
    have := bx_bd (zs.getD (p / 8) 0) ((2 ^ (p % 8) : Nat) : Int) hq.1 hq.2 (Int.natCast_nonneg _) (by have : ((2 ^ (p % 8) : Nat) : Int) ≤ ((2 ^ 7 : Nat) : Int) := Int.ofNat_le.2 h2; omega)
    simpa [flip1, List.getD, hj] using this
  · have : (flip1 zs p).getD j 0 = zs.getD j 0 := by simp [flip1, List.getD, Ne.symm e]
    rw [this]; exact h1
theorem burst_bts {zs : List Int} {t V : Nat} (h : Bts zs) : ∀ i, t + i ≤ 8 * zs.length → Bts (burst zs t V i)
  | 0, _ => h
  | i + 1, hi => by
    unfold burst
    split
    · exact flip1_bts (burst_bts h i (by omega)) (by rw [burst_len]; omega)
    · exact burst_bts h i (by omega)
theorem pow8_xor (a b : Nat) : (a ^^^ b) * 2 ^ 8 = (a * 2 ^ 8) ^^^ (b * 2 ^ 8) := by
  apply Nat.eq_of_testBit_eq
  intro j
  rw [Nat.testBit_xor, Nat.mul_comm, Nat.mul_comm a, Nat.mul_comm b, Nat.testBit_two_pow_mul, Nat.testBit_two_pow_mul, Nat.testBit_two_pow_mul, Nat.testBit_xor]
  cases decide (j ≥ 8) <;> simp
theorem nm_flip1 : ∀ (zs : List Int) (p : Nat), Bts zs → p < 8 * zs.length → nm (flip1 zs p) = nm zs ^^^ 2 ^ p
  | [], p, _, hp => by simp at hp
  | c :: l, p, h, hp => by
    obtain ⟨h0, h1, h2⟩ := bts_cons h
    by_cases e : p < 8
    · have e1 : p / 8 = 0 := by omega
      have e2 : p % 8 = p := by omega
      have hf : flip1 (c :: l) p = bx c ((2 ^ p : Nat) : Int) :: l := by simp [flip1, e1, e2, List.getD]
      have h3 : 2 ^ p ≤ 2 ^ 7 := Nat.pow_le_pow_right (by decide) (by omega)
      have hb := bx_bd c ((2 ^ p : Nat) : Int) h0 h1 (Int.natCast_nonneg _) (by have : ((2 ^ p : Nat) : Int) ≤ ((2 ^ 7 : Nat) : Int) := Int.ofNat_le.2 h3; omega)
      rw [hf, nm_cons _ _ hb.1 hb.2, nm_cons c l h0 h1, Nat.xor_assoc]
      rfl
    · obtain ⟨q, rfl⟩ : ∃ q, p = q + 8 := ⟨p - 8, by omega⟩
      have e1 : (q + 8) / 8 = q / 8 + 1 := by omega
      have hf : flip1 (c :: l) (q + 8) = c :: flip1 l q := by
        have e2 : (q + 8) % 8 = q % 8 := by omega
        unfold flip1
        rw [e1, e2]
        simp [List.getD]
      rw [hf, nm_cons c _ h0 h1, nm_cons c l h0 h1, nm_flip1 l q h2 (by simp at hp; omega), pow8_xor, Nat.xor_assoc, Nat.xor_assoc, Nat.xor_comm c.toNat, Nat.pow_add]
theorem mod_succ (V i : Nat) : V % 2 ^ (i + 1) = if V.testBit i = true then (V % 2 ^ i) ^^^ 2 ^ i else V % 2 ^ i := by
  apply Nat.eq_of_testBit_eq
  intro j
  split
  · rename_i h
    rw [Nat.testBit_xor, Nat.testBit_mod_two_pow, Nat.testBit_mod_two_pow, Nat.testBit_two_pow]
    by_cases e : j = i
    · subst e; simp [h]
    · have : decide (j < i + 1) = decide (j < i) := by rw [decide_eq_decide]; omega
      simp [this, Ne.symm e]
  · rename_i h
    rw [Nat.testBit_mod_two_pow, Nat.testBit_mod_two_pow]
    by_cases e : j = i
    · subst e; simp [h]
    · have : decide (j < i + 1) = decide (j < i) := by rw [decide_eq_decide]; omega
      rw [this]
theorem mul_pow_xor (a b t : Nat) : (a ^^^ b) * 2 ^ t = (a * 2 ^ t) ^^^ (b * 2 ^ t) := by
  apply Nat.eq_of_testBit_eq
  intro j
  rw [Nat.testBit_xor, Nat.mul_comm, Nat.mul_comm a, Nat.mul_comm b, Nat.testBit_two_pow_mul, Nat.testBit_two_pow_mul, Nat.testBit_two_pow_mul, Nat.testBit_xor]
  cases decide (j ≥ t) <;> simp
theorem nm_burst {zs : List Int} {t V : Nat} (h : Bts zs) : ∀ i, t + i ≤ 8 * zs.length → nm (burst zs t V i) = nm zs ^^^ ((V % 2 ^ i) * 2 ^ t)
  | 0, _ => by simp [burst, Nat.mod_one]
  | i + 1, hi => by
    have ih := nm_burst (t := t) (V := V) h i (by omega)
    rw [mod_succ]
    unfold burst
    split
    · rw [nm_flip1 (burst zs t V i) (t + i) (burst_bts h i (by omega)) (by rw [burst_len]; omega), ih, mul_pow_xor, Nat.xor_assoc, Nat.pow_add, Nat.mul_comm (2 ^ i)]
    · exact ih
/-- A TEXT, AND ONE THAT DIFFERS FROM IT IN SOME OF UP TO 32 BITS SIDE BY SIDE: like sums are of like texts. -/
theorem sum_unlike (zs : List Int) (t V i : Nat) (h : Bts zs) (hi : t + i ≤ 8 * zs.length) (h32 : i ≤ 32) (hs : (sumOf zs).toNat = (sumOf (burst zs t V i)).toNat) : V % 2 ^ i = 0 := by
  rw [sum_nat _ h, sum_nat _ (burst_bts h i hi)] at hs
  refine sum_burst zs (burst zs t V i) (V % 2 ^ i) t (burst_len zs t V i).symm ?_ (by omega) ?_ hs
  · rw [nm_burst h i hi, ← Nat.xor_assoc, Nat.xor_self, Nat.zero_xor]
  · exact Nat.lt_of_lt_of_le (Nat.mod_lt _ (Nat.pow_pos (by decide))) (Nat.pow_le_pow_right (by decide) h32)
theorem burst_same (zs : List Int) (t V i : Nat) (h : Bts zs) (hi : t + i ≤ 8 * zs.length) : zs = burst zs t V i ↔ V % 2 ^ i = 0 := by
  constructor
  · intro e
    have := nm_burst (V := V) h i hi
    rw [← e] at this
    have h2 : (V % 2 ^ i) * 2 ^ t = 0 := by
      have := congrArg (nm zs ^^^ ·) this
      simp only [← Nat.xor_assoc, Nat.xor_self, Nat.zero_xor] at this
      exact this.symm
    rcases Nat.mul_eq_zero.1 h2 with h | h
    · exact h
    · exact absurd h (Nat.ne_of_gt (Nat.pow_pos (by decide)))
  · intro e
    refine nm_inj _ _ (burst_len zs t V i).symm h (burst_bts h i hi) ?_
    rw [nm_burst h i hi, e]; simp
theorem unlike_iff (zs : List Int) (t V i : Nat) (h : Bts zs) (hi : t + i ≤ 8 * zs.length) (h32 : i ≤ 32) : (sumOf zs).toNat = (sumOf (burst zs t V i)).toNat ↔ zs = burst zs t V i := by
  constructor
  · intro hs
    exact (burst_same zs t V i h hi).2 (sum_unlike zs t V i h hi h32 hs)
  · intro e; rw [← e]

end Go.Proofs.YtilpehbbjhignaaDoor
