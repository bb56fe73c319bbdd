/-
  The sum as a number: linear; what 32 bits side by side do to it; the text with its sum behind it.
-/
import Derived.Test.YtilpehbbjhignaaDoorCrc
namespace Go.Proofs.YtilpehbbjhignaaDoor
open Go.RowKit
set_option linter.unusedVariables false

/-- A bit's step of an unbounded register. -/
def B (n : Nat) : Nat := n / 2 ^^^ (if n % 2 = 1 then 0xedb88320 else 0)
def Bn : Nat → Nat → Nat
  | 0, n => n
  | k + 1, n => Bn k (B n)
theorem xor_swap (a b c d : Nat) : (a ^^^ b) ^^^ (c ^^^ d) = (a ^^^ c) ^^^ (b ^^^ d) := by
  rw [Nat.xor_assoc, ← Nat.xor_assoc b, Nat.xor_comm b c, Nat.xor_assoc c, ← Nat.xor_assoc a]
theorem B_xor (a b : Nat) : B (a ^^^ b) = B a ^^^ B b := by
  unfold B
  rw [Nat.xor_div_two, xor_swap]
  congr 1
  have h : (a ^^^ b) % 2 = (a % 2) ^^^ (b % 2) := Nat.xor_mod_two_pow (n := 1)
  rw [h]
  rcases Nat.mod_two_eq_zero_or_one a with h1 | h1 <;> rcases Nat.mod_two_eq_zero_or_one b with h2 | h2 <;> rw [h1, h2] <;> decide
theorem Bn_xor : ∀ (k a b : Nat), Bn k (a ^^^ b) = Bn k a ^^^ Bn k b
  | 0, _, _ => rfl
  | k + 1, a, b => by show Bn k (B _) = _; rw [B_xor, Bn_xor k]; rfl
theorem Bn_add : ∀ (j k n : Nat), Bn (j + k) n = Bn k (Bn j n)
  | 0, k, n => by rw [Nat.zero_add]; rfl
  | j + 1, k, n => by rw [show j + 1 + k = (j + k) + 1 by omega]; show Bn (j + k) (B n) = _; rw [Bn_add j k]; rfl
theorem B_even (m : Nat) : B (m * 2) = m := by unfold B; rw [if_neg (by omega), Nat.xor_zero]; omega
theorem Bn_pow : ∀ (k m : Nat), Bn k (m * 2 ^ k) = m
  | 0, m => by simp [Bn]
  | k + 1, m => by
    show Bn k (B _) = m
    rw [Nat.pow_succ, ← Nat.mul_assoc, B_even, Bn_pow k m]
theorem B_lt (n : Nat) (h : n < 2 ^ 32) : B n < 2 ^ 32 := by
  unfold B
  refine Nat.xor_lt_two_pow (by omega) ?_
  split <;> decide
theorem B_ne (n : Nat) (h : n < 2 ^ 32) (h0 : n ≠ 0) : B n ≠ 0 := by
  unfold B
  intro e
  split at e
  · have : n / 2 = 0xedb88320 := by
      have := congrArg (· ^^^ 0xedb88320) e
      simpa [Nat.xor_assoc] using this
    omega
  · simp at e; omega
theorem Bn_ne : ∀ (k n : Nat), n < 2 ^ 32 → n ≠ 0 → Bn k n ≠ 0
  | 0, _, _, h => h
  | k + 1, n, h, h0 => Bn_ne k (B n) (B_lt n h) (B_ne n h h0)
theorem Bn_zero : ∀ k, Bn k 0 = 0
  | 0 => rfl
  | k + 1 => by show Bn k (B 0) = 0; rw [show B 0 = 0 by decide, Bn_zero k]
theorem mul_xor (k q t : Nat) (h : t < 2 ^ k) : q * 2 ^ k + t = (q * 2 ^ k) ^^^ t := by
  apply Nat.eq_of_testBit_eq
  intro j
  rw [Nat.mul_comm, Nat.testBit_two_pow_mul_add q h, Nat.testBit_xor, Nat.testBit_two_pow_mul]
  by_cases hj : j < k
  · simp [hj, show ¬ k ≤ j by omega]
  · have : t.testBit j = false := Nat.testBit_lt_two_pow (Nat.lt_of_lt_of_le h (Nat.pow_le_pow_right (by decide) (by omega)))
    simp [hj, this, show k ≤ j by omega]
theorem tb_bits : ∀ t : Fin 16, (tb t.val).toNat = Bn 4 t.val := by decide +kernel
theorem half_nat (r : BitVec 32) : (half r).toNat = Bn 4 r.toNat := by
  have e : r.toNat = (r.toNat / 16) * 2 ^ 4 + r.toNat % 16 := by omega
  have hx := mul_xor 4 (r.toNat / 16) (r.toNat % 16) (Nat.mod_lt _ (by decide))
  unfold half
  rw [BitVec.toNat_xor, BitVec.toNat_ushiftRight, Nat.shiftRight_eq_div_pow]
  conv => rhs; rw [e, hx, Bn_xor, Bn_pow]
  rw [← tb_bits ⟨r.toNat % 16, Nat.mod_lt _ (by decide)⟩]
theorem upd_nat (r : BitVec 32) (c : Int) (h0 : 0 ≤ c) (h1 : c ≤ 255) : (upd r c).toNat = Bn 8 (r.toNat ^^^ c.toNat) := by
  unfold upd
  rw [half_nat, half_nat, BitVec.toNat_xor, BitVec.toNat_ofInt, ← Bn_add 4 4]
  congr 2
  omega
/-- A text as a number, the first byte the lowest. -/
def nm : List Int → Nat
  | [] => 0
  | c :: l => c.toNat + 256 * nm l
theorem bts_cons {c : Int} {l : List Int} (h : Bts (c :: l)) : 0 ≤ c ∧ c ≤ 255 ∧ Bts l := by
  have h0 := h 0 (by simp)
  simp [List.getD] at h0
  refine ⟨h0.1, h0.2, fun j hj => ?_⟩
  have := h (j + 1) (by simp; omega)
  simpa [List.getD] using this
theorem nm_cons (c : Int) (l : List Int) (h0 : 0 ≤ c) (h1 : c ≤ 255) : nm (c :: l) = (nm l * 2 ^ 8) ^^^ c.toNat := by
  rw [← mul_xor 8 _ _ (by omega)]
  show c.toNat + 256 * nm l = _
  omega
theorem regs_nat : ∀ (l : List Int) (r : BitVec 32), Bts l → (regs r l).toNat = Bn (8 * l.length) (r.toNat ^^^ nm l)
  | [], r, _ => by simp [regs, nm, Bn]
  | c :: l, r, h => by
    obtain ⟨h0, h1, h2⟩ := bts_cons h
    show (regs (upd r c) l).toNat = _
    rw [regs_nat l _ h2, upd_nat r c h0 h1, nm_cons c l h0 h1, List.length_cons, show 8 * (l.length + 1) = 8 + 8 * l.length by omega, Bn_add, Nat.xor_comm (nm l * 2 ^ 8), ← Nat.xor_assoc, Bn_xor 8 _ (nm l * 2 ^ 8), Bn_pow]
/-- The sum as a number. -/
def S (l : List Int) : Nat := 0xffffffff ^^^ Bn (8 * l.length) (0xffffffff ^^^ nm l)
theorem not_nat (r : BitVec 32) : (~~~ r).toNat = 0xffffffff ^^^ r.toNat := by
  have h : ~~~ r = 0xffffffff#32 ^^^ r := by
    have : (0xffffffff#32) = BitVec.allOnes 32 := by decide
    rw [this, BitVec.allOnes_xor]
  rw [h, BitVec.toNat_xor]; rfl
theorem sum_nat (l : List Int) (h : Bts l) : (sumOf l).toNat = S l := by
  unfold sumOf S
  rw [not_nat, regs_nat l _ h]; rfl
def bx (c d : Int) : Int := ((c.toNat ^^^ d.toNat : Nat) : Int)
def lx (a b : List Int) : List Int := List.zipWith bx a b
theorem bx_bd (c d : Int) (h0 : 0 ≤ c) (h1 : c ≤ 255) (h2 : 0 ≤ d) (h3 : d ≤ 255) : 0 ≤ bx c d ∧ bx c d ≤ 255 := by
  unfold bx
  have := Nat.xor_lt_two_pow (x := c.toNat) (y := d.toNat) (n := 8) (by omega) (by omega)
  omega
theorem nm_lx : ∀ a b : List Int, a.length = b.length → Bts a → Bts b → nm (lx a b) = nm a ^^^ nm b
  | [], [], _, _, _ => rfl
  | c :: l, d :: m, h, ha, hb => by
    obtain ⟨a0, a1, a2⟩ := bts_cons ha
    obtain ⟨b0, b1, b2⟩ := bts_cons hb
    have hx := bx_bd c d a0 a1 b0 b1
    show nm (bx c d :: lx l m) = _
    rw [nm_cons _ _ hx.1 hx.2, nm_cons c l a0 a1, nm_cons d m b0 b1, nm_lx l m (by simpa using h) a2 b2, xor_swap]
    congr 1
    apply Nat.eq_of_testBit_eq
    intro j
    rw [Nat.testBit_xor, Nat.mul_comm, Nat.mul_comm (nm l), Nat.mul_comm (nm m), Nat.testBit_two_pow_mul, Nat.testBit_two_pow_mul, Nat.testBit_two_pow_mul, Nat.testBit_xor]
    cases decide (j ≥ 8) <;> simp
  | [], _ :: _, h, _, _ => by simp at h
  | _ :: _, [], h, _, _ => by simp at h
theorem lx_len (a b : List Int) (h : a.length = b.length) : (lx a b).length = a.length := by simp [lx, h]
theorem lx_getD (a b : List Int) (k : Nat) (ha : k < a.length) (hb : k < b.length) : (lx a b).getD k 0 = bx (a.getD k 0) (b.getD k 0) := by
  have : k < (List.zipWith bx a b).length := by simp; omega
  simp [lx, List.getD, ha, hb, List.getElem?_eq_getElem this]
theorem bts_lx (a b : List Int) (h : a.length = b.length) (ha : Bts a) (hb : Bts b) : Bts (lx a b) := fun j hj => by
  rw [lx_len a b h] at hj
  rw [lx_getD a b j hj (by omega)]
  have h1 := ha j hj
  have h2 := hb j (by omega)
  exact bx_bd _ _ h1.1 h1.2 h2.1 h2.2
theorem xor_ff (a b c f : Nat) : f ^^^ (a ^^^ b ^^^ c) = (f ^^^ a) ^^^ (f ^^^ b) ^^^ (f ^^^ c) := by
  apply Nat.eq_of_testBit_eq
  intro j
  simp only [Nat.testBit_xor]
  cases f.testBit j <;> cases a.testBit j <;> cases b.testBit j <;> cases c.testBit j <;> rfl
/-- THE SUM OF THREE TEXTS OF ONE LENGTH, HELD AGAINST ONE ANOTHER. -/
theorem sum_lx (a b c : List Int) (h1 : a.length = b.length) (h2 : b.length = c.length) (ha : Bts a) (hb : Bts b) (hc : Bts c) : S (lx (lx a b) c) = S a ^^^ S b ^^^ S c := by
  have hl : (lx a b).length = c.length := by rw [lx_len a b h1]; omega
  have hl2 : (lx (lx a b) c).length = a.length := by rw [lx_len _ _ hl, lx_len a b h1]
  unfold S
  rw [nm_lx _ _ hl (bts_lx a b h1 ha hb) hc, nm_lx a b h1 ha hb, hl2, ← h2, ← h1, xor_ff (nm a), Bn_xor, Bn_xor, xor_ff]
/-- A number's bytes, the lowest first. -/
def l4 (s : Int) : List Int := [s % 256, s / 256 % 256, s / 65536 % 256, s / 16777216]
theorem nm_l4 (s : Nat) (h : s < 2 ^ 32) : nm (l4 s) = s := by
  simp only [nm, l4]; omega
theorem bts_l4 (s : Nat) (h : s < 2 ^ 32) : Bts (l4 s) := by
  intro j hj
  match j, hj with
  | 0, _ => simp only [l4, List.getD]; simp; omega
  | 1, _ => simp only [l4, List.getD]; simp; omega
  | 2, _ => simp only [l4, List.getD]; simp; omega
  | 3, _ => simp only [l4, List.getD]; simp; omega
theorem residue0 : 0xffffffff ^^^ Bn 32 0xffffffff = 0x2144df1c := by decide +kernel
/-- A TEXT WITH ITS SUM BEHIND IT. -/
theorem sum_res (l : List Int) : (sumOf (l ++ l4 ((sumOf l).toNat : Int))).toNat = 0x2144df1c := by
  have hs := (sumOf l).isLt
  have e : (sumOf l).toNat = 0xffffffff ^^^ (regs 0xffffffff#32 l).toNat := not_nat _
  unfold sumOf at *
  rw [not_nat, regs_append, regs_nat _ _ (bts_l4 _ hs), nm_l4 _ hs, e, Nat.xor_comm 4294967295 (regs _ l).toNat, ← Nat.xor_assoc, Nat.xor_self, Nat.zero_xor]
  exact residue0
theorem xor_cancel {a b c : Nat} (h : a ^^^ b = a ^^^ c) : b = c := by
  have := congrArg (a ^^^ ·) h
  simpa [← Nat.xor_assoc] using this
theorem xor_eq {a b : Nat} (h : a ^^^ b = 0) : a = b := by
  have := congrArg (a ^^^ ·) h
  simp [← Nat.xor_assoc] at this
  exact this.symm
/-- TEXTS THAT DIFFER IN UP TO 32 BITS SIDE BY SIDE. -/
theorem sum_burst (b c : List Int) (V t : Nat) (hl : b.length = c.length) (hx : nm b ^^^ nm c = V * 2 ^ t) (ht : t ≤ 8 * b.length) (hV : V < 2 ^ 32) (h : S b = S c) : V = 0 := by
  unfold S at h
  have h1 := xor_cancel h
  rw [← hl] at h1
  have h2 : Bn (8 * b.length) (nm b ^^^ nm c) = 0 := by
    have e : nm b ^^^ nm c = (0xffffffff ^^^ nm b) ^^^ (0xffffffff ^^^ nm c) := by rw [xor_swap, Nat.xor_self, Nat.zero_xor]
    rw [e, Bn_xor, h1, Nat.xor_self]
  rw [hx, show 8 * b.length = t + (8 * b.length - t) by omega, Bn_add, Bn_pow] at h2
  by_cases h0 : V = 0
  · exact h0
  · exact absurd h2 (Bn_ne _ _ hV h0)
theorem nm_inj : ∀ a b : List Int, a.length = b.length → Bts a → Bts b → nm a = nm b → a = b
  | [], [], _, _, _, _ => rfl
  | c :: l, d :: m, h, ha, hb, e => by
    obtain ⟨a0, a1, a2⟩ := bts_cons ha
    obtain ⟨b0, b1, b2⟩ := bts_cons hb
    simp only [nm] at e
    have h1 : c = d := by omega
    have h2 : nm l = nm m := by omega
    rw [h1, nm_inj l m (by simpa using h) a2 b2 h2]
  | [], _ :: _, h, _, _, _ => by simp at h
  | _ :: _, [], h, _, _, _ => by simp at h

end Go.Proofs.YtilpehbbjhignaaDoor
