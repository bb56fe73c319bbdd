/-
  The contracts of the document's own sum.
-/
import Derived.Test.YtilpehbbjhignaaDoorTwin
import Derived.Test.YtilpehbbjhignaaDoorLin
namespace Go.Proofs.YtilpehbbjhignaaDoor
open Go.RowKit
set_option linter.unusedVariables false

theorem and1_u32 (n : Nat) (h : n < 2 ^ 32) : Go.bits .and .u32 (n : Int) 1 = ((n % 2 : Nat) : Int) := by
  show IntKind.u32.wrap ((BitVec.ofInt 32 (n : Int) &&& BitVec.ofInt 32 1).toNat : Int) = _
  rw [BitVec.ofInt_natCast, BitVec.toNat_and, BitVec.toNat_ofNat, show (BitVec.ofInt 32 1).toNat = 2 ^ 1 - 1 by decide, Nat.and_two_pow_sub_one_eq_mod, IntKind.wrap_u32]
  omega
theorem xor_nat32 (a b : Nat) (ha : a < 2 ^ 32) (hb : b < 2 ^ 32) : Go.bits .xor .u32 (a : Int) (b : Int) = ((a ^^^ b : Nat) : Int) := by
  show IntKind.u32.wrap ((BitVec.ofInt 32 (a : Int) ^^^ BitVec.ofInt 32 (b : Int)).toNat : Int) = _
  have h := Nat.xor_lt_two_pow ha hb
  rw [BitVec.ofInt_natCast, BitVec.ofInt_natCast, BitVec.toNat_xor, BitVec.toNat_ofNat, BitVec.toNat_ofNat, Nat.mod_eq_of_lt ha, Nat.mod_eq_of_lt hb, IntKind.wrap_u32]
  omega
/-- k bits of a byte, taken in one by one. -/
def bitsIn (r c : Nat) : Nat → Nat
  | 0 => r
  | k + 1 => B (bitsIn r c k ^^^ (c / 2 ^ k % 2))
theorem B_half (n b : Nat) (hb : b < 2) : B (n ^^^ b) = if n % 2 = b then n / 2 else n / 2 ^^^ 0xedb88320 := by
  have h : (n ^^^ b) % 2 = (n % 2) ^^^ (b % 2) := Nat.xor_mod_two_pow (n := 1)
  unfold B
  rw [Nat.xor_div_two, h, show b / 2 = 0 by omega, Nat.xor_zero, show b % 2 = b by omega]
  have h2 : n % 2 < 2 := Nat.mod_lt _ (by decide)
  rcases Nat.mod_two_eq_zero_or_one n with h1 | h1 <;> (rw [h1]; match b, hb with | 0, _ => simp | 1, _ => simp)
theorem bitsIn_lt (r c : Nat) (h : r < 2 ^ 32) : ∀ k, bitsIn r c k < 2 ^ 32
  | 0 => h
  | k + 1 => B_lt _ (Nat.xor_lt_two_pow (bitsIn_lt r c h k) (Nat.lt_trans (Nat.mod_lt _ (by decide)) (by decide)))
theorem bitsIn_eq (r c : Nat) : ∀ k, Bn k (r ^^^ (c % 2 ^ k)) = bitsIn r c k
  | 0 => by simp [Bn, bitsIn, Nat.mod_one]
  | k + 1 => by
    have e : c % 2 ^ (k + 1) = (c % 2 ^ k) ^^^ ((c / 2 ^ k % 2) * 2 ^ k) := by
      rw [Nat.xor_comm, ← mul_xor k _ _ (Nat.mod_lt _ (Nat.pow_pos (by decide))), Nat.pow_succ, Nat.mod_mul, Nat.mul_comm, Nat.add_comm]
    rw [e, ← Nat.xor_assoc, Bn_add k 1, Bn_xor, bitsIn_eq r c k, Bn_pow]
    rfl
theorem upd_bits (r : BitVec 32) (c : Nat) (h : c < 256) : ((upd r (c : Int)).toNat) = bitsIn r.toNat c 8 := by
  rw [upd_nat r _ (by omega) (by omega), ← bitsIn_eq, Nat.mod_eq_of_lt (by exact h)]; rfl
theorem shr_bit (c k : Nat) : (c : Int) / 2 ^ k = ((c / 2 ^ k : Nat) : Int) := by
  rw [Int.natCast_ediv, Int.natCast_pow]; rfl

theorem bne_cast {a b : Nat} (h : a ≠ b) : ((a : Int) != (b : Int)) = true := by
  simp only [bne_iff_ne, ne_eq]; omega
set_option maxHeartbeats 400000 in
theorem ref_some (b o len cap : Nat) (zs : List Int) (w : World) (hl : zs.length = len) (hm : len ≤ 1000000) (hr : Rd w (some ⟨b, o, none⟩) zs) (hz : Bts zs) :
    Calls Tryd.prog 13 #[.slice (some ⟨b, o, none⟩) len cap] w fun e w' => e = .returned (.int .u32 ((sumOf zs).toNat : Int)) ∧ w = w' := by
  have HL := Lib.hid hl; have HR := Lib.hid hr; have HZ := Lib.hid hz
  clear hl hr hz
  go_enter Tryd.func13, Tryd.ntmps13
  go_wp2
  go_loop [3, 4] (fun g i => ∃ k : Nat, k ≤ len ∧ i = .int .i64 k ∧ g = .int .u32 ((regs 0xffffffff#32 (zs.take k)).toNat : Int)) (fun _ i => len - (intOf i).toNat)
  case atStart => exact ⟨0, Nat.zero_le _, rfl, rfl⟩
  case round =>
    obtain ⟨k, hk, rfl, rfl⟩ := hrel
    by_cases hlt : k < len
    · obtain ⟨b', o', e, hcc⟩ := HR.out.at (by rw [HL.out]; omega)
      cases e
      have hcell := hcc k (by rw [HL.out]; exact hlt)
      have hbd := HZ.out k (by rw [HL.out]; exact hlt)
      have HN := Lib.hid (regs_take 0xffffffff#32 zs k (by rw [HL.out]; exact hlt))
      generalize zs.getD k 0 = c0 at hcell hbd HN
      obtain ⟨c, rfl⟩ : ∃ c : Nat, c0 = (c : Int) := ⟨c0.toNat, by omega⟩
      have hc : c < 256 := by omega
      obtain ⟨X, hX⟩ : ∃ X, X = regs 0xffffffff#32 (zs.take k) := ⟨_, rfl⟩
      rw [← hX] at HN ⊢
      have HU := Lib.hid (upd_bits X c hc)
      have hx := X.isLt
      clear hcc hX
      go_wp2
      go_loop [3, 5] (fun g i => ∃ j : Nat, j ≤ 8 ∧ i = .int .i64 j ∧ g = .int .u32 ((bitsIn X.toNat c j : Nat) : Int)) (fun _ i => 8 - (intOf i).toNat)
      case atStart => exact ⟨0, Nat.zero_le _, rfl, rfl⟩
      case round =>
        obtain ⟨j, hj, rfl, rfl⟩ := hrel
        have hlt := bitsIn_lt X.toNat c hx j
        obtain ⟨r, hrr⟩ : ∃ r, r = bitsIn X.toNat c j := ⟨_, rfl⟩
        have HS : Hid (bitsIn X.toNat c (j + 1) = if r % 2 = c / 2 ^ j % 2 then r / 2 else r / 2 ^^^ 0xedb88320) := by
          show _ = _
          rw [hrr]; exact B_half _ _ (Nat.mod_lt _ (by decide))
        have HRR := Lib.hid hrr
        rw [← hrr] at hlt ⊢
        clear hrr
        by_cases hj8 : j < 8
        · have e1 : Go.bits .and .u32 (r : Int) 1 = ((r % 2 : Nat) : Int) := and1_u32 r hlt
          have e2 : Go.bits .and .u32 ((c : Int) / 2 ^ j % 4294967296) 1 = ((c / 2 ^ j % 2 : Nat) : Int) := by
            have h1 : c / 2 ^ j ≤ c := Nat.div_le_self _ _
            rw [shr_bit]
            generalize c / 2 ^ j = m at h1 ⊢
            rw [show ((m : Int) % 4294967296) = (m : Int) by omega]
            exact and1_u32 _ (by omega)
          have e3 : Go.bits .xor .u32 ((r : Int) / 2) 3988292384 = ((r / 2 ^^^ 0xedb88320 : Nat) : Int) := by
            have := xor_nat32 (r / 2) 0xedb88320 (by omega) (by decide)
            rw [← this]; congr 1
          by_cases hb : r % 2 = c / 2 ^ j % 2
          · have d : (Go.bits .and .u32 (r : Int) 1 != Go.bits .and .u32 ((c : Int) / 2 ^ j % 4294967296) 1) = false := by
              rw [e1, e2, hb]; simp
            rw [if_pos hb] at HS
            clear e1 e2 e3 hb
            go_wp2
            go_round
            case rel => exact ⟨j + 1, by omega, by go_num, by rw [HS.out]; rfl⟩
            case measure => simp [intOf]; omega
          · have d : (Go.bits .and .u32 (r : Int) 1 != Go.bits .and .u32 ((c : Int) / 2 ^ j % 4294967296) 1) = true := by
              rw [e1, e2]; exact bne_cast hb
            rw [if_neg hb] at HS
            have HE := Lib.hid e3
            clear e1 e2 e3 hb
            go_wp2
            go_round
            case rel => exact ⟨j + 1, by omega, by go_num, by rw [HS.out, HE.out]⟩
            case measure => simp [intOf]; omega
        · obtain rfl : j = 8 := by omega
          clear HS
          go_wp2
          go_round
          case rel => exact ⟨k + 1, by omega, by go_num, by rw [HN.out, HU.out, ← HRR.out]⟩
          case measure => simp [intOf]; omega
    · obtain rfl : k = len := by omega
      rw [List.take_of_length_le (by rw [HL.out]; exact Nat.le_refl _)]
      have e : Go.bits .xor .u32 ((regs 0xffffffff#32 zs).toNat : Int) 4294967295 = ((sumOf zs).toNat : Int) := by
        have := xor_nat32 (regs 0xffffffff#32 zs).toNat 0xffffffff (regs 0xffffffff#32 zs).isLt (by decide)
        rw [show ((4294967295 : Int)) = ((0xffffffff : Nat) : Int) by rfl, this]
        unfold sumOf
        rw [not_nat, Nat.xor_comm]
      have hx := (regs 0xffffffff#32 zs).isLt
      have HE := Lib.hid e
      clear e
      go_wp2
      go_ret
      exact ⟨by rw [← HE.out]; rfl, rfl⟩

theorem ref_zero (ao : Option Addr) (cap : Nat) (w : World) : Calls Tryd.prog 13 #[.slice ao 0 cap] w fun e w' => e = .returned (.int .u32 ((sumOf []).toNat : Int)) ∧ w = w' := by
  go_enter Tryd.func13, Tryd.ntmps13
  go_wp2
  refine wp_loop_rounds 1 ?_
  rw [rounds_succ]
  go_wp2
  go_ret
  exact ⟨rfl, rfl⟩
/-- THE DOCUMENT'S SUM. -/
theorem ref_any (ao : Option Addr) (len cap : Nat) (zs : List Int) (w : World) (hl : zs.length = len) (hm : len ≤ 1000000) (hr : Rd w ao zs) (hz : Bts zs) :
    Calls Tryd.prog 13 #[.slice ao len cap] w fun e w' => e = .returned (.int .u32 ((sumOf zs).toNat : Int)) ∧ w = w' := by
  rcases hr with rfl | ⟨b, o, rfl, hc⟩
  · obtain rfl : len = 0 := hl.symm
    exact ref_zero ao cap w
  · exact ref_some b o len cap zs w hl hm (.inr ⟨b, o, rfl, hc⟩) hz

theorem refsum_any (ao : Option Addr) (len cap : Nat) (zs : List Int) (w : World) (s : Int) (hs : s = ((sumOf zs).toNat : Int)) (hl : zs.length = len) (hm : len ≤ 1000000) (hr : Rd w ao zs) (hz : Bts zs) :
    Calls Tryd.prog 15 #[.slice ao len cap] w fun e w' => ∃ g, e = .returned (.slice (some ⟨g, 0, none⟩) 4 4) ∧ Rd w' (some ⟨g, 0, none⟩) (l4 s) ∧ Below w.heap.size w w' := by
  have HR := Lib.hid (ref_any ao len cap zs w hl hm hr hz)
  rw [← hs] at HR
  have hlt : 0 ≤ s ∧ s < 4294967296 := by rw [hs]; have := (sumOf zs).isLt; omega
  obtain ⟨h0, h1⟩ := hlt
  have hN : Hid (Rd (w.alloc (.cells #[.int .u8 (s % 256), .int .u8 (s / 256 % 256), .int .u8 (s / 65536 % 256), .int .u8 (s / 16777216)] 5)) (some ⟨w.heap.size, 0, none⟩) (l4 s)) := by
    have := (part_new w (l4 s) 5 (0, 0) (by rw [hs]; exact bts_l4 _ (sumOf zs).isLt) (by simp [l4, maxLen])).rd
    exact this
  clear hs hl hm hr hz
  go_enter Tryd.func15, Tryd.ntmps15
  go_wp2_with (go_at_call 13; refine HR.out.mono ?_; rintro e w1 ⟨rfl, rfl⟩)
  go_ret
  exact ⟨_, rfl, hN.out, (Below.refl _ _).alloc (Nat.le_refl _) _⟩

end Go.Proofs.YtilpehbbjhignaaDoor
