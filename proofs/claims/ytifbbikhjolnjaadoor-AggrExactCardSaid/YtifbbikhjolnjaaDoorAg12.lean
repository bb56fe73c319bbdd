/-
  Aggregates: the document's own frame (Frame's seat's texts with the numbers turned).
-/
import Derived.Test.YtifbbikhjolnjaaDoorFrame9
import Derived.Test.YtifbbikhjolnjaaDoorFrame15
import Derived.Deep.RegionHeld3
import Derived.Deep.AppendLies
import Derived.Laws.AppendOwnNone
namespace Go.Proofs.YtifbbikhjolnjaaDoor
open Go.RowKit
set_option linter.unusedVariables false

theorem xor_swap (a b c d : Nat) : (a ^^^ b) ^^^ (c ^^^ d) = (a ^^^ c) ^^^ (b ^^^ d) := by
  rw [Nat.xor_assoc, ← Nat.xor_assoc b, Nat.xor_comm b c, Nat.xor_assoc c, ← Nat.xor_assoc a]
theorem B_xor (a b : Nat) : B (a ^^^ b) = B a ^^^ B b := by
  unfold B
  rw [Nat.xor_div_two, xor_swap]
  congr 1
  have h : (a ^^^ b) % 2 = (a % 2) ^^^ (b % 2) := Nat.xor_mod_two_pow (n := 1)
  rw [h]
  rcases Nat.mod_two_eq_zero_or_one a with h1 | h1 <;> rcases Nat.mod_two_eq_zero_or_one b with h2 | h2 <;> rw [h1, h2] <;> decide
theorem Bn_xor : ∀ (k a b : Nat), Bn k (a ^^^ b) = Bn k a ^^^ Bn k b
  | 0, _, _ => rfl
  | k + 1, a, b => by show Bn k (B _) = _; rw [B_xor, Bn_xor k]; rfl
theorem Bn_add : ∀ (j k n : Nat), Bn (j + k) n = Bn k (Bn j n)
  | 0, k, n => by rw [Nat.zero_add]; rfl
  | j + 1, k, n => by rw [show j + 1 + k = (j + k) + 1 by omega]; show Bn (j + k) (B n) = _; rw [Bn_add j k]; rfl
theorem B_even (m : Nat) : B (m * 2) = m := by unfold B; rw [if_neg (by omega), Nat.xor_zero]; omega
theorem Bn_pow : ∀ (k m : Nat), Bn k (m * 2 ^ k) = m
  | 0, m => by simp [Bn]
  | k + 1, m => by
    show Bn k (B _) = m
    rw [Nat.pow_succ, ← Nat.mul_assoc, B_even, Bn_pow k m]
theorem B_lt (n : Nat) (h : n < 2 ^ 32) : B n < 2 ^ 32 := by
  unfold B
  refine Nat.xor_lt_two_pow (by omega) ?_
  split <;> decide
theorem mul_xor (k q t : Nat) (h : t < 2 ^ k) : q * 2 ^ k + t = (q * 2 ^ k) ^^^ t := by
  apply Nat.eq_of_testBit_eq
  intro j
  rw [Nat.mul_comm, Nat.testBit_two_pow_mul_add q h, Nat.testBit_xor, Nat.testBit_two_pow_mul]
  by_cases hj : j < k
  · simp [hj, show ¬ k ≤ j by omega]
  · have : t.testBit j = false := Nat.testBit_lt_two_pow (Nat.lt_of_lt_of_le h (Nat.pow_le_pow_right (by decide) (by omega)))
    simp [hj, this, show k ≤ j by omega]
theorem tb_bits : ∀ t : Fin 16, (tb t.val).toNat = Bn 4 t.val := by decide +kernel
theorem half_nat (r : BitVec 32) : (half r).toNat = Bn 4 r.toNat := by
  have e : r.toNat = (r.toNat / 16) * 2 ^ 4 + r.toNat % 16 := by omega
  have hx := mul_xor 4 (r.toNat / 16) (r.toNat % 16) (Nat.mod_lt _ (by decide))
  unfold half
  rw [BitVec.toNat_xor, BitVec.toNat_ushiftRight, Nat.shiftRight_eq_div_pow]
  conv => rhs; rw [e, hx, Bn_xor, Bn_pow]
  rw [← tb_bits ⟨r.toNat % 16, Nat.mod_lt _ (by decide)⟩]
theorem upd_nat (r : BitVec 32) (c : Int) (h0 : 0 ≤ c) (h1 : c ≤ 255) : (upd r c).toNat = Bn 8 (r.toNat ^^^ c.toNat) := by
  unfold upd
  rw [half_nat, half_nat, BitVec.toNat_xor, BitVec.toNat_ofInt, ← Bn_add 4 4]
  congr 2
  omega
theorem not_nat (r : BitVec 32) : (~~~ r).toNat = 0xffffffff ^^^ r.toNat := by
  have h : ~~~ r = 0xffffffff#32 ^^^ r := by
    have : (0xffffffff#32) = BitVec.allOnes 32 := by decide
    rw [this, BitVec.allOnes_xor]
  rw [h, BitVec.toNat_xor]; rfl
theorem and1_u32 (n : Nat) (h : n < 2 ^ 32) : Go.bits .and .u32 (n : Int) 1 = ((n % 2 : Nat) : Int) := by
  show IntKind.u32.wrap ((BitVec.ofInt 32 (n : Int) &&& BitVec.ofInt 32 1).toNat : Int) = _
  rw [BitVec.ofInt_natCast, BitVec.toNat_and, BitVec.toNat_ofNat, show (BitVec.ofInt 32 1).toNat = 2 ^ 1 - 1 by decide, Nat.and_two_pow_sub_one_eq_mod, IntKind.wrap_u32]
  omega
theorem xor_nat32 (a b : Nat) (ha : a < 2 ^ 32) (hb : b < 2 ^ 32) : Go.bits .xor .u32 (a : Int) (b : Int) = ((a ^^^ b : Nat) : Int) := by
  show IntKind.u32.wrap ((BitVec.ofInt 32 (a : Int) ^^^ BitVec.ofInt 32 (b : Int)).toNat : Int) = _
  have h := Nat.xor_lt_two_pow ha hb
  rw [BitVec.ofInt_natCast, BitVec.ofInt_natCast, BitVec.toNat_xor, BitVec.toNat_ofNat, BitVec.toNat_ofNat, Nat.mod_eq_of_lt ha, Nat.mod_eq_of_lt hb, IntKind.wrap_u32]
  omega
/-- k bits of a byte, taken in one by one. -/
def bitsIn (r c : Nat) : Nat → Nat
  | 0 => r
  | k + 1 => B (bitsIn r c k ^^^ (c / 2 ^ k % 2))
theorem B_half (n b : Nat) (hb : b < 2) : B (n ^^^ b) = if n % 2 = b then n / 2 else n / 2 ^^^ 0xedb88320 := by
  have h : (n ^^^ b) % 2 = (n % 2) ^^^ (b % 2) := Nat.xor_mod_two_pow (n := 1)
  unfold B
  rw [Nat.xor_div_two, h, show b / 2 = 0 by omega, Nat.xor_zero, show b % 2 = b by omega]
  have h2 : n % 2 < 2 := Nat.mod_lt _ (by decide)
  rcases Nat.mod_two_eq_zero_or_one n with h1 | h1 <;> (rw [h1]; match b, hb with | 0, _ => simp | 1, _ => simp)
theorem bitsIn_lt (r c : Nat) (h : r < 2 ^ 32) : ∀ k, bitsIn r c k < 2 ^ 32
  | 0 => h
  | k + 1 => B_lt _ (Nat.xor_lt_two_pow (bitsIn_lt r c h k) (Nat.lt_trans (Nat.mod_lt _ (by decide)) (by decide)))
theorem bitsIn_eq (r c : Nat) : ∀ k, Bn k (r ^^^ (c % 2 ^ k)) = bitsIn r c k
  | 0 => by simp [Bn, bitsIn, Nat.mod_one]
  | k + 1 => by
    have e : c % 2 ^ (k + 1) = (c % 2 ^ k) ^^^ ((c / 2 ^ k % 2) * 2 ^ k) := by
      rw [Nat.xor_comm, ← mul_xor k _ _ (Nat.mod_lt _ (Nat.pow_pos (by decide))), Nat.pow_succ, Nat.mod_mul, Nat.mul_comm, Nat.add_comm]
    rw [e, ← Nat.xor_assoc, Bn_add k 1, Bn_xor, bitsIn_eq r c k, Bn_pow]
    rfl
theorem upd_bits (r : BitVec 32) (c : Nat) (h : c < 256) : ((upd r (c : Int)).toNat) = bitsIn r.toNat c 8 := by
  rw [upd_nat r _ (by omega) (by omega), ← bitsIn_eq, Nat.mod_eq_of_lt (by exact h)]; rfl
theorem shr_bit (c k : Nat) : (c : Int) / 2 ^ k = ((c / 2 ^ k : Nat) : Int) := by
  rw [Int.natCast_ediv, Int.natCast_pow]; rfl
theorem bne_cast {a b : Nat} (h : a ≠ b) : ((a : Int) != (b : Int)) = true := by
  simp only [bne_iff_ne, ne_eq]; omega
set_option maxHeartbeats 400000 in
theorem ref_some (b o len cap : Nat) (zs : List Int) (w : World) (hl : zs.length = len) (hm : len ≤ 1000000) (hr : Rd w (some ⟨b, o, none⟩) zs) (hz : Bts zs) :
    Calls Tryd.prog 43 #[.slice (some ⟨b, o, none⟩) len cap] w fun e w' => e = .returned (.int .u32 ((sumOf zs).toNat : Int)) ∧ w = w' := by
  have HL := Lib.hid hl; have HR := Lib.hid hr; have HZ := Lib.hid hz
  clear hl hr hz
  go_enter Tryd.func43, Tryd.ntmps43
  go_wp2
  go_loop [3, 4] (fun g i => ∃ k : Nat, k ≤ len ∧ i = .int .i64 k ∧ g = .int .u32 ((regs 0xffffffff#32 (zs.take k)).toNat : Int)) (fun _ i => len - (intOf i).toNat)
  case atStart => exact ⟨0, Nat.zero_le _, rfl, rfl⟩
  case round =>
    obtain ⟨k, hk, rfl, rfl⟩ := hrel
    by_cases hlt : k < len
    · obtain ⟨b', o', e, hcc⟩ := HR.out.at (by rw [HL.out]; omega)
      cases e
      have hcell := hcc k (by rw [HL.out]; exact hlt)
      have hbd := HZ.out k (by rw [HL.out]; exact hlt)
      have HN := Lib.hid (regs_take 0xffffffff#32 zs k (by rw [HL.out]; exact hlt))
      generalize zs.getD k 0 = c0 at hcell hbd HN
      obtain ⟨c, rfl⟩ : ∃ c : Nat, c0 = (c : Int) := ⟨c0.toNat, by omega⟩
      have hc : c < 256 := by omega
      obtain ⟨X, hX⟩ : ∃ X, X = regs 0xffffffff#32 (zs.take k) := ⟨_, rfl⟩
      rw [← hX] at HN ⊢
      have HU := Lib.hid (upd_bits X c hc)
      have hx := X.isLt
      clear hcc hX
      go_wp2
      go_loop [3, 5] (fun g i => ∃ j : Nat, j ≤ 8 ∧ i = .int .i64 j ∧ g = .int .u32 ((bitsIn X.toNat c j : Nat) : Int)) (fun _ i => 8 - (intOf i).toNat)
      case atStart => exact ⟨0, Nat.zero_le _, rfl, rfl⟩
      case round =>
        obtain ⟨j, hj, rfl, rfl⟩ := hrel
        have hlt := bitsIn_lt X.toNat c hx j
        obtain ⟨r, hrr⟩ : ∃ r, r = bitsIn X.toNat c j := ⟨_, rfl⟩
        have HS : Hid (bitsIn X.toNat c (j + 1) = if r % 2 = c / 2 ^ j % 2 then r / 2 else r / 2 ^^^ 0xedb88320) := by
          show _ = _
          rw [hrr]; exact B_half _ _ (Nat.mod_lt _ (by decide))
        have HRR := Lib.hid hrr
        rw [← hrr] at hlt ⊢
        clear hrr
        by_cases hj8 : j < 8
        · have e1 : Go.bits .and .u32 (r : Int) 1 = ((r % 2 : Nat) : Int) := and1_u32 r hlt
          have e2 : Go.bits .and .u32 ((c : Int) / 2 ^ j % 4294967296) 1 = ((c / 2 ^ j % 2 : Nat) : Int) := by
            have h1 : c / 2 ^ j ≤ c := Nat.div_le_self _ _
            rw [shr_bit]
            generalize c / 2 ^ j = m at h1 ⊢
            rw [show ((m : Int) % 4294967296) = (m : Int) by omega]
            exact and1_u32 _ (by omega)
          have e3 : Go.bits .xor .u32 ((r : Int) / 2) 3988292384 = ((r / 2 ^^^ 0xedb88320 : Nat) : Int) := by
            have := xor_nat32 (r / 2) 0xedb88320 (by omega) (by decide)
            rw [← this]; congr 1
          by_cases hb : r % 2 = c / 2 ^ j % 2
          · have d : (Go.bits .and .u32 (r : Int) 1 != Go.bits .and .u32 ((c : Int) / 2 ^ j % 4294967296) 1) = false := by
              rw [e1, e2, hb]; simp
            rw [if_pos hb] at HS
            clear e1 e2 e3 hb
            go_wp2
            go_round
            case rel => exact ⟨j + 1, by omega, by go_num, by rw [HS.out]; rfl⟩
            case measure => simp [intOf]; omega
          · have d : (Go.bits .and .u32 (r : Int) 1 != Go.bits .and .u32 ((c : Int) / 2 ^ j % 4294967296) 1) = true := by
              rw [e1, e2]; exact bne_cast hb
            rw [if_neg hb] at HS
            have HE := Lib.hid e3
            clear e1 e2 e3 hb
            go_wp2
            go_round
            case rel => exact ⟨j + 1, by omega, by go_num, by rw [HS.out, HE.out]⟩
            case measure => simp [intOf]; omega
        · obtain rfl : j = 8 := by omega
          clear HS
          go_wp2
          go_round
          case rel => exact ⟨k + 1, by omega, by go_num, by rw [HN.out, HU.out, ← HRR.out]⟩
          case measure => simp [intOf]; omega
    · obtain rfl : k = len := by omega
      rw [List.take_of_length_le (by rw [HL.out]; exact Nat.le_refl _)]
      have e : Go.bits .xor .u32 ((regs 0xffffffff#32 zs).toNat : Int) 4294967295 = ((sumOf zs).toNat : Int) := by
        have := xor_nat32 (regs 0xffffffff#32 zs).toNat 0xffffffff (regs 0xffffffff#32 zs).isLt (by decide)
        rw [show ((4294967295 : Int)) = ((0xffffffff : Nat) : Int) by rfl, this]
        unfold sumOf
        rw [not_nat, Nat.xor_comm]
      have hx := (regs 0xffffffff#32 zs).isLt
      have HE := Lib.hid e
      clear e
      go_wp2
      go_ret
      exact ⟨by rw [← HE.out]; rfl, rfl⟩
theorem ref_zero (ao : Option Addr) (cap : Nat) (w : World) : Calls Tryd.prog 43 #[.slice ao 0 cap] w fun e w' => e = .returned (.int .u32 ((sumOf []).toNat : Int)) ∧ w = w' := by
  go_enter Tryd.func43, Tryd.ntmps43
  go_wp2
  refine wp_loop_rounds 1 ?_
  rw [rounds_succ]
  go_wp2
  go_ret
  exact ⟨rfl, rfl⟩
/-- THE DOCUMENT'S SUM. -/
theorem ref_any (ao : Option Addr) (len cap : Nat) (zs : List Int) (w : World) (hl : zs.length = len) (hm : len ≤ 1000000) (hr : Rd w ao zs) (hz : Bts zs) :
    Calls Tryd.prog 43 #[.slice ao len cap] w fun e w' => e = .returned (.int .u32 ((sumOf zs).toNat : Int)) ∧ w = w' := by
  rcases hr with rfl | ⟨b, o, rfl, hc⟩
  · obtain rfl : len = 0 := hl.symm
    exact ref_zero ao cap w
  · exact ref_some b o len cap zs w hl hm (.inr ⟨b, o, rfl, hc⟩) hz
theorem refsum_any (ao : Option Addr) (len cap : Nat) (zs : List Int) (w : World) (s : Int) (hs : s = ((sumOf zs).toNat : Int)) (hl : zs.length = len) (hm : len ≤ 1000000) (hr : Rd w ao zs) (hz : Bts zs) :
    Calls Tryd.prog 41 #[.slice ao len cap] w fun e w' => ∃ g, e = .returned (.slice (some ⟨g, 0, none⟩) 4 4) ∧ Rd w' (some ⟨g, 0, none⟩) (l4 s) ∧ Below w.heap.size w w' := by
  have HR := Lib.hid (ref_any ao len cap zs w hl hm hr hz)
  rw [← hs] at HR
  have hlt : 0 ≤ s ∧ s < 4294967296 := by rw [hs]; have := (sumOf zs).isLt; omega
  obtain ⟨h0, h1⟩ := hlt
  have hN : Hid (Rd (w.alloc (.cells #[.int .u8 (s % 256), .int .u8 (s / 256 % 256), .int .u8 (s / 65536 % 256), .int .u8 (s / 16777216)] 5)) (some ⟨w.heap.size, 0, none⟩) (l4 s)) := by
    have := (part_new w (l4 s) 5 (0, 0) (by rw [hs]; exact bts_l4 _ (sumOf zs).isLt) (by simp [l4, maxLen])).rd
    exact this
  clear hs hl hm hr hz
  go_enter Tryd.func41, Tryd.ntmps41
  go_wp2_with (go_at_call 43; refine HR.out.mono ?_; rintro e w1 ⟨rfl, rfl⟩)
  go_ret
  exact ⟨_, rfl, hN.out, (Below.refl _ _).alloc (Nat.le_refl _) _⟩
theorem be_one (v : Int) (h0 : 0 ≤ v) (h1 : v < 256) : be v.toNat 1 = [v] := by
  simp [be, digit, List.range_succ]
  omega
theorem step_append_bytes {w : World} {ops : Array Oper} {o : Oper} {a : Act} {K : Act → World → Prop} {Q : Exit → Act → World → Prop} {E : Prop} (hgd : o.guard = none) (s x : Operand)
    (ho : o.op = .call { callee := .builtin .append, args := #[s, x], argTypes := #[39, 39] })
    (base n kc m mc : Nat) (ko : Option Addr) (ad : Addr) (xs ys : List Int) (hs : a.eval s = .slice ko n kc) (hown : Ow w base ko n kc xs) (hx : a.eval x = .slice (some ad) m mc) (hr : Rd w (some ad) ys) (hl : ys.length = m)
    (hm : n + m ≤ 1000000000) (hb : base ≤ w.heap.size)
    (h : ∀ ko' kc' w', Ow w' base ko' (n + m) kc' (xs ++ ys) → Below base w w' → K (a.put o.dst (.slice ko' (n + m) kc')) w') :
    if Region.wanted o (yielded ops a.tmps) = true then Oper.wp Tryd.prog o a w K Q else E := by
  obtain ⟨i0, hi, hz0, hz1, hz2⟩ := info_parts Tryd.info5
  have hlx := hown.1
  have hw : Region.wanted o (yielded ops a.tmps) = true := by simp [Region.wanted, hgd]
  rw [if_pos hw]
  refine wp_append_own w s x 39 ho base 5 i0 (.int .u8 0) 1 1 Tryd.underlying39 hi hz0 hz1 hz2 rfl (by decide) _ n _ hs hown.2.2.2 ad m mc (ys.map (.int .u8)) hx (by simp [hl]) (hr.cells ad rfl) (ints_oneCell _ _) (by unfold maxLen; omega) (by omega) hb ?_
  intro v' w' ho' hg' _
  rw [← List.map_append] at ho'
  obtain ⟨ko', kc', rfl, how⟩ := Ow.of (by simp [hlx, hl]) ho'
  exact h ko' kc' w' how (Below.grown (Below.refl _ _) hg' hb (own_ge hown.2.2.2))
theorem be_take_succ (n size k : Nat) (hk : k < size) : (be n size).take (k + 1) = (be n size).take k ++ [digit n size k] := by
  rw [List.take_succ_eq_append_getElem (by rw [be_length]; exact hk)]
  congr 2
  have := be_get n size k hk
  simpa [List.getD, be_length, hk] using this
theorem below_undrew {w w' : World} (h : Below w.drew.heap.size w.drew w') : Below w.heap.size w w' := (Below.refl _ _).drew.trans h
theorem ow_new (w : World) (base : Nat) (zs : List Int) (n : Nat) (hn : zs.length = n) (hm : n ≤ maxLen) (hb : base ≤ w.heap.size) : Ow (w.alloc (.cells (zs.map (Value.int .u8)).toArray 5)) base (some ⟨w.heap.size, 0, none⟩) n n zs :=
  ⟨hn, Nat.le_refl _, hm, owns_of_block (heap_alloc_new _ _) hb hm (by simp [hn])⟩
theorem step_append_far {w : World} {ops : Array Oper} {o : Oper} {a : Act} {K : Act → World → Prop} {Q : Exit → Act → World → Prop} {E : Prop} (hgd : o.guard = none) (s x : Operand)
    (ho : o.op = .call { callee := .builtin .append, args := #[s, x], argTypes := #[39, 39] })
    (base n kc m mc : Nat) (ko : Option Addr) (ad : Addr) (xs ys : List Int) (hs : a.eval s = .slice ko n kc) (hown : Ow w base ko n kc xs) (hx : a.eval x = .slice (some ad) m mc) (hr : Rd w (some ad) ys) (hl : ys.length = m) (h0 : 0 < m)
    (hm : n + m ≤ 1000000000) (hb : base ≤ w.heap.size)
    (h : ∀ g kc' w', Ow w' base (some ⟨g, 0, none⟩) (n + m) kc' (xs ++ ys) → Below base w w' → (∀ j, j < w.heap.size → Far ko j → Far (some ⟨g, 0, none⟩) j ∧ w'.heap[j]? = w.heap[j]?) → w.heap.size ≤ w'.heap.size → K (a.put o.dst (.slice (some ⟨g, 0, none⟩) (n + m) kc')) w') :
    if Region.wanted o (yielded ops a.tmps) = true then Oper.wp Tryd.prog o a w K Q else E := by
  obtain ⟨i0, hi, hz0, hz1, hz2⟩ := info_parts Tryd.info5
  have hlx := hown.1
  have hw : Region.wanted o (yielded ops a.tmps) = true := by simp [Region.wanted, hgd]
  rw [if_pos hw]
  refine wp_append_lies w s x 39 ho base 5 i0 (.int .u8 0) 1 1 Tryd.underlying39 hi hz0 hz1 hz2 rfl (by decide) _ n _ hs hown.2.2.2 ad m mc (ys.map (.int .u8)) hx (by simp [hl]) (hr.cells ad rfl) (ints_oneCell _ _) h0 (by unfold maxLen; omega) (by omega) hb _ rfl ?_
  intro g cap w' ho' hg' hat hlt
  rw [← List.map_append] at ho'
  obtain ⟨ko', kc', e', how⟩ := Ow.of (by simp [hlx, hl]) ho'
  simp only [Value.slice.injEq] at e'
  obtain ⟨rfl, _, rfl⟩ := e'
  have hB := Below.grown (Below.refl base w) hg' hb (own_ge hown.2.2.2)
  refine h g cap w' how hB (fun j hj hf => ⟨fun ad' e => ?_, hg'.block j hj (far_row hf)⟩) hg'.size
  cases e
  rcases hat with hat | hat
  · intro e2
    simp only at e2
    subst e2
    exact far_row hf hat.symm
  · simp only; omega
/-- append of whatever bytes, nil or not, as a step of a drawn region. -/
theorem step_append_any {w : World} {ops : Array Oper} {o : Oper} {a : Act} {K : Act → World → Prop} {Q : Exit → Act → World → Prop} {E : Prop} (hgd : o.guard = none) (s x : Operand)
    (ho : o.op = .call { callee := .builtin .append, args := #[s, x], argTypes := #[39, 39] })
    (base n kc m mc : Nat) (ko bo : Option Addr) (xs ys : List Int) (hs : a.eval s = .slice ko n kc) (hown : Ow w base ko n kc xs) (hx : a.eval x = .slice bo m mc) (hr : Rd w bo ys) (hl : ys.length = m) (hn : bo = none → mc = 0)
    (hm : n + m ≤ 1000000000) (hb : base ≤ w.heap.size)
    (h : ∀ ko' kc' w', Ow w' base ko' (n + m) kc' (xs ++ ys) → Below base w w' → K (a.put o.dst (.slice ko' (n + m) kc')) w') :
    if Region.wanted o (yielded ops a.tmps) = true then Oper.wp Tryd.prog o a w K Q else E := by
  cases bo with
  | some ad => exact step_append_bytes hgd s x ho base n kc m mc ko ad xs ys hs hown hx hr hl hm hb h
  | none =>
    obtain ⟨i0, hi, hz0, hz1, hz2⟩ := info_parts Tryd.info5
    have hw : Region.wanted o (yielded ops a.tmps) = true := by simp [Region.wanted, hgd]
    rw [if_pos hw]
    obtain rfl := hn rfl
    have hy : ys = [] := by
      rcases hr with h | ⟨_, _, h, _⟩
      · exact h
      · cases h
    subst hy
    obtain rfl : m = 0 := hl.symm
    have hrun := run_append_owned_none (P := Tryd.prog) (w := w) base 39 o.type 5 i0 1 Tryd.underlying39 hi (.slice ko n kc) n _ hown.2.2.2
    have hk := h ko kc w (by simpa using hown) (Below.refl _ _)
    unfold Oper.wp
    simp [execOp, ho, resolve, invoke, builtin, hs, hx, hrun, Result.andThen]
    exact hk
set_option maxHeartbeats 2000000 in
theorem rbe1_ok (n size : Nat) (w : World) (h1 : 1 ≤ size) (h2 : size ≤ 7) (hn : n < 9223372036854775807) :
    Calls Tryd.prog 40 #[.int .i64 n, .int .i64 size] w (R1 w size (be n size)) := by
  go_enter Tryd.func40, Tryd.ntmps40
  go_wp2
  go_loopw [5, 6] (fun v i wr => ∃ (m : Nat) (ko : Option Addr) (kc : Nat), m ≤ size ∧ i = .int .i64 ((m : Int) - 1) ∧ v = .slice ko (size - m) kc ∧ Ow wr w.heap.size ko (size - m) kc ((be n size).take (size - m)) ∧ Below w.heap.size w wr) (fun _ i _ => (intOf i + 1).toNat)
  case atStart => exact ⟨size, none, 0, Nat.le_refl _, rfl, by rw [Nat.sub_self], by rw [Nat.sub_self]; exact ⟨rfl, Nat.le_refl _, Nat.zero_le _, World.ownsRow_nil _ _ _ _⟩, Below.refl _ _⟩
  case round =>
    obtain ⟨m, ko, kc, hm1, hi', rfl, how, hB⟩ := hrel
    have HOW := Lib.hid how; have HB := Lib.hid hB
    clear how hB
    rcases m with _ | m
    · rw [show (((0 : Nat) : Int) - 1) = -1 by rfl] at hi'
      subst hi'
      go_wp2
      go_ret
      refine ⟨ko, kc, rfl, ?_, HB.out⟩
      have := HOW.out
      rw [Nat.sub_zero, List.take_of_length_le (by rw [be_length]; exact Nat.le_refl _)] at this
      exact this
    · rw [show (((m + 1 : Nat) : Int) - 1) = (m : Int) by omega] at hi'
      subst hi'
      have hdig : ((n : Int) / 2 ^ (8 * m) % 256) = digit n size (size - (m + 1)) := by
        have := digit_int n size (size - (m + 1))
        rwa [show size - 1 - (size - (m + 1)) = m by omega] at this
      obtain ⟨x, hx⟩ : ∃ x, x = (n : Int) / 2 ^ (8 * m) % 256 := ⟨_, rfl⟩
      have HX := Lib.hid hx; have HD := Lib.hid hdig
      have hnew : Hid (Rd (wr.alloc (.cells #[.int .u8 ((n : Int) / 2 ^ (8 * m) % 256)] 5)) (some ⟨wr.heap.size, 0, none⟩) [(n : Int) / 2 ^ (8 * m) % 256]) := .inr ⟨wr.heap.size, 0, rfl, fun j hj => by
        have : j = 0 := by simp at hj; omega
        subst this
        rw [World.cell?_alloc_mark]; rfl⟩
      clear hdig hx
      go_wp2_with (at_builtin; refine append_bytes rfl (.tmp 13) (.tmp 20) rfl w.heap.size (size - (m + 1)) kc 1 1 ko (some ⟨wr.heap.size, 0, none⟩) _ [(n : Int) / 2 ^ (8 * m) % 256] rfl (HOW.out.below ((Below.refl _ _).alloc (Nat.le_refl _) _)) rfl hnew.out rfl (fun h => by cases h) (by omega) (by have := HB.out.size; simp; omega) ?_; intro ko' kc' w3 how3 hB3; have HO3 := Lib.hid how3; have HB3 := Lib.hid ((HB.out.alloc HB.out.size _).trans hB3); clear how3 hB3)
      go_roundw
      case rel => exact ⟨m, ko', kc', by omega, rfl, by rw [show size - m = size - (m + 1) + 1 by omega], by
        have := HO3.out
        rw [show size - (m + 1) + 1 = size - m by omega] at this
        rw [show size - m = size - (m + 1) + 1 by omega, be_take_succ n size _ (by omega), ← HD.out, show size - (m + 1) + 1 = size - m by omega]; exact this, HB3.out⟩
      case measure => first | (simp [intOf]; done) | (simp [intOf]; omega)
/-- THE DOCUMENT'S OWN CHECK OF A RECORD. -/
theorem rrec_any (r : Rec) (w : World) : Calls Tryd.prog 34 #[r.v] w fun e w' => e = .returned (.int .i64 (chk r.k r.s r.d.l)) ∧ Below w.heap.size w w' := by
  obtain ⟨k, s, ⟨a, n, c, z⟩⟩ := r
  show Calls Tryd.prog 34 #[.agg #[.int .i64 k, .int .i64 s, .slice a n c]] w _
  simp only
  obtain ⟨q, hq⟩ : ∃ q, q = chk k s n := ⟨_, rfl⟩
  rw [← hq]
  have HB := Lib.hid (fun A => (Below.refl w.heap.size w).alloc (Nat.le_refl _) (.cells A 43))
  by_cases h1 : k < 1
  · have d1 : decide (k < 1) = true := decide_eq_true h1
    obtain rfl : q = 1 := by rw [hq]; unfold chk; rw [if_neg (fun h => by have := h.1; omega)]
    clear hq h1
    go_enter Tryd.func34, Tryd.ntmps34
    go_wp2
    go_ret
    exact ⟨rfl, HB.out _⟩
  have d1 : decide (k < 1) = false := decide_eq_false h1
  by_cases h2 : 5 < k
  · have d2 : decide (5 < k) = true := decide_eq_true h2
    obtain rfl : q = 1 := by rw [hq]; unfold chk; rw [if_neg (fun h => by have := h.2.1; omega)]
    clear hq h1 h2
    go_enter Tryd.func34, Tryd.ntmps34
    go_wp2
    go_ret
    exact ⟨rfl, HB.out _⟩
  have d2 : decide (5 < k) = false := decide_eq_false h2
  by_cases h3 : s < 0
  · have d3 : decide (s < 0) = true := decide_eq_true h3
    obtain rfl : q = 1 := by rw [hq]; unfold chk; rw [if_neg (fun h => by have := h.2.2.1; omega)]
    clear hq h1 h2 h3
    go_enter Tryd.func34, Tryd.ntmps34
    go_wp2
    go_ret
    exact ⟨rfl, HB.out _⟩
  have d3 : decide (s < 0) = false := decide_eq_false h3
  by_cases h4 : 1073741824 ≤ s
  · have d4 : decide (1073741824 ≤ s) = true := decide_eq_true h4
    obtain rfl : q = 1 := by rw [hq]; unfold chk; rw [if_neg (fun h => by have := h.2.2.2; omega)]
    clear hq h1 h2 h3 h4
    go_enter Tryd.func34, Tryd.ntmps34
    go_wp2
    go_ret
    exact ⟨rfl, HB.out _⟩
  have d4 : decide (1073741824 ≤ s) = false := decide_eq_false h4
  have hnok : nok k s := ⟨by omega, by omega, by omega, by omega⟩
  by_cases h5 : n ≤ 8000
  · have d5 : decide ((8000 : Int) < (n : Int)) = false := decide_eq_false (by omega)
    obtain rfl : q = 0 := by rw [hq]; unfold chk; rw [if_pos hnok, if_pos h5]
    clear hq h1 h2 h3 h4 h5 hnok
    go_enter Tryd.func34, Tryd.ntmps34
    go_wp2
    go_ret
    exact ⟨rfl, HB.out _⟩
  · have d5 : decide ((8000 : Int) < (n : Int)) = true := decide_eq_true (by omega)
    obtain rfl : q = 2 := by rw [hq]; unfold chk; rw [if_pos hnok, if_neg h5]
    clear hq h1 h2 h3 h4 h5 hnok
    go_enter Tryd.func34, Tryd.ntmps34
    go_wp2
    go_ret
    exact ⟨rfl, HB.out _⟩
theorem ow_len {w : World} {base n cap : Nat} {ao : Option Addr} {zs : List Int} (h : Ow w base ao n cap zs) : zs.length = n := h.1
set_option maxHeartbeats 1000000 in
theorem rframe_ok (r : Rec) (w : World) (h : nok r.k r.s) (hn : r.d.l ≤ 8000) (hd : r.d.ok w) : Calls Tryd.prog 35 #[r.v] w (R1 w (13 + r.d.l) (fr r.k r.s r.d.z)) := by
  obtain ⟨k, s, ⟨da, n, dc, z⟩⟩ := r
  simp only at h hn
  show Calls Tryd.prog 35 #[.agg #[.int .i64 k, .int .i64 s, .slice da n dc]] w (R1 w (13 + n) (fr k s z))
  obtain ⟨h1, h2, h3, h4⟩ := h
  have hd1 : Part.ok w ⟨da, n, dc, z⟩ := hd
  obtain ⟨W0, hW0⟩ : ∃ W0, W0 = w.alloc (.cells #[.int .i64 k, .int .i64 s, .slice da n dc] 43) := ⟨_, rfl⟩
  have hb0 : Below w.heap.size w W0 := by rw [hW0]; exact (Below.refl _ _).alloc (Nat.le_refl _) _
  have hk0 : W0.heap[w.heap.size]? = some (.cells #[.int .i64 k, .int .i64 s, .slice da n dc] 43) := by rw [hW0]; exact heap_alloc_new _ _
  have hlb := (Array.getElem?_eq_some_iff.1 hk0).1
  have hS : ∀ V, Below W0.heap.size W0 V → V.cell? ⟨w.heap.size, 0, none⟩ = some (.int .i64 k) ∧ V.cell? ⟨w.heap.size, 1, none⟩ = some (.int .i64 s) ∧ V.cell? ⟨w.heap.size, 2, none⟩ = some (.slice da n dc) := fun V hV => by
    have kk : V.heap[w.heap.size]? = some (.cells #[.int .i64 k, .int .i64 s, .slice da n dc] 43) := by rw [hV.block _ hlb]; exact hk0
    simp [World.cell?, kk]
  obtain ⟨bs, hbs⟩ : ∃ bs, bs = be s.toNat 4 := ⟨_, rfl⟩
  obtain ⟨bn, hbn⟩ : ∃ bn, bn = be n 4 := ⟨_, rfl⟩
  have hbe1 : ∀ V, Calls Tryd.prog 40 #[.int .i64 s, .int .i64 4] V (R1 V 4 bs) := fun V => by
    have := rbe1_ok s.toNat 4 V (by omega) (by omega) (by omega)
    rw [hbs]
    rwa [Int.toNat_of_nonneg h3] at this
  have hbe2 : ∀ V, Calls Tryd.prog 40 #[.int .i64 (n : Int), .int .i64 4] V (R1 V 4 bn) := fun V => by
    rw [hbn]; exact rbe1_ok n 4 V (by omega) (by omega) (by omega)
  have hhd : fhead k s n = ([k] ++ bs) ++ bn := by unfold fhead; rw [be_one k (by omega) (by omega), hbs, hbn]
  have hu1 : IntKind.u8.wrap k = k := by unfold IntKind.wrap; simp [IntKind.bits]; omega
  have hd0 : ∀ V, Below W0.heap.size W0 V → Part.ok V ⟨da, n, dc, z⟩ := fun V hV => (hd.below hb0).below hV
  clear hd
  obtain ⟨hd, hhdd⟩ : ∃ hd', hd' = fhead k s n := ⟨_, rfl⟩
  obtain ⟨sm, hsm⟩ : ∃ sm, sm = ((sumOf (hd ++ z)).toNat : Int) := ⟨_, rfl⟩
  have hzl : z.length = n := hd1.len
  have hfr : fr k s z = hd ++ l4 sm ++ z := by rw [hsm, hhdd]; unfold fr; rw [hzl]
  have hbz : Bts (hd ++ z) := by rw [hhdd]; exact bts_app (fhead_bts _ _ _) hd1.bts
  have HFR := Lib.hid hfr; have HBZ := Lib.hid hbz; have HSM := Lib.hid hsm; have HHH := Lib.hid hhdd
  clear hfr hbz hsm hhdd hzl hd1
  have HS := Lib.hid hS; have HE1 := Lib.hid hbe1; have HE2 := Lib.hid hbe2; have HHD := Lib.hid hhd; have HD := Lib.hid hd0; have HB0 := Lib.hid hb0; have HW0 := Lib.hid hW0
  clear hS hbe1 hbe2 hhd hd0 hb0 hW0 hk0 hlb h1 h2 h3 h4 hbs hbn
  go_enter Tryd.func35, Tryd.ntmps35
  go_wp2
  rw [← HW0.out]
  go_region_held3 (fun V => V.cell? ⟨w.heap.size, 0, none⟩ = some (.int .i64 k) ∧ V.cell? ⟨w.heap.size, 1, none⟩ = some (.int .i64 s) ∧ V.cell? ⟨w.heap.size, 2, none⟩ = some (.slice da n dc)) (first | exact HS.out _ (Below.refl _ _).drew | exact HS.out _ ((Below.refl _ _).alloc (Nat.le_refl _) _).drew | exact HS.out _ HB9.out | exact HS.out _ HB7.out | exact HS.out _ HB8.out | exact HS.out _ HB5.out | exact HS.out _ HBB5.out | exact HS.out _ (HBB5.out.alloc HBB5.out.size _))
    (first
     | (go_at_call 40; (with_reducible refine (HE1.out _).mono ?_); rintro e w5 ⟨k5, c5, rfl, ho5, hB5⟩;
        have hsz : W0.heap.size ≤ (W0.alloc (.cells #[.int .u8 k] 5)).drew.heap.size := (by show _ ≤ (W0.alloc _).heap.size; rw [World.size_alloc]; exact Nat.le_succ _);
        have HR5 : Hid (Ow w5 W0.heap.size (some ⟨W0.heap.size, 0, none⟩) 1 1 [k]) := (ow_new W0 W0.heap.size [k] 1 rfl (by unfold maxLen; omega) (Nat.le_refl _)).below (below_undrew hB5);
        have HO5 : Hid (Ow w5 W0.heap.size k5 4 c5 bs) := ho5.base hsz;
        have HB5 : Hid (Below W0.heap.size W0 w5) := ((Below.refl _ _).alloc (Nat.le_refl _) _).drew.trans (hB5.mono hsz);
        have HZ5 : Hid (W0.heap.size < w5.heap.size) := (HR5.out.lt rfl);
        clear ho5 hB5 hsz)
     | (go_at_call 40; (with_reducible refine (HE1.out W0.drew).mono ?_); rintro e w5 ⟨k5, c5, rfl, ho5, hB5⟩;
        have HOB5 : Hid (Ow w5 W0.heap.size k5 4 c5 bs) := ho5;
        have HBB5 : Hid (Below W0.heap.size W0 w5) := (Below.refl _ _).drew.trans hB5;
        clear ho5 hB5)
     | (obtain ⟨g5, rfl, _⟩ := HOB5.out.at (by omega);
        refine step_append_bytes rfl (.tmp 8) (.tmp 11) rfl W0.heap.size 1 1 4 c5 (some ⟨w5.heap.size, 0, none⟩) ⟨g5, 0, none⟩ [k] bs rfl (ow_new w5 W0.heap.size [k] 1 rfl (by unfold maxLen; omega) HBB5.out.size) rfl (HOB5.out.below ((Below.refl _ _).alloc (Nat.le_refl _) _)).rd HOB5.out.1 (by omega) (HBB5.out.alloc HBB5.out.size _).size ?_;
        intro k7 c7 w7 ho7 hB7;
        have HO7 := Lib.hid ho7;
        have HB7 : Hid (Below W0.heap.size W0 w7) := (HBB5.out.alloc HBB5.out.size _).trans hB7;
        clear ho7 hB7)
     | (go_at_call 40; (with_reducible refine (HE2.out w7).mono ?_); rintro e w8 ⟨k8, c8, rfl, ho8, hB8⟩;
        have HP8 := Lib.hid (HO7.out.below hB8);
        have HO8 : Hid (Ow w8 W0.heap.size k8 4 c8 bn) := ho8.base HB7.out.size;
        have HB8 : Hid (Below W0.heap.size W0 w8) := HB7.out.trans (hB8.mono HB7.out.size);
        clear ho8 hB8)
     | (go_at_call 40; (with_reducible refine (HE2.out w5).mono ?_); rintro e w8 ⟨k8, c8, rfl, ho8, hB8⟩;
        have HR8 := Lib.hid (HR5.out.below hB8);
        have HQ8 := Lib.hid (HO5.out.below hB8);
        have HG8 : Hid (∀ g, k8 = some ⟨g, 0, none⟩ → w5.heap.size ≤ g ∧ g < w8.heap.size) := (fun g e => ⟨own_ge ho8.2.2.2 g (by rw [e]; rfl), ho8.lt e⟩);
        have HO8 : Hid (Ow w8 W0.heap.size k8 4 c8 bn) := ho8.base HB5.out.size;
        have HB8 : Hid (Below W0.heap.size W0 w8) := HB5.out.trans (hB8.mono HB5.out.size);
        clear ho8 hB8)
     | (obtain ⟨g8, rfl, _⟩ := HO8.out.at (by omega);
        refine step_append_bytes rfl (.tmp 12) (.tmp 16) rfl W0.heap.size 5 c7 4 c8 k7 ⟨g8, 0, none⟩ ([k] ++ bs) bn rfl HP8.out rfl HO8.out.rd HO8.out.1 (by omega) HB8.out.size ?_;
        intro k9 c9 w9 ho9 hB9;
        have HO9 := Lib.hid ho9;
        have HB9 : Hid (Below W0.heap.size W0 w9) := HB8.out.trans hB9;
        clear ho9 hB9)
     | (obtain ⟨g5, rfl, _⟩ := HO5.out.at (by omega);
        refine step_append_far rfl (.tmp 8) (.tmp 11) rfl W0.heap.size 1 1 4 c5 (some ⟨W0.heap.size, 0, none⟩) ⟨g5, 0, none⟩ [k] bs rfl HR8.out rfl HQ8.out.rd HQ8.out.1 (by omega) (by omega) HB8.out.size ?_;
        intro g7 c7 w7 ho7 hB7 hf7 hs7;
        have HP8 := Lib.hid ho7;
        have HO8 : Hid (Ow w7 W0.heap.size k8 4 c8 bn) := HO8.out.heap (fun g e => (hf7 g (HG8.out g e).2 (fun ad ea => by cases ea; have := (HG8.out g e).1; have := HZ5.out; simp only; omega)).2);
        have HB8 : Hid (Below W0.heap.size W0 w7) := HB8.out.trans hB7;
        obtain ⟨k7, hk7⟩ : ∃ k7 : Option Addr, k7 = some ⟨g7, 0, none⟩ := ⟨_, rfl⟩;
        rw [← hk7] at HP8 ⊢;
        clear ho7 hB7 hf7 hs7 hk7)
     | (obtain ⟨g5, rfl, _⟩ := HO5.out.at (by omega);
        refine step_append_bytes rfl (.tmp 8) (.tmp 11) rfl W0.heap.size 1 1 4 c5 (some ⟨W0.heap.size, 0, none⟩) ⟨g5, 0, none⟩ [k] bs rfl HR5.out rfl HO5.out.rd HO5.out.1 (by omega) HB5.out.size ?_;
        intro k7 c7 w7 ho7 hB7;
        have HO7 := Lib.hid ho7;
        have HB7 : Hid (Below W0.heap.size W0 w7) := HB5.out.trans hB7;
        clear ho7 hB7))
  all_goals
    have HO9H : Hid (Ow w9 W0.heap.size k9 9 c9 hd) := by
      have h1 := HO9.out
      rw [HHH.out, HHD.out]; exact h1
    have HTW := Lib.hid (fun V (hV : Below w9.heap.size w9 V) => twin_any k9 9 c9 hd V HO9H.out.1 (by omega) ((HO9H.out.below hV).rd) (fun h => HO9H.out.nil h))
    have HDZ := Lib.hid (fun V (hV : Below w9.heap.size w9 V) => HD.out V (HB9.out.trans (hV.mono HB9.out.size)))
    clear HO9
    go_wp2
    go_region_held3 (fun V => V.cell? ⟨w.heap.size, 0, none⟩ = some (.int .i64 k) ∧ V.cell? ⟨w.heap.size, 1, none⟩ = some (.int .i64 s) ∧ V.cell? ⟨w.heap.size, 2, none⟩ = some (.slice da n dc)) (first | exact HS.out _ HB9.out.drew | exact HS.out _ HB9.out | exact HS.out _ (HB9.out.trans (HB10.out.mono HB9.out.size)) | exact HS.out _ (HB9.out.trans (HB11.out.mono HB9.out.size)) | exact HS.out _ (HB9.out.trans (HB12.out.mono HB9.out.size)))
      (first
        | (go_at_call 22; (with_reducible refine (HTW.out _ (Below.refl _ _).drew).mono ?_); rintro e w10 ⟨k10, c10, rfl, ho10, hB10⟩;
           have HO10 : Hid (Ow w10 w9.heap.size k10 9 c10 hd) := ho10;
           have HB10 : Hid (Below w9.heap.size w9 w10) := (Below.refl _ _).drew.trans hB10;
           clear ho10 hB10)
        | (refine step_append_any rfl (.tmp 19) (.tmp 21) rfl w9.heap.size 9 c10 n dc k10 da hd z rfl HO10.out rfl (HDZ.out w10 HB10.out).rd (HDZ.out w10 HB10.out).len (HDZ.out w10 HB10.out).nil (by omega) HB10.out.size ?_;
           intro k11 c11 w11 ho11 hB11;
           have HO11 := Lib.hid ho11;
           have HB11 : Hid (Below w9.heap.size w9 w11) := HB10.out.trans hB11;
           clear ho11 hB11)
        | (go_at_call 41; (with_reducible refine (refsum_any k11 (9 + n) c11 (hd ++ z) w11 sm HSM.out (ow_len HO11.out) (by omega) HO11.out.rd HBZ.out).mono ?_); rintro e w12 ⟨g12, rfl, hr12, hB12⟩;
           have HR12 := Lib.hid hr12;
           have HB12 : Hid (Below w9.heap.size w9 w12) := HB11.out.trans (hB12.mono HB11.out.size);
           clear hr12 hB12))
    have HO12 := Lib.hid (HO9H.out.below HB12.out)
    have HW12 : Hid (Below W0.heap.size W0 w12) := HB9.out.trans (HB12.out.mono HB9.out.size)
    clear HTW HO10 HO11 HB10 HB11 HB12 HO9H
    go_wp2
    go_region_held3 (fun V => V.cell? ⟨w.heap.size, 0, none⟩ = some (.int .i64 k) ∧ V.cell? ⟨w.heap.size, 1, none⟩ = some (.int .i64 s) ∧ V.cell? ⟨w.heap.size, 2, none⟩ = some (.slice da n dc)) (first | exact HS.out _ HW12.out.drew | exact HS.out _ HW12.out | exact HS.out _ HW13.out | exact HS.out _ HW14.out)
      (first
        | (refine step_append_any rfl (.tmp 24) (.tmp 25) rfl W0.heap.size 9 c9 4 4 k9 (some ⟨g12, 0, none⟩) hd (l4 sm) rfl (HO12.out.below (Below.refl _ _).drew) rfl (HR12.out.below (Below.refl _ _).drew) rfl (fun h => by cases h) (by omega) HW12.out.drew.size ?_;
           intro k13 c13 w13 ho13 hB13;
           have HO13 := Lib.hid ho13;
           have HW13 : Hid (Below W0.heap.size W0 w13) := HW12.out.drew.trans hB13;
           clear ho13 hB13)
        | (refine step_append_any rfl (.tmp 26) (.tmp 28) rfl W0.heap.size 13 c13 n dc k13 da (hd ++ l4 sm) z rfl HO13.out rfl (HD.out w13 HW13.out).rd (HD.out w13 HW13.out).len (HD.out w13 HW13.out).nil (by omega) HW13.out.size ?_;
           intro k14 c14 w14 ho14 hB14;
           have HO14 := Lib.hid ho14;
           have HW14 : Hid (Below W0.heap.size W0 w14) := HW13.out.trans hB14;
           clear ho14 hB14))
    have HE : Hid (R1 w (13 + n) (fr k s z) (.returned (.slice k14 (13 + n) c14)) w14) := by
      refine ⟨k14, c14, rfl, ?_, HB0.out.trans (HW14.out.mono HB0.out.size)⟩
      rw [HFR.out]
      exact HO14.out.base HB0.out.size
    clear HO14 HW14 HO12 HR12
    go_wp2
    go_ret
    exact HE.out
theorem frs_keys : ∀ (rs rs' : List Rec), rs.map Rec.key = rs'.map Rec.key → frs rs = frs rs'
  | [], [], _ => rfl
  | [], _ :: _, h => by cases h
  | _ :: _, [], h => by cases h
  | r :: rs, r' :: rs', h => by
    simp only [List.map_cons, List.cons.injEq] at h
    have := frs_keys rs rs' h.2
    unfold frs at this ⊢
    rw [List.flatMap_cons, List.flatMap_cons, this]
    have hk := h.1
    simp only [Rec.key, Prod.mk.injEq] at hk
    rw [hk.1, hk.2.1, hk.2.2]
theorem je_keys : ∀ (rs rs' : List Rec), rs.map Rec.key = rs'.map Rec.key → (∀ r ∈ rs, r.d.z.length = r.d.l) → (∀ r ∈ rs', r.d.z.length = r.d.l) → je rs = je rs'
  | [], [], _, _, _ => rfl
  | [], _ :: _, h, _, _ => by cases h
  | _ :: _, [], h, _, _ => by cases h
  | r :: rs, r' :: rs', h, h1, h2 => by
    simp only [List.map_cons, List.cons.injEq] at h
    have := je_keys rs rs' h.2 (fun x hx => h1 x (List.mem_cons_of_mem _ hx)) (fun x hx => h2 x (List.mem_cons_of_mem _ hx))
    have hk := h.1
    simp only [Rec.key, Prod.mk.injEq] at hk
    have hl : r.d.l = r'.d.l := by rw [← h1 r (List.mem_cons_self ..), ← h2 r' (List.mem_cons_self ..), hk.2.2]
    unfold je
    rw [this, hk.1, hk.2.1, hl]
theorem rs_lens {w : World} {ao : Option Addr} {rs : List Rec} (h : Rs w ao rs) : ∀ r ∈ rs, r.d.z.length = r.d.l := fun r hr => by
  obtain ⟨i, hi, rfl⟩ := List.getElem_of_mem hr
  rcases h with h | ⟨b, o, _, hc⟩
  · subst h; cases hi
  · exact (hc i hi).2.2.2.len

end Go.Proofs.YtifbbikhjolnjaaDoor
