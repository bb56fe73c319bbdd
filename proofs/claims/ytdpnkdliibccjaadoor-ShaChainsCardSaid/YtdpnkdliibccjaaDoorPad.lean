/-
  The document's own padding.
-/
import Derived.Test.YtdpnkdliibccjaaDoorRef1
namespace Go.Proofs.YtdpnkdliibccjaaDoor
open Go.RowKit
set_option linter.unusedVariables false

theorem rd_one (w : World) (c : Int) : Rd (w.alloc (.cells #[.int .u8 c] 5)) (some ⟨w.heap.size, 0, none⟩) [c] := .inr ⟨w.heap.size, 0, rfl, fun j hj => by
  have : j = 0 := by simp at hj; omega
  subst this
  rw [World.cell?_alloc_mark]; rfl⟩
theorem be8_take (n k : Nat) (h : k < 8) : (be8 n).take (k + 1) = (be8 n).take k ++ [((n / 2 ^ (8 * (7 - k)) % 256 : Nat) : Int)] := by
  have hl : (be8 n).length = 8 := by simp [be8]
  rw [List.take_succ_eq_append_getElem (by rw [hl]; exact h)]
  congr 2
  simp [be8]
theorem be8_int (m k : Nat) : (m : Int) * 8 / 2 ^ (8 * k) % 256 = ((8 * m / 2 ^ (8 * k) % 256 : Nat) : Int) := by
  rw [Int.natCast_emod, Int.natCast_ediv, Int.natCast_pow, Int.natCast_mul, Int.mul_comm]; rfl

set_option maxRecDepth 100000 in
set_option maxHeartbeats 2000000 in
theorem padded_ok (ao : Option Addr) (m cap : Nat) (z : List Int) (w : World) (hl : z.length = m) (hm : m ≤ 1000000) (hr : Rd w ao z) (hn : ao = none → cap = 0) :
    Calls Tryd.prog 21 #[.slice ao m cap] w (R1 w (m + 1 + zn m + 8) (padd z)) := by
  have HL := Lib.hid hl; have HR := Lib.hid hr; have HN := Lib.hid hn
  obtain ⟨Z, hZ⟩ : ∃ Z, Z = zn m := ⟨_, rfl⟩
  have hZ64 : Z < 64 := by rw [hZ]; exact Nat.mod_lt _ (by decide)
  have hz0 : (m + 1 + Z + 8) % 64 = 0 := by rw [hZ]; unfold zn; omega
  have HZ := Lib.hid hZ; have HZ0 := Lib.hid hz0
  rw [← hZ]
  clear hl hr hn hZ hz0
  go_enter Tryd.func21, Tryd.ntmps21
  go_wp2_with (first
    | (at_builtin; refine append_bytes rfl (.tmp 6) (.tmp 7) rfl w.heap.size 0 0 m cap none ao [] z rfl ⟨rfl, Nat.le_refl _, Nat.zero_le _, World.ownsRow_nil _ _ _ _⟩ rfl HR.out HL.out HN.out (by omega) (Nat.le_refl _) ?_; intro k1 c1 w1 ho1 hB1; rw [Nat.zero_add, List.nil_append] at ho1; rw [Nat.zero_add]; have HO1 := Lib.hid ho1; have HB1 := Lib.hid hB1; clear ho1 hB1)
    | (at_builtin; refine append_bytes rfl (.tmp 8) (.tmp 9) rfl w.heap.size m c1 1 1 k1 (some ⟨w1.heap.size, 0, none⟩) z [128] rfl (HO1.out.below ((Below.refl _ _).alloc (Nat.le_refl _) _)) rfl (rd_one w1 128) rfl (fun h => by cases h) (by omega) (by have := HB1.out.size; simp; omega) ?_; intro k2 c2 w2 ho2 hB2; have HO2 := Lib.hid ho2; have HB2 := Lib.hid ((HB1.out.alloc HB1.out.size _).trans hB2); clear ho2 hB2))
  go_loopw [3] (fun v wr => ∃ (k L : Nat) (ko : Option Addr) (kc : Nat), L = m + 1 + k ∧ k ≤ Z ∧ v = .slice ko L kc ∧ Ow wr w.heap.size ko L kc (z ++ [128] ++ List.replicate k 0) ∧ Below w.heap.size w wr) (fun v _ => m + 1 + Z - lenV v)
  case atStart => exact ⟨0, m + 1, k2, c2, rfl, Nat.zero_le _, rfl, by simpa using HO2.out, HB2.out⟩
  case round =>
    obtain ⟨k, L, ko, kc, hL, hk, rfl, how, hB⟩ := hrel
    have HO := Lib.hid how; have HB := Lib.hid hB
    have HLK := Lib.hid hL
    have hL1 : L ≤ m + 64 := by omega
    have hL2 : m + 1 ≤ L := by omega
    by_cases hlt : k < Z
    · have d1 : (((L : Int) + 8) % 64 != 0) = true := by
        have h0 := HZ0.out
        rw [bne_iff_ne]; omega
      have d2 : ((L + 8) % 64 != 0) = true := by
        have h0 := HZ0.out
        rw [bne_iff_ne]; omega
      clear how hB hL
      go_wp2_with (at_builtin; refine append_bytes rfl (.tmp 16) (.tmp 17) rfl w.heap.size L kc 1 1 ko (some ⟨wr.heap.size, 0, none⟩) _ [0] rfl (HO.out.below ((Below.refl _ _).alloc (Nat.le_refl _) _)) rfl (rd_one wr 0) rfl (fun h => by cases h) (by omega) (by have := HB.out.size; simp; omega) ?_; intro k3 c3 w3 ho3 hB3; have HO3 := Lib.hid ho3; have HB3 := Lib.hid ((HB.out.alloc HB.out.size _).trans hB3); clear ho3 hB3)
      go_roundw
      case rel => exact ⟨k + 1, L + 1, k3, c3, by have := HLK.out; omega, by omega, rfl, by rw [List.replicate_succ', ← List.append_assoc]; exact HO3.out, HB3.out⟩
      case measure => have := HLK.out; simp [lenV]; omega
    · obtain rfl : k = Z := by omega
      have d1 : (((L : Int) + 8) % 64 != 0) = false := by
        have h0 := HZ0.out
        rw [bne_eq_false_iff_eq]; omega
      have d2 : ((L + 8) % 64 != 0) = false := by
        have h0 := HZ0.out
        rw [bne_eq_false_iff_eq]; omega
      obtain ⟨wo, rfl⟩ : ∃ wo : World, wo = wr := ⟨_, rfl⟩
      obtain ⟨P, hP⟩ : ∃ P, P = z ++ [128] ++ List.replicate k 0 := ⟨_, rfl⟩
      rw [← hP] at HO
      have HP := Lib.hid hP
      clear how hB hL hP
      go_wp2
      go_loopw [3, 5] (fun v i wr => ∃ (j b L' : Nat) (ko : Option Addr) (kc : Nat), j + b = 8 ∧ L' = L + j ∧ i = .int .i64 ((b : Int) - 1) ∧ v = .slice ko L' kc ∧ Ow wr w.heap.size ko L' kc (P ++ (be8 (8 * m)).take j) ∧ Below w.heap.size w wr) (fun _ i _ => (intOf i + 1).toNat)
      case atStart => exact ⟨0, 8, L, ko, kc, rfl, rfl, rfl, rfl, by simpa using HO.out, HB.out⟩
      case round =>
        obtain ⟨j, b, L', k4, c4, hjb, hL', hi', rfl, how, hB⟩ := hrel
        have HO4 := Lib.hid how; have HB4 := Lib.hid hB; have HJB := Lib.hid hjb; have HLL := Lib.hid hL'
        have hL4 : L' ≤ m + 80 := by omega
        have hb8 : b ≤ 8 := by omega
        rcases b with _ | b
        · rw [show (((0 : Nat) : Int) - 1) = -1 by rfl] at hi'
          subst hi'
          have hj8 : j = 8 := by omega
          have hfin : P ++ (be8 (8 * m)).take j = padd z := by
            rw [List.take_of_length_le (by simp [be8]; omega), HP.out]
            unfold padd
            rw [HL.out, ← HZ.out]
            simp only [List.append_assoc]
          have HF := Lib.hid hfin
          have hLe : L' = m + 1 + k + 8 := by have := HLK.out; omega
          have HLE := Lib.hid hLe
          clear how hB hjb hL' hj8 hfin hLe
          go_wp2
          go_ret
          refine ⟨k4, c4, by rw [← HLE.out]; rfl, ?_, HB4.out⟩
          rw [← HLE.out, ← HF.out]; exact HO4.out
        · rw [show (((b + 1 : Nat) : Int) - 1) = (b : Int) by omega] at hi'
          subst hi'
          have hj : j < 8 := by omega
          have hv := be8_int m b
          have ht := be8_take (8 * m) j hj
          rw [show 7 - j = b by omega] at ht
          obtain ⟨x, hx⟩ : ∃ x : Int, x = ((8 * m / 2 ^ (8 * b) % 256 : Nat) : Int) := ⟨_, rfl⟩
          rw [← hx] at hv ht
          have HT := Lib.hid ht
          clear how hB hjb hL' hx ht
          go_wp2_with (at_builtin; refine append_bytes rfl (.tmp 27) (.tmp 34) rfl w.heap.size L' c4 1 1 k4 (some ⟨wr.heap.size, 0, none⟩) _ [x] rfl (HO4.out.below ((Below.refl _ _).alloc (Nat.le_refl _) _)) rfl (rd_one wr x) rfl (fun h => by cases h) (by omega) (by have := HB4.out.size; simp; omega) ?_; intro k5 c5 w5 ho5 hB5; have HO5 := Lib.hid ho5; have HB5 := Lib.hid ((HB4.out.alloc HB4.out.size _).trans hB5); clear ho5 hB5)
          go_roundw
          case rel => exact ⟨j + 1, b, L' + 1, k5, c5, by have := HJB.out; omega, by have := HLL.out; omega, rfl, rfl, by rw [HT.out, ← List.append_assoc]; exact HO5.out, HB5.out⟩
          case measure => first | (simp [intOf]; done) | (simp [intOf]; omega)
end Go.Proofs.YtdpnkdliibccjaaDoor
