/-
  A frame with bits of its data turned about: plain facts.
-/
import Derived.Test.YtmbkgjiofkggcaaDoorFrame14
namespace Go.Proofs.YtmbkgjiofkggcaaDoor
open Go.RowKit
set_option linter.unusedVariables false

theorem flip1_app (A z : List Int) (p : Nat) : flip1 (A ++ z) (8 * A.length + p) = A ++ flip1 z p := by
  have e1 : (8 * A.length + p) / 8 = A.length + p / 8 := by omega
  have e2 : (8 * A.length + p) % 8 = p % 8 := by omega
  unfold flip1
  rw [e1, e2, List.set_append_right _ _ (by omega)]
  simp [List.getD, List.getElem?_append_right]
theorem burst_app (A z : List Int) (t V : Nat) : ∀ i, burst (A ++ z) (8 * A.length + t) V i = A ++ burst z t V i
  | 0 => rfl
  | i + 1 => by
    unfold burst
    split
    · rw [burst_app A z t V i, show 8 * A.length + t + i = 8 * A.length + (t + i) by omega, flip1_app]
    · exact burst_app A z t V i

theorem rer_of (k s : Int) (D y : List Int) (h : nok k s) (hy : y.length ≤ 8000) (hD : D.length = 4) (hne : D ≠ l4 ((sumOf (fhead k s y.length ++ y)).toNat : Int)) : rer (fhead k s y.length ++ D ++ y) = 4 := by
  obtain ⟨A, hA⟩ : ∃ A, A = be k.toNat 1 := ⟨_, rfl⟩
  obtain ⟨B, hB⟩ : ∃ B, B = be s.toNat 4 := ⟨_, rfl⟩
  obtain ⟨C, hC⟩ : ∃ C, C = be y.length 4 := ⟨_, rfl⟩
  have lA : A.length = 1 := by rw [hA, be_length]
  have lB : B.length = 4 := by rw [hB, be_length]
  have lC : C.length = 4 := by rw [hC, be_length]
  have hf : fhead k s y.length = A ++ (B ++ C) := by unfold fhead; rw [hA, hB, hC, List.append_assoc]
  obtain ⟨ys, hys⟩ : ∃ ys, ys = fhead k s y.length ++ D ++ y := ⟨_, rfl⟩
  rw [← hys]
  have e : ys = A ++ (B ++ (C ++ (D ++ y))) := by rw [hys, hf]; simp only [List.append_assoc]
  have d1 : ys.drop 1 = B ++ (C ++ (D ++ y)) := by rw [e, ← lA, List.drop_left]
  have d5 : ys.drop 5 = C ++ (D ++ y) := by rw [show 5 = 1 + 4 by rfl, ← List.drop_drop, d1, ← lB, List.drop_left]
  have d9 : ys.drop 9 = D ++ y := by rw [show 9 = 5 + 4 by rfl, ← List.drop_drop, d5, ← lC, List.drop_left]
  have d13 : ys.drop 13 = y := by rw [show 13 = 9 + 4 by rfl, ← List.drop_drop, d9, ← hD, List.drop_left]
  obtain ⟨h1, h2, h3, h4⟩ := h
  have ek : rk ys = k := by
    unfold rk; rw [e, ← lA, List.take_left, hA, num_be _ _ (by omega)]; omega
  have es : rs' ys = s := by
    unfold rs'; rw [d1, ← lB, List.take_left, hB, num_be _ _ (by omega)]; omega
  have en : rn ys = y.length := by
    unfold rn; rw [d5, ← lC, List.take_left, hC, num_be _ _ (by omega)]
  have ez : rz ys = y := by unfold rz; rw [d13, en, List.take_length]
  have t9 : ys.take 9 = fhead k s y.length := by
    rw [hf, e, show A ++ (B ++ (C ++ (D ++ y))) = (A ++ (B ++ C)) ++ (D ++ y) by simp only [List.append_assoc], show 9 = (A ++ (B ++ C)).length by simp [lA, lB, lC], List.take_left]
  have hl : ys.length = 13 + y.length := by rw [e]; simp only [List.length_append, lA, lB, lC, hD]; omega
  unfold rer
  rw [if_neg (by omega), if_neg, if_neg]
  · rw [d9, ← hD, List.take_left, ez, t9]; exact hne
  · rw [ek, es, en]
    rintro (h | h | h)
    · exact h ⟨h1, h2, h3, h4⟩
    · omega
    · omega

theorem l4_inj (a b : BitVec 32) (h : l4 (a.toNat : Int) = l4 (b.toNat : Int)) : a.toNat = b.toNat := by
  have := congrArg nm h
  rwa [nm_l4 _ a.isLt, nm_l4 _ b.isLt] at this

/-- The frame, bits of its data turned about. -/
theorem fr_burst (k s : Int) (z : List Int) (T V i : Nat) : burst (fr k s z) (104 + T) V i = fhead k s z.length ++ l4 ((sumOf (fhead k s z.length ++ z)).toNat : Int) ++ burst z T V i := by
  have := burst_app (fhead k s z.length ++ l4 ((sumOf (fhead k s z.length ++ z)).toNat : Int)) z T V i
  rw [show (fhead k s z.length ++ l4 ((sumOf (fhead k s z.length ++ z)).toNat : Int)).length = 13 by rw [List.length_append, fhead_len]; rfl] at this
  exact this
theorem fr_burst_same (k s : Int) (z : List Int) (T V i : Nat) (hz : Bts z) (hi : T + i ≤ 8 * z.length) (h : V % 2 ^ i = 0) : burst (fr k s z) (104 + T) V i = fr k s z := by
  rw [fr_burst, ← (burst_same z T V i hz hi).2 h]; rfl
theorem fr_burst_bad (k s : Int) (z : List Int) (T V i : Nat) (hk : nok k s) (h8 : z.length ≤ 8000) (hz : Bts z) (hi : T + i ≤ 8 * z.length) (h32 : i ≤ 32) (h : V % 2 ^ i ≠ 0) : rer (burst (fr k s z) (104 + T) V i) = 4 := by
  rw [fr_burst]
  have hl := burst_len z T V i
  have := rer_of k s (l4 ((sumOf (fhead k s z.length ++ z)).toNat : Int)) (burst z T V i) hk (by omega) rfl
  rw [hl] at this
  refine this ?_
  intro e
  have e2 := l4_inj _ _ e
  have hb := burst_app (fhead k s z.length) z T V i
  rw [fhead_len] at hb
  rw [← hb] at e2
  exact h (sum_unlike (fhead k s z.length ++ z) (8 * 9 + T) V i (bts_app (fhead_bts _ _ _) hz) (by rw [List.length_append, fhead_len]; omega) h32 e2)
theorem rer_part (k s : Int) (z : List Int) (t : Nat) (h : nok k s) (hz : z.length ≤ 8000) (h2 : t < 13 + z.length) : rer ((fr k s z).take t) = 3 := by
  obtain ⟨ek, es, en, ez, e0⟩ := fr_fields k s z h hz
  have hl : ((fr k s z).take t).length = t := by rw [List.length_take, fr_len]; omega
  unfold rer
  by_cases h9 : t < 9
  · rw [if_pos (by omega)]
  · rw [if_neg (by omega), if_pos]
    refine .inr (.inr ?_)
    have : rn ((fr k s z).take t) = z.length := by
      rw [← en]; unfold rn
      rw [List.drop_take, List.take_take, Nat.min_eq_left (by omega)]
    rw [hl, this]; exact h2
/-- Read of bytes whose fields are wrong. -/
theorem fread_wrong (ao : Option Addr) (len cap : Nat) (zs : List Int) (er : Int) (w : World) (hT : Tab w) (he : rer zs = er) (h0 : er ≠ 0) (hz : Bts zs) (hl : zs.length = len) (hlc : len ≤ cap) (hm : len ≤ 1000000000) (hcm : cap ≤ maxLen) (hr : Rd w ao zs) :
    Calls Tryd.prog 26 #[.slice ao len cap, .int .i64 0] w (RF0 w er) := by
  refine (fread_any ao len cap zs 0 w hT hl hlc hm hcm hr hz).mono ?_
  have ed : zs.drop (0 : Int).toNat = zs := rfl
  rintro r w' (⟨h1, _⟩ | ⟨_, h1, _⟩ | ⟨_, h1, h2⟩)
  · omega
  · rw [ed, he] at h1; exact absurd h1 h0
  · rw [ed, he] at h2; exact h2

end Go.Proofs.YtmbkgjiofkggcaaDoor
