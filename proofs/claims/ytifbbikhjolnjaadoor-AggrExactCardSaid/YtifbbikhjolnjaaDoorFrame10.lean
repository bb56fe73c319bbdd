/-
  Frames: Read of a frame among frames; FrameWalk.
-/
import Derived.Test.YtifbbikhjolnjaaDoorFrame6
import Derived.Test.YtifbbikhjolnjaaDoorFrame9
namespace Go.Proofs.YtifbbikhjolnjaaDoor
open Go.RowKit
set_option linter.unusedVariables false

theorem fr_fields2 (k s : Int) (z rest : List Int) (h : nok k s) (hz : z.length ≤ 8000) : rk (fr k s z ++ rest) = k ∧ rs' (fr k s z ++ rest) = s ∧ rn (fr k s z ++ rest) = z.length ∧ rz (fr k s z ++ rest) = z ∧ rer (fr k s z ++ rest) = 0 := by
  obtain ⟨A, hA⟩ : ∃ A, A = be k.toNat 1 := ⟨_, rfl⟩
  obtain ⟨B, hB⟩ : ∃ B, B = be s.toNat 4 := ⟨_, rfl⟩
  obtain ⟨C, hC⟩ : ∃ C, C = be z.length 4 := ⟨_, rfl⟩
  obtain ⟨D, hD⟩ : ∃ D, D = l4 ((sumOf (fhead k s z.length ++ z)).toNat : Int) := ⟨_, rfl⟩
  obtain ⟨ys, hys⟩ : ∃ ys, ys = fr k s z ++ rest := ⟨_, rfl⟩
  rw [← hys]
  have lA : A.length = 1 := by rw [hA, be_length]
  have lB : B.length = 4 := by rw [hB, be_length]
  have lC : C.length = 4 := by rw [hC, be_length]
  have lD : D.length = 4 := by rw [hD]; rfl
  have hf : fhead k s z.length = A ++ (B ++ C) := by unfold fhead; rw [hA, hB, hC, List.append_assoc]
  have e : ys = A ++ (B ++ (C ++ (D ++ (z ++ rest)))) := by
    rw [hys]; unfold fr; rw [← hD, hf]; simp only [List.append_assoc]
  have d1 : ys.drop 1 = B ++ (C ++ (D ++ (z ++ rest))) := by rw [e, ← lA, List.drop_left]
  have d5 : ys.drop 5 = C ++ (D ++ (z ++ rest)) := by rw [show 5 = 1 + 4 by rfl, ← List.drop_drop, d1, ← lB, List.drop_left]
  have d9 : ys.drop 9 = D ++ (z ++ rest) := by rw [show 9 = 5 + 4 by rfl, ← List.drop_drop, d5, ← lC, List.drop_left]
  have d13 : ys.drop 13 = z ++ rest := by rw [show 13 = 9 + 4 by rfl, ← List.drop_drop, d9, ← lD, List.drop_left]
  have hl : 13 + z.length ≤ ys.length := by rw [hys, List.length_append, fr_len]; omega
  obtain ⟨h1, h2, h3, h4⟩ := h
  have ek : rk ys = k := by
    unfold rk; rw [e, ← lA, List.take_left, hA, num_be _ _ (by omega)]; omega
  have es : rs' ys = s := by
    unfold rs'; rw [d1, ← lB, List.take_left, hB, num_be _ _ (by omega)]; omega
  have en : rn ys = z.length := by
    unfold rn; rw [d5, ← lC, List.take_left, hC, num_be _ _ (by omega)]
  have ez : rz ys = z := by unfold rz; rw [d13, en, List.take_left]
  refine ⟨ek, es, en, ez, ?_⟩
  have t9 : ys.take 9 = fhead k s z.length := by
    rw [hf, e, show A ++ (B ++ (C ++ (D ++ (z ++ rest)))) = (A ++ (B ++ C)) ++ (D ++ (z ++ rest)) by simp only [List.append_assoc], show 9 = (A ++ (B ++ C)).length by simp [lA, lB, lC], List.take_left]
  unfold rer
  rw [if_neg (by omega), if_neg, if_pos]
  · rw [d9, ← lD, List.take_left, ez, t9, hD]
  · rw [ek, es, en]
    rintro (h | h | h)
    · exact h ⟨h1, h2, h3, h4⟩
    · omega
    · omega
theorem frs_split (rs : List Rec) (k : Nat) (h : k < rs.length) : frs rs = frs (rs.take k) ++ (fr rs[k].k rs[k].s rs[k].d.z ++ frs (rs.drop (k + 1))) := by
  conv => lhs; rw [← List.take_append_drop k rs, List.drop_eq_getElem_cons h]
  unfold frs
  rw [List.flatMap_append, List.flatMap_cons]
/-- READ OF A FRAME AMONG FRAMES. -/
theorem fread_at (ao : Option Addr) (len cap : Nat) (pre rest z zs : List Int) (k s : Int) (w : World) (hT : Tab w) (h : nok k s) (hz8 : z.length ≤ 8000) (e : zs = pre ++ (fr k s z ++ rest)) (hz : Bts zs) (hl : zs.length = len) (hlc : len ≤ cap) (hm : len ≤ 1000000000) (hcm : cap ≤ maxLen) (hr : Rd w ao zs) (p : Nat) (hp : p = pre.length) :
    Calls Tryd.prog 19 #[.slice ao len cap, .int .i64 p] w (RF w k s z.length z ((p + 13 + z.length : Nat) : Int)) := by
  obtain ⟨ek, es, en, ez, e0⟩ := fr_fields2 k s z rest h hz8
  refine (fread_any ao len cap zs p w hT hl hlc hm hcm hr hz).mono ?_
  have ed : zs.drop (p : Int).toNat = fr k s z ++ rest := by rw [Int.toNat_natCast, hp, e, List.drop_left]
  have hle : p ≤ zs.length := by rw [e, hp]; simp
  rintro r w' (⟨h1, _⟩ | ⟨_, _, h1⟩ | ⟨_, h1, _⟩)
  · omega
  · rw [ed, ek, es, en, ez] at h1
    rw [show ((p + 13 + z.length : Nat) : Int) = (p : Int) + 13 + (z.length : Nat) by omega]
    exact h1
  · rw [ed] at h1; exact absurd e0 h1
/-- Read at the end. -/
theorem fread_end (ao : Option Addr) (len cap : Nat) (zs : List Int) (w : World) (hT : Tab w) (hz : Bts zs) (hl : zs.length = len) (hlc : len ≤ cap) (hm : len ≤ 1000000000) (hcm : cap ≤ maxLen) (hr : Rd w ao zs) :
    Calls Tryd.prog 19 #[.slice ao len cap, .int .i64 len] w (RF0 w 3) := by
  refine (fread_any ao len cap zs len w hT hl hlc hm hcm hr hz).mono ?_
  have ed : zs.drop (len : Int).toNat = [] := by rw [Int.toNat_natCast]; exact List.drop_of_length_le (by omega)
  have e3 : rer [] = 3 := by unfold rer; rw [if_pos (by simp)]
  rintro r w' (⟨h1, _⟩ | ⟨_, h1, _⟩ | ⟨_, _, h1⟩)
  · omega
  · rw [ed, e3] at h1; omega
  · rw [ed, e3] at h1; exact h1
theorem bts_frs (rs : List Rec) (h : ∀ i, (hi : i < rs.length) → Bts rs[i].d.z) : Bts (frs rs) := by
  have key : ∀ k, k ≤ rs.length → Bts (frs (rs.take k)) := by
    intro k
    induction k with
    | zero => intro _; exact Bts.nil
    | succ k ih =>
      intro hk
      rw [frs_take rs k (by omega)]
      exact bts_app (ih (by omega)) (fr_bts _ _ _ (h k (by omega)))
  have := key rs.length (Nat.le_refl _)
  rwa [List.take_length] at this
theorem je_all (rs : List Rec) (h : je rs = 0) : ∀ i, (hi : i < rs.length) → chk rs[i].k rs[i].s rs[i].d.l = 0 := by
  induction rs with
  | nil => intro i hi; exact absurd hi (Nat.not_lt_zero _)
  | cons r rs ih =>
    unfold je at h
    by_cases hc : chk r.k r.s r.d.l = 0
    · rw [if_pos hc] at h
      intro i hi
      cases i with
      | zero => exact hc
      | succ i => exact ih h i (by simp at hi; omega)
    · rw [if_neg hc] at h; exact absurd h hc

end Go.Proofs.YtifbbikhjolnjaaDoor
