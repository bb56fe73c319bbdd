/-
  Frames: Read, of whatever bytes, at whatever offset; Read of a frame.
-/
import Derived.Test.YtifbbikhjolnjaaDoorFrame5
namespace Go.Proofs.YtifbbikhjolnjaaDoor
open Go.RowKit
set_option linter.unusedVariables false

theorem get_er (ao : Option Addr) (len cap : Nat) (zs : List Int) (a s er : Int) (w : World) (hl : zs.length = len) (hlc : len ≤ cap) (hm : cap ≤ maxLen) (hr : Rd w ao zs) (hz : Bts zs) (h : getS zs a s = (0, 0, er)) :
    Calls Tryd.prog 27 #[.slice ao len cap, .int .i64 a, .int .i64 s] w fun e w' => e = .returned (.tuple #[.int .i64 0, .int .i64 0, .int .i64 er]) ∧ w = w' := by
  have := get_r ao len cap zs a s w hl hlc hm hr hz
  rw [h] at this
  exact this
/-- What Read leaves, at whatever offset. -/
def FRD (w : World) (zs : List Int) (at' : Int) (r : Ending) (w' : World) : Prop :=
  ((at' < 0 ∨ (zs.length : Int) < at') ∧ RF0 w 1 r w') ∨
  (¬ (at' < 0 ∨ (zs.length : Int) < at') ∧ rer (zs.drop at'.toNat) = 0 ∧ RF w (rk (zs.drop at'.toNat)) (rs' (zs.drop at'.toNat)) (rn (zs.drop at'.toNat)) (rz (zs.drop at'.toNat)) (at' + 13 + rn (zs.drop at'.toNat)) r w') ∨
  (¬ (at' < 0 ∨ (zs.length : Int) < at') ∧ rer (zs.drop at'.toNat) ≠ 0 ∧ RF0 w (rer (zs.drop at'.toNat)) r w')
theorem num_lt4 (l : List Int) (h : Bts l) (hl : l.length = 4) : num l < 4294967296 := by
  have := num_take_lt l h 4 (by omega)
  rw [List.take_of_length_le (by omega)] at this
  exact this
theorem fread_any (ao : Option Addr) (len cap : Nat) (zs : List Int) (at' : Int) (w : World) (hT : Tab w) (hl : zs.length = len) (hlc : len ≤ cap) (hm : len ≤ 1000000000) (hcm : cap ≤ maxLen) (hr : Rd w ao zs) (hz : Bts zs) :
    Calls Tryd.prog 19 #[.slice ao len cap, .int .i64 at'] w (FRD w zs at') := by
  by_cases hA : at' < 0 ∨ (zs.length : Int) < at'
  · refine (fread_err1 _ at' w 1 (by omega) fun V hV => get_er ao len cap zs at' 1 1 V hl hlc hcm (hr.below hV) hz (by unfold getS; rw [if_pos (by omega)])).mono ?_
    exact fun r w' h => .inl ⟨hA, h⟩
  obtain ⟨a, rfl⟩ := Int.eq_ofNat_of_zero_le (by omega : 0 ≤ at')
  have hal : a ≤ len := by omega
  have hyl : (zs.drop a).length = len - a := by simp [hl]
  -- short of the head
  have short : len - a < 9 → rer (zs.drop a) = 3 := fun h => by unfold rer; rw [if_pos (by omega)]
  have out3 : len - a < 9 → ∀ r w', RF0 w 3 r w' → FRD w zs a r w' := fun h r w' h' => .inr (.inr ⟨hA, by rw [Int.toNat_natCast, short h]; omega, by rw [Int.toNat_natCast, short h]; exact h'⟩)
  by_cases h1 : len - a < 1
  · refine (fread_err1 _ a w 3 (by omega) fun V hV => get_er ao len cap zs a 1 3 V hl hlc hcm (hr.below hV) hz (by unfold getS; rw [if_neg (by omega), if_pos (by omega)])).mono (out3 (by omega))
  have g1 : ∀ V, Below w.heap.size w V → Calls Tryd.prog 27 #[.slice ao len cap, .int .i64 a, .int .i64 1] V fun e w' => e = .returned (.tuple #[.int .i64 (rk (zs.drop a)), .int .i64 ((a : Int) + 1), .int .i64 0]) ∧ V = w' := fun V hV =>
    get_of ao len cap zs a 1 V hl hlc hcm (hr.below hV) hz (by omega) (by omega) (by omega) _ rfl
  by_cases h5 : len - a < 5
  · refine (fread_err2 _ a _ _ w 3 (by omega) g1 fun V hV => get_er ao len cap zs ((a : Int) + 1) 4 3 V hl hlc hcm (hr.below hV) hz (by unfold getS; rw [if_neg (by omega), if_pos (by omega)])).mono (out3 (by omega))
  have g2 : ∀ V, Below w.heap.size w V → Calls Tryd.prog 27 #[.slice ao len cap, .int .i64 ((a : Int) + 1), .int .i64 4] V fun e w' => e = .returned (.tuple #[.int .i64 (rs' (zs.drop a)), .int .i64 ((a : Int) + 5), .int .i64 0]) ∧ V = w' := fun V hV => by
    have := get_of ao len cap zs (a + 1) 4 V hl hlc hcm (hr.below hV) hz (by omega) (by omega) (by omega) (rs' (zs.drop a)) (by unfold rs'; rw [List.drop_drop])
    rw [show ((a + 1 : Nat) : Int) = (a : Int) + 1 by omega, show (a : Int) + 1 + (4 : Nat) = (a : Int) + 5 by omega] at this
    exact this
  by_cases h9 : len - a < 9
  · refine (fread_err3 _ a _ _ _ _ w 3 (by omega) g1 g2 fun V hV => get_er ao len cap zs ((a : Int) + 5) 4 3 V hl hlc hcm (hr.below hV) hz (by unfold getS; rw [if_neg (by omega), if_pos (by omega)])).mono (out3 (by omega))
  have g3 : ∀ V, Below w.heap.size w V → Calls Tryd.prog 27 #[.slice ao len cap, .int .i64 ((a : Int) + 5), .int .i64 4] V fun e w' => e = .returned (.tuple #[.int .i64 (rn (zs.drop a)), .int .i64 ((a : Int) + 9), .int .i64 0]) ∧ V = w' := fun V hV => by
    have := get_of ao len cap zs (a + 5) 4 V hl hlc hcm (hr.below hV) hz (by omega) (by omega) (by omega) ((rn (zs.drop a) : Nat) : Int) (by unfold rn; rw [List.drop_drop])
    rw [show ((a + 5 : Nat) : Int) = (a : Int) + 5 by omega, show (a : Int) + 5 + (4 : Nat) = (a : Int) + 9 by omega] at this
    exact this
  by_cases hbad : ¬ nok (rk (zs.drop a)) (rs' (zs.drop a)) ∨ 8000 < rn (zs.drop a) ∨ len < a + 13 + rn (zs.drop a)
  · have e3 : rer (zs.drop a) = 3 := by
      unfold rer
      rw [if_neg (by omega), if_pos]
      rcases hbad with h | h | h
      · exact .inl h
      · exact .inr (.inl h)
      · exact .inr (.inr (by omega))
    refine (fread_bad ao len cap a (rn (zs.drop a)) _ _ w hm g1 g2 g3 (by omega) ?_ hbad).mono ?_
    · exact num_lt4 _ (((hz.drop a).drop 5).take 4) (by simp [hl]; omega)
    · exact fun r w' h => .inr (.inr ⟨hA, by rw [Int.toNat_natCast, e3]; omega, by rw [Int.toNat_natCast, e3]; exact h⟩)
  · have hnok : nok (rk (zs.drop a)) (rs' (zs.drop a)) := Classical.not_not.1 fun h => hbad (.inl h)
    have hn8 : rn (zs.drop a) ≤ 8000 := by omega
    have hen : a + 13 + rn (zs.drop a) ≤ len := by omega
    have hno : ¬ (¬ nok (rk (zs.drop a)) (rs' (zs.drop a)) ∨ 8000 < rn (zs.drop a) ∨ (zs.drop a).length < 13 + rn (zs.drop a)) := fun h => by
      rcases h with h | h | h
      · exact h hnok
      · omega
      · omega
    obtain ⟨b, o, rfl, _⟩ := hr.at (by omega)
    refine (fread_good b o len cap a (rn (zs.drop a)) zs _ _ w hT hl hlc hm hcm hr hz g1 g2 g3 hn8 hen hnok ((zs.drop a).take 9) (rz (zs.drop a)) (((zs.drop a).drop 9).take 4) rfl (by rw [List.drop_drop]) (by unfold rz; rw [List.drop_drop])).mono ?_
    rintro r w' (⟨hs, h⟩ | ⟨hs, h⟩)
    · refine .inr (.inl ⟨hA, ?_, ?_⟩)
      · rw [Int.toNat_natCast]; unfold rer; rw [if_neg (by omega), if_neg hno, if_pos hs]
      · rw [Int.toNat_natCast]
        rw [show ((a + 13 + rn (zs.drop a) : Nat) : Int) = (a : Int) + 13 + (rn (zs.drop a) : Nat) by omega] at h
        exact h
    · have e4 : rer (zs.drop a) = 4 := by unfold rer; rw [if_neg (by omega), if_neg hno, if_neg hs]
      exact .inr (.inr ⟨hA, by rw [Int.toNat_natCast, e4]; omega, by rw [Int.toNat_natCast, e4]; exact h⟩)

end Go.Proofs.YtifbbikhjolnjaaDoor
