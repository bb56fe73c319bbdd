/-
  The contracts of the page's Put and Get, in one form with the program's.
-/
import Derived.Test.YtilpehbbjhignaaExact
namespace Go.Proofs.Ytilpehbbjhignaa
open Go.RowKit
set_option linter.unusedVariables false

/-- What Put gives. -/
def putS (zs : List Int) (n size : Int) : List Int × Int :=
  if size < 1 ∨ 7 < size ∨ n < 0 ∨ 256 ^ size.toNat ≤ n.toNat then ([], 1) else (zs ++ be n.toNat size.toNat, 0)
/-- What Get gives. -/
def getS (zs : List Int) (at' size : Int) : Int × Int × Int :=
  if size < 1 ∨ 7 < size ∨ at' < 0 ∨ (zs.length : Int) < at' then (0, 0, 1)
  else if (zs.length : Int) - at' < size then (0, 0, 3) else (((num ((zs.drop at'.toNat).take size.toNat) : Nat) : Int), at' + size, 0)

/-- Two results: bytes of the call's own, and an error's number. -/
def R2 (w : World) (r : List Int × Int) (e : Ending) (w' : World) : Prop :=
  ∃ n ko kc, e = .returned (.tuple #[.slice ko n kc, .int .i64 r.2]) ∧ Ow w' w.heap.size ko n kc r.1 ∧ Below w.heap.size w w'
theorem R2.nil (w : World) (er : Int) : R2 w ([], er) (.returned (.tuple #[.slice none 0 0, .int .i64 er])) w :=
  ⟨0, none, 0, rfl, ⟨rfl, Nat.le_refl _, Nat.zero_le _, World.ownsRow_nil _ _ _ _⟩, Below.refl _ _⟩

theorem put_r (ao : Option Addr) (len cap : Nat) (zs : List Int) (n size : Int) (w : World) (hl : zs.length = len) (hm : len ≤ 1000000) (hr : Rd w ao zs) :
    Calls Try.prog 10 #[.slice ao len cap, .int .i64 n, .int .i64 size] w (R2 w (putS zs n size)) := by
  by_cases h1 : size < 1 ∨ 7 < size ∨ n < 0
  · have e : putS zs n size = ([], 1) := by unfold putS; rw [if_pos (by omega)]
    rw [e]
    refine (put_arg ao len cap n size w h1).mono ?_
    rintro e w' ⟨rfl, rfl⟩
    exact R2.nil _ _
  · obtain ⟨s, rfl⟩ := Int.eq_ofNat_of_zero_le (by omega : 0 ≤ size)
    obtain ⟨m, rfl⟩ := Int.eq_ofNat_of_zero_le (by omega : 0 ≤ n)
    by_cases h2 : 256 ^ s ≤ m
    · have e : putS zs m s = ([], 1) := by unfold putS; rw [if_pos (.inr (.inr (.inr (by simpa using h2))))]
      rw [e]
      refine (put_more ao len cap m s w (by omega) (by omega) h2).mono ?_
      rintro e w' ⟨rfl, rfl⟩
      exact R2.nil _ _
    · have e : putS zs m s = (zs ++ be m s, 0) := by
        unfold putS
        rw [if_neg (by simp only [Int.toNat_natCast]; omega)]
        simp
      rw [e]
      refine (put_rd ao len cap zs m s w hl (by omega) hr (by omega) (by omega) (by omega)).mono ?_
      rintro e w' ⟨rfl, hb, hB⟩
      have hll : (zs ++ be m s).length = len + s := by rw [List.length_append, be_length, hl]
      exact ⟨len + s, _, _, rfl, ⟨hll, Nat.le_refl _, by unfold maxLen; omega, owns_of_block hb (Nat.le_refl _) (by unfold maxLen; omega) (by rw [List.length_map, hll])⟩, hB⟩

theorem get_r (ao : Option Addr) (len cap : Nat) (zs : List Int) (at' size : Int) (w : World) (hl : zs.length = len) (hlc : len ≤ cap) (hm : cap ≤ maxLen) (hr : Rd w ao zs) (hz : Bts zs) :
    Calls Try.prog 14 #[.slice ao len cap, .int .i64 at', .int .i64 size] w fun e w' => e = .returned (.tuple #[.int .i64 (getS zs at' size).1, .int .i64 (getS zs at' size).2.1, .int .i64 (getS zs at' size).2.2]) ∧ w = w' := by
  by_cases h1 : size < 1 ∨ 7 < size ∨ at' < 0 ∨ (len : Int) < at'
  · have e : getS zs at' size = (0, 0, 1) := by unfold getS; rw [if_pos (by omega)]
    rw [e]
    exact get_arg ao len cap at' size w (by omega) h1
  · by_cases h2 : (len : Int) - at' < size
    · have e : getS zs at' size = (0, 0, 3) := by unfold getS; rw [if_neg (by omega), if_pos (by omega)]
      rw [e]
      exact get_short ao len cap at' size w (by omega) (by omega) (by omega) (by omega) (by omega) h2
    · have e : getS zs at' size = (((num ((zs.drop at'.toNat).take size.toNat) : Nat) : Int), at' + size, 0) := by unfold getS; rw [if_neg (by omega), if_neg (by omega)]
      rw [e]
      obtain ⟨s, rfl⟩ := Int.eq_ofNat_of_zero_le (by omega : 0 ≤ size)
      obtain ⟨a, rfl⟩ := Int.eq_ofNat_of_zero_le (by omega : 0 ≤ at')
      exact get_rd ao len cap zs a s w hl hlc hm hr hz (by omega) (by omega) (by omega)

theorem rput_arg (ao : Option Addr) (len cap : Nat) (n size : Int) (w : World) (h : size < 1 ∨ 7 < size ∨ n < 0) :
    Calls Try.prog 11 #[.slice ao len cap, .int .i64 n, .int .i64 size] w fun e w' => e = .returned (.tuple #[.slice none 0 0, .int .i64 1]) ∧ w = w' := by
  go_enter Try.func11, Try.ntmps11
  go_wp2_with (go_at_call 9; fail)
  all_goals first | omega | (go_ret2; exact ⟨rfl, rfl⟩)

theorem rput_more (ao : Option Addr) (len cap : Nat) (n size : Nat) (w : World) (h1 : 1 ≤ size) (h2 : size ≤ 7) (hn : 256 ^ size ≤ n) :
    Calls Try.prog 11 #[.slice ao len cap, .int .i64 n, .int .i64 size] w fun e w' => e = .returned (.tuple #[.slice none 0 0, .int .i64 1]) ∧ w = w' := by
  have hs := shr_more n size hn
  clear hn
  go_enter Try.func11, Try.ntmps11
  go_wp2_with (go_at_call 9; fail)
  go_ret2
  exact ⟨rfl, rfl⟩

theorem be_take_succ (n size k : Nat) (hk : k < size) : (be n size).take (k + 1) = (be n size).take k ++ [digit n size k] := by
  rw [List.take_succ_eq_append_getElem (by rw [be_length]; exact hk)]
  congr 2
  have := be_get n size k hk
  simpa [List.getD, be_length, hk] using this

theorem own_ge {w : World} {base e n : Nat} {v : Value} {xs : List Value} (h : w.ownsRow base e 1 v n xs) : ∀ k, v.ownBlock = some k → base ≤ k := by
  intro k hk
  rcases h.2 with ⟨h2, _⟩ | ⟨g, cap, cur, q1, q2, q3, q4⟩
  · subst h2; cases hk
  · subst q1; cases hk; exact q2
theorem owns_digit {w : World} {base len size m n : Nat} {v : Value} {zs : List Int} {x : Int} (hm : m + 1 ≤ size) (hx : x = digit n size (size - (m + 1))) (h : w.ownsRow base 5 1 v (len + (size - (m + 1)) + 1) (zs.map (Value.int .u8) ++ (((be n size).map (Value.int .u8)).take (size - (m + 1)) ++ [Value.int .u8 x]))) :
    w.ownsRow base 5 1 v (len + (size - m)) ((zs ++ (be n size).take (size - m)).map (Value.int .u8)) := by
  have e : (zs ++ (be n size).take (size - m)).map (Value.int .u8) = zs.map (Value.int .u8) ++ (((be n size).map (Value.int .u8)).take (size - (m + 1)) ++ [Value.int .u8 x]) := by
    rw [show size - m = (size - (m + 1)) + 1 by omega, be_take_succ n size _ (by omega), hx]
    simp
  rw [e, show len + (size - m) = len + (size - (m + 1)) + 1 by omega]
  exact h

set_option maxHeartbeats 2000000 in
theorem rput_ok (ao : Option Addr) (len cap : Nat) (zs : List Int) (n size : Nat) (w : World) (hl : zs.length = len) (hm : len ≤ 1000000) (hr : Rd w ao zs) (hnn : ao = none → cap = 0) (h1 : 1 ≤ size) (h2 : size ≤ 7) (hn : n < 256 ^ size) :
    Calls Try.prog 11 #[.slice ao len cap, .int .i64 n, .int .i64 size] w (R2 w (zs ++ be n size, 0)) := by
  obtain ⟨i0, hi, hz0, hz1, hz2⟩ := info_parts Try.info5
  have hs := shr_zero n size hn
  have HT := Lib.hid (twin_any ao len cap zs w hl hm hr hnn)
  have HL := Lib.hid hl
  clear hr hl hn hnn
  go_enter Try.func11, Try.ntmps11
  go_wp2_with (go_at_call 9; refine HT.out.mono ?_; rintro e w1 ⟨ko, kc, rfl, how, hB1⟩; have HO1 := Lib.hid how; have HB1 := Lib.hid hB1; clear how hB1)
  clear HT
  go_loopw [8, 9] (fun v i wr => ∃ m : Nat, m ≤ size ∧ i = .int .i64 ((m : Int) - 1) ∧ Below w.heap.size w wr ∧ wr.ownsRow w.heap.size 5 1 v (len + (size - m)) ((zs ++ (be n size).take (size - m)).map (Value.int .u8))) (fun _ i _ => (intOf i + 1).toNat)
  case atStart => exact ⟨size, Nat.le_refl _, rfl, HB1.out, by simpa using HO1.out.2.2.2⟩
  case round =>
    obtain ⟨m, hm1, hi', hB, hown⟩ := hrel
    have HOW := Lib.hid hown; have HB := Lib.hid hB
    clear hown hB
    rcases m with _ | m
    · rw [show (((0 : Nat) : Int) - 1) = -1 by rfl] at hi'
      subst hi'
      obtain ⟨ka, kb, hv, how⟩ := Ow.of (n := len + size) (zs := zs ++ be n size) (by rw [List.length_append, be_length, HL.out]) (by
        have := HOW.out
        rw [Nat.sub_zero, List.take_of_length_le (by rw [be_length]; exact Nat.le_refl _)] at this
        exact this)
      have HOF := Lib.hid how
      subst hv
      clear how
      go_wp2
      go_ret2
      exact ⟨len + size, ka, kb, rfl, HOF.out, HB.out⟩
    · rw [show (((m + 1 : Nat) : Int) - 1) = (m : Int) by omega] at hi'
      subst hi'
      have hdig : ((n : Int) / 2 ^ (8 * m) % 256) = digit n size (size - (m + 1)) := by
        have := digit_int n size (size - (m + 1))
        rwa [show size - 1 - (size - (m + 1)) = m by omega] at this
      have HD := Lib.hid hdig
      clear hdig
      go_wp2_with (at_builtin; refine wpList_append_own _ rfl (.tmp 36) (.tmp 43) 22 rfl w.heap.size 5 i0 (.int .u8 0) 1 1 Try.underlying22 hi hz0 hz1 hz2 rfl (by decide) _ (len + (size - (m + 1))) _ rfl (HOW.out.alloc _) ⟨wr.heap.size, 0, none⟩ 1 1 [.int .u8 ((n : Int) / 2 ^ (8 * m) % 256)] rfl rfl ?c1 ?c2 ?c3 ?c4 ?c5 ?_)
      case c1 =>
        intro j u hu
        match j, hu with
        | 0, hu => simp at hu; subst hu; simp [Addr.add, World.cell?_alloc_new]
      case c2 => intro u hu; simp at hu; subst hu; rfl
      case c3 => unfold maxLen; omega
      case c4 => omega
      case c5 => have := HB.out.size; simp; omega
      intro v' w3 hown3 hgrow3 hnil
      have hbW : Below wr.heap.size wr (wr.alloc (Obj.cells #[Value.int .u8 ((n : Int) / 2 ^ (8 * m) % 256)] 5)) := (Below.refl _ _).alloc (Nat.le_refl _) _
      have HB3 := Lib.hid (Below.grown (HB.out.trans (hbW.mono HB.out.size)) hgrow3 (by have := HB.out.size; simp; omega) (own_ge (w := wr) HOW.out))
      have HO3 := Lib.hid (owns_digit hm1 HD.out hown3)
      clear hown3 hgrow3 hnil hbW
      go_wp2
      go_roundw
      case rel => exact ⟨m, by omega, rfl, HB3.out, HO3.out⟩
      case measure => first | (simp [intOf]; done) | (simp [intOf]; omega)

theorem rput_r (ao : Option Addr) (len cap : Nat) (zs : List Int) (n size : Int) (w : World) (hl : zs.length = len) (hm : len ≤ 1000000) (hr : Rd w ao zs) (hnn : ao = none → cap = 0) :
    Calls Try.prog 11 #[.slice ao len cap, .int .i64 n, .int .i64 size] w (R2 w (putS zs n size)) := by
  by_cases h1 : size < 1 ∨ 7 < size ∨ n < 0
  · have e : putS zs n size = ([], 1) := by unfold putS; rw [if_pos (by omega)]
    rw [e]
    refine (rput_arg ao len cap n size w h1).mono ?_
    rintro e w' ⟨rfl, rfl⟩
    exact R2.nil _ _
  · obtain ⟨s, rfl⟩ := Int.eq_ofNat_of_zero_le (by omega : 0 ≤ size)
    obtain ⟨m, rfl⟩ := Int.eq_ofNat_of_zero_le (by omega : 0 ≤ n)
    by_cases h2 : 256 ^ s ≤ m
    · have e : putS zs m s = ([], 1) := by unfold putS; rw [if_pos (.inr (.inr (.inr (by simpa using h2))))]
      rw [e]
      refine (rput_more ao len cap m s w (by omega) (by omega) h2).mono ?_
      rintro e w' ⟨rfl, rfl⟩
      exact R2.nil _ _
    · have e : putS zs m s = (zs ++ be m s, 0) := by
        unfold putS
        rw [if_neg (by simp only [Int.toNat_natCast]; omega)]
        simp
      rw [e]
      exact rput_ok ao len cap zs m s w hl hm hr hnn (by omega) (by omega) (by omega)

end Go.Proofs.Ytilpehbbjhignaa
