/-
  The contracts of GetPart and of the page's GetPart, in one form.
-/
import Derived.Test.YtilpehbbjhignaaExact4
namespace Go.Proofs.Ytilpehbbjhignaa
open Go.RowKit
set_option linter.unusedVariables false

/-- What GetPart gives. -/
def gpS (zs : List Int) (at' : Int) : List Int × Int × Int :=
  if at' < 0 ∨ (zs.length : Int) < at' then ([], 0, 1)
  else if (zs.length : Int) - at' < 4 then ([], 0, 3)
  else if 30000 < num ((zs.drop at'.toNat).take 4) ∨ (zs.length : Int) < at' + 4 + num ((zs.drop at'.toNat).take 4) then ([], 0, 3)
  else ((zs.drop (at'.toNat + 4)).take (num ((zs.drop at'.toNat).take 4)), at' + 4 + num ((zs.drop at'.toNat).take 4), 0)
/-- Three results: bytes of the call's own, a place, and an error's number. -/
def R3 (w : World) (r : List Int × Int × Int) (e : Ending) (w' : World) : Prop :=
  ∃ n ko kc, e = .returned (.tuple #[.slice ko n kc, .int .i64 r.2.1, .int .i64 r.2.2]) ∧ Ow w' w.heap.size ko n kc r.1 ∧ Below w.heap.size w w'
theorem R3.nil (w : World) (x er : Int) : R3 w ([], x, er) (.returned (.tuple #[.slice none 0 0, .int .i64 x, .int .i64 er])) w :=
  ⟨0, none, 0, rfl, ⟨rfl, Nat.le_refl _, Nat.zero_le _, World.ownsRow_nil _ _ _ _⟩, Below.refl _ _⟩

theorem gpS_arg {zs : List Int} {at' : Int} (h : at' < 0 ∨ (zs.length : Int) < at') : gpS zs at' = ([], 0, 1) := by unfold gpS; rw [if_pos h]
theorem gpS_short {zs : List Int} {at' : Int} (h : ¬ (at' < 0 ∨ (zs.length : Int) < at')) (h2 : (zs.length : Int) - at' < 4) : gpS zs at' = ([], 0, 3) := by unfold gpS; rw [if_neg h, if_pos h2]
theorem gpS_less {zs : List Int} {a : Nat} (h : a + 4 ≤ zs.length) (h2 : 30000 < num ((zs.drop a).take 4) ∨ zs.length < a + 4 + num ((zs.drop a).take 4)) : gpS zs a = ([], 0, 3) := by
  unfold gpS; rw [if_neg (by omega), if_neg (by omega), if_pos (by simp only [Int.toNat_natCast]; omega)]
theorem gpS_ok {zs : List Int} {a : Nat} (h : a + 4 ≤ zs.length) (h2 : ¬ (30000 < num ((zs.drop a).take 4) ∨ zs.length < a + 4 + num ((zs.drop a).take 4))) :
    gpS zs a = ((zs.drop (a + 4)).take (num ((zs.drop a).take 4)), ((a + 4 + num ((zs.drop a).take 4) : Nat) : Int), 0) := by
  unfold gpS; rw [if_neg (by omega), if_neg (by omega), if_neg (by simp only [Int.toNat_natCast]; omega)]
  simp

theorem getPart_r (ao : Option Addr) (len cap : Nat) (zs : List Int) (at' : Int) (w : World) (hl : zs.length = len) (hlc : len ≤ cap) (hm : cap ≤ maxLen) (hr : Rd w ao zs) (hz : Bts zs) :
    Calls Try.prog 18 #[.slice ao len cap, .int .i64 at'] w (R3 w (gpS zs at')) := by
  by_cases h1 : at' < 0 ∨ (zs.length : Int) < at'
  · rw [gpS_arg h1]
    refine (getPart_arg ao len cap at' w (by omega) (by omega)).mono ?_
    rintro e w' ⟨rfl, rfl⟩
    exact R3.nil _ _ _
  · by_cases h2 : (zs.length : Int) - at' < 4
    · rw [gpS_short h1 h2]
      refine (getPart_short ao len cap at' w (by omega) (by omega) (by omega) (by omega)).mono ?_
      rintro e w' ⟨rfl, rfl⟩
      exact R3.nil _ _ _
    · obtain ⟨a, rfl⟩ := Int.eq_ofNat_of_zero_le (by omega : 0 ≤ at')
      by_cases h3 : 30000 < num ((zs.drop a).take 4) ∨ zs.length < a + 4 + num ((zs.drop a).take 4)
      · rw [gpS_less (by omega) h3]
        refine (getPart_less ao len cap zs a w hl hlc hm hr hz (by omega) _ rfl (by omega)).mono ?_
        rintro e w' ⟨rfl, rfl⟩
        exact R3.nil _ _ _
      · rw [gpS_ok (by omega) h3]
        refine (getPart_ok ao len cap zs a w hl hlc hm hr hz (by omega) _ rfl (by omega) (by omega)).mono ?_
        rintro e w' ⟨rfl, hb, hB⟩
        have hll : ((zs.drop (a + 4)).take (num ((zs.drop a).take 4))).length = num ((zs.drop a).take 4) := by simp; omega
        exact ⟨_, _, _, rfl, ⟨hll, Nat.le_refl _, by unfold maxLen; omega, owns_of_block hb (Nat.le_refl _) (by unfold maxLen; omega) (by rw [List.length_map, hll])⟩, hB⟩

theorem rgetPart_arg (ao : Option Addr) (len cap : Nat) (at' : Int) (w : World) (hl : len ≤ maxLen) (h : at' < 0 ∨ (len : Int) < at') :
    Calls Try.prog 19 #[.slice ao len cap, .int .i64 at'] w fun e w' => e = .returned (.tuple #[.slice none 0 0, .int .i64 0, .int .i64 1]) ∧ w = w' := by
  go_enter Try.func19, Try.ntmps19
  go_wp2_with (go_at_call 15; refine (rget_arg ao len cap at' 4 _ hl (by omega)).mono ?_; rintro e w1 ⟨rfl, rfl⟩)
  go_ret3
  exact ⟨rfl, rfl⟩

theorem rgetPart_short (ao : Option Addr) (len cap : Nat) (at' : Int) (w : World) (hl : len ≤ maxLen) (h3 : 0 ≤ at') (h4 : at' ≤ len) (h5 : (len : Int) - at' < 4) :
    Calls Try.prog 19 #[.slice ao len cap, .int .i64 at'] w fun e w' => e = .returned (.tuple #[.slice none 0 0, .int .i64 0, .int .i64 3]) ∧ w = w' := by
  go_enter Try.func19, Try.ntmps19
  go_wp2_with (go_at_call 15; refine (rget_short ao len cap at' 4 _ hl (by omega) (by omega) h3 h4 h5).mono ?_; rintro e w1 ⟨rfl, rfl⟩)
  go_ret3
  exact ⟨rfl, rfl⟩

theorem rget4 (ao : Option Addr) (len cap : Nat) (zs : List Int) (at' : Nat) (w : World) (hl : zs.length = len) (hlc : len ≤ cap) (hm : cap ≤ maxLen) (hr : Rd w ao zs) (hz : Bts zs) (h5 : at' + 4 ≤ len) :
    Calls Try.prog 15 #[.slice ao len cap, .int .i64 at', .int .i64 4] w fun e w' => e = .returned (.tuple #[.int .i64 (num ((zs.drop at').take 4)), .int .i64 (at' + 4 : Nat), .int .i64 0]) ∧ w = w' := by
  obtain ⟨b, o, rfl, hc⟩ := hr.at (by omega)
  exact rget_ok b o len cap zs at' 4 w hl hlc hm (fun j hj => hc j (by omega)) hz (by omega) (by omega) h5

theorem rgetPart_less (ao : Option Addr) (len cap : Nat) (zs : List Int) (at' : Nat) (w : World) (hl : zs.length = len) (hlc : len ≤ cap) (hm : cap ≤ maxLen) (hr : Rd w ao zs) (hz : Bts zs) (h5 : at' + 4 ≤ len)
    (n : Nat) (hn : n = num ((zs.drop at').take 4)) (h : 30000 < n ∨ len < at' + 4 + n) :
    Calls Try.prog 19 #[.slice ao len cap, .int .i64 at'] w fun e w' => e = .returned (.tuple #[.slice none 0 0, .int .i64 0, .int .i64 3]) ∧ w = w' := by
  have c := rget4 ao len cap zs at' w hl hlc hm hr hz h5
  rw [← hn] at c
  have HC := Lib.hid c
  clear c hn hr hl
  unfold maxLen at hm
  by_cases hb : 30000 < n
  all_goals
    go_enter Try.func19, Try.ntmps19
    go_wp2_with (go_at_call 15; refine HC.out.mono ?_; rintro e w1 ⟨rfl, rfl⟩)
    go_ret3
    exact ⟨rfl, rfl⟩

theorem rgetPart_ok (b o len cap : Nat) (zs : List Int) (at' : Nat) (w : World) (hl : zs.length = len) (hlc : len ≤ cap) (hm : cap ≤ maxLen) (hr : Rd w (some ⟨b, o, none⟩) zs) (hz : Bts zs) (h5 : at' + 4 ≤ len)
    (n : Nat) (hn : n = num ((zs.drop at').take 4)) (h1 : n ≤ 30000) (h2 : at' + 4 + n ≤ len) (hcap : ¬ cap = at' + 4) :
    Calls Try.prog 19 #[.slice (some ⟨b, o, none⟩) len cap, .int .i64 at'] w (R3 w ((zs.drop (at' + 4)).take n, ((at' + 4 + n : Nat) : Int), 0)) := by
  have c := rget4 (some ⟨b, o, none⟩) len cap zs at' w hl hlc hm hr hz h5
  rw [← hn] at c
  have HC := Lib.hid c
  obtain ⟨ys, hys⟩ : ∃ ys, ys = (zs.drop (at' + 4)).take n := ⟨_, rfl⟩
  rw [← hys]
  have hyl : ys.length = n := by rw [hys]; simp; omega
  have hrd : Rd w (some ⟨b, o + (at' + 4), none⟩) ys := by rw [hys]; exact (hr.drop (at' + 4)).take n
  have HT : Hid (∀ k, Calls Try.prog 9 #[.slice (some ⟨b, o + (at' + 4), none⟩) n k] w (R1 w n ys)) := fun k => twin_some _ n k ys w hyl (by omega) hrd
  clear c hn hr hl hz hys hyl hrd
  unfold maxLen at hm
  go_enter Try.func19, Try.ntmps19
  go_wp2_with (first
    | (go_at_call 15; refine HC.out.mono ?_; rintro e w1 ⟨rfl, rfl⟩)
    | (go_at_call 9; refine (HT.out _).mono ?_; rintro e w1 ⟨ko, kc, rfl, how, hB1⟩; have HO1 := Lib.hid how; have HB1 := Lib.hid hB1; clear how hB1))
  go_ret3
  exact ⟨n, ko, kc, rfl, HO1.out, HB1.out⟩

theorem rgetPart_edge (b o len : Nat) (zs : List Int) (at' : Nat) (w : World) (hl : zs.length = len) (hm : len ≤ maxLen) (hr : Rd w (some ⟨b, o, none⟩) zs) (hz : Bts zs) (h5 : at' + 4 = len)
    (hn : 0 = num ((zs.drop at').take 4)) :
    Calls Try.prog 19 #[.slice (some ⟨b, o, none⟩) len len, .int .i64 at'] w (R3 w ([], ((at' + 4 : Nat) : Int), 0)) := by
  have c := rget4 (some ⟨b, o, none⟩) len len zs at' w hl (Nat.le_refl _) hm hr hz (by omega)
  rw [← hn] at c
  have HC := Lib.hid c
  have HT : Hid (∀ a k, Calls Try.prog 9 #[.slice (some a) 0 k] w (R1 w 0 [])) := fun a k => twin_some _ 0 k [] w rfl (by omega) (Rd.nil _ _)
  clear c hn hr hl hz
  subst h5
  unfold maxLen at hm
  go_enter Try.func19, Try.ntmps19
  go_wp2_with (first
    | (go_at_call 15; refine HC.out.mono ?_; rintro e w1 ⟨rfl, rfl⟩)
    | (go_at_call 9; refine (HT.out _ _).mono ?_; rintro e w1 ⟨ko, kc, rfl, how, hB1⟩; have HO1 := Lib.hid how; have HB1 := Lib.hid hB1; clear how hB1))
  go_ret3
  exact ⟨0, ko, kc, rfl, HO1.out, HB1.out⟩

theorem rgetPart_r (ao : Option Addr) (len cap : Nat) (zs : List Int) (at' : Int) (w : World) (hl : zs.length = len) (hlc : len ≤ cap) (hm : cap ≤ maxLen) (hr : Rd w ao zs) (hz : Bts zs) :
    Calls Try.prog 19 #[.slice ao len cap, .int .i64 at'] w (R3 w (gpS zs at')) := by
  by_cases h1 : at' < 0 ∨ (zs.length : Int) < at'
  · rw [gpS_arg h1]
    refine (rgetPart_arg ao len cap at' w (by omega) (by omega)).mono ?_
    rintro e w' ⟨rfl, rfl⟩
    exact R3.nil _ _ _
  · by_cases h2 : (zs.length : Int) - at' < 4
    · rw [gpS_short h1 h2]
      refine (rgetPart_short ao len cap at' w (by omega) (by omega) (by omega) (by omega)).mono ?_
      rintro e w' ⟨rfl, rfl⟩
      exact R3.nil _ _ _
    · obtain ⟨a, rfl⟩ := Int.eq_ofNat_of_zero_le (by omega : 0 ≤ at')
      by_cases h3 : 30000 < num ((zs.drop a).take 4) ∨ zs.length < a + 4 + num ((zs.drop a).take 4)
      · rw [gpS_less (by omega) h3]
        refine (rgetPart_less ao len cap zs a w hl hlc hm hr hz (by omega) _ rfl (by omega)).mono ?_
        rintro e w' ⟨rfl, rfl⟩
        exact R3.nil _ _ _
      · rw [gpS_ok (by omega) h3]
        obtain ⟨b, o, rfl, _⟩ := hr.at (by omega)
        by_cases hc : cap = a + 4
        · obtain rfl : cap = len := by omega
          have hn0 : num ((zs.drop a).take 4) = 0 := by omega
          rw [hn0, List.take_zero]
          exact rgetPart_edge b o cap zs a w hl hm hr hz (by omega) hn0.symm
        · exact rgetPart_ok b o len cap zs a w hl hlc hm hr hz (by omega) _ rfl (by omega) (by omega) hc

end Go.Proofs.Ytilpehbbjhignaa
