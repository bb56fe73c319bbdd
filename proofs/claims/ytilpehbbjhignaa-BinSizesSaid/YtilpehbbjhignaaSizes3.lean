/-
  The walk of BinSizes.
-/
import Derived.Test.YtilpehbbjhignaaParts
import Derived.Test.YtilpehbbjhignaaPlain2
import Derived.Test.YtilpehbbjhignaaKeep
import Derived.Test.YtilpehbbjhignaaWakes
import Derived.WalkKit
import Derived.WalkSpells
import Derived.WalkSmall
import Derived.Outline
import Derived.Lib.Hide
namespace Go.Proofs.Ytilpehbbjhignaa
open Go.RowKit
set_option linter.unusedVariables false

set_option maxRecDepth 100000 in
set_option maxHeartbeats 2000000 in
theorem sizes_more (n : Nat) (size : Nat) (at' : Int) (ao : Option Addr) (len cap : Nat) (zs : List Int) (w : World) (hl : zs.length = len) (hlc : len ≤ cap) (hm : cap ≤ maxLen) (hr : Rd w ao zs) (hz : Bts zs) (h2 : len ≤ 2000) (h3 : 1 ≤ size) (h4 : size ≤ 7) (h5 : size ≤ 6) (hn : 256 ^ size ≤ n) :
    Calls Try.prog 7 #[.int .i64 n, .int .i64 size, .int .i64 at', .slice ao len cap] w fun e w' => e = .returned (.bool true) ∧ Below w.heap.size w w' := by
  have HP := Lib.hid (put_more ao len cap n size w h3 h4 hn)
  have d1 : decide ((1 : Int) ≤ size) = true := by simp; omega
  have d2 : decide ((size : Int) ≤ 7) = true := by simp; omega
  have d3 : ((size : Int) == 7) = false := beq_eq_false_iff_ne.2 (by omega)
  have d4 : decide ((size : Int) < 7) = true := by simp; omega
  have d5 : decide ((n : Int) < wrap64 (2 ^ (8 * size))) = false := decide_eq_false (by rw [wrap_size size h5]; exact Int.not_lt.2 (by exact_mod_cast hn))
  have d6 : decide (2000 < (len : Int)) = false := by simp; omega
  have HL := Lib.hid hl; have HR := Lib.hid hr; have HZ := Lib.hid hz
  clear hl hr hz hn
  unfold maxLen at hm
  go_enter Try.func7, Try.ntmps7
  go_wp2_with (first
    | (go_at_call 10; refine HP.out.mono ?_; rintro e w1 ⟨rfl, rfl⟩)
    | (go_at_call 14; fail))
  have hB : Below w.heap.size w w := Below.refl _ _
  have HBW' := Lib.hid hB
  clear hB
  have k1 : decide ((size : Int) < 1) = false := by simp; omega
  have k2 : decide ((7 : Int) < size) = false := by simp; omega
  by_cases s1 : at' < 0
  · have k3 : decide (at' < 0) = true := by simpa using s1
    refine (get_arg ao len cap at' size _ (by unfold maxLen; omega) (.inr (.inr (.inl s1)))).mono ?_
    rintro e w3 ⟨rfl, rfl⟩
    clear s1
    go_wp2_with (go_at_call 20; refine (wakes_any _).mono ?_; rintro e w4 ⟨rfl, hB4⟩)
    go_ret
    exact ⟨rfl, HBW'.out.trans (hB4.mono HBW'.out.size)⟩
  · have k3 : decide (at' < 0) = false := by simpa using s1
    by_cases s2 : (len : Int) < at'
    · have k4 : decide ((len : Int) < at') = true := by simpa using s2
      refine (get_arg ao len cap at' size _ (by unfold maxLen; omega) (.inr (.inr (.inr s2)))).mono ?_
      rintro e w3 ⟨rfl, rfl⟩
      clear s1 s2
      go_wp2_with (go_at_call 20; refine (wakes_any _).mono ?_; rintro e w4 ⟨rfl, hB4⟩)
      go_ret
      exact ⟨rfl, HBW'.out.trans (hB4.mono HBW'.out.size)⟩
    · by_cases s3 : (len : Int) - at' < size
      · have k4 : decide ((len : Int) < at') = false := by simpa using s2
        have k5 : decide ((len : Int) - at' < size) = true := by simpa using s3
        refine (get_short ao len cap at' size _ (by unfold maxLen; omega) (by omega) (by omega) (by omega) (by omega) s3).mono ?_
        rintro e w3 ⟨rfl, rfl⟩
        have s1' : 0 ≤ at' := by omega
        have s2' : at' ≤ len := by omega
        clear s1 s2 s3
        go_wp2_with (go_at_call 20; refine (wakes_any _).mono ?_; rintro e w4 ⟨rfl, hB4⟩)
        go_ret
        exact ⟨rfl, HBW'.out.trans (hB4.mono HBW'.out.size)⟩
      · obtain ⟨at', rfl⟩ := Int.eq_ofNat_of_zero_le (by omega : 0 ≤ at')
        have k4 : decide ((len : Int) < ((at' : Nat) : Int)) = false := by simpa using s2
        have k4' : decide (len < at') = false := by simp; omega
        have k5 : decide ((len : Int) - ((at' : Nat) : Int) < size) = false := by simpa using s3
        obtain ⟨b, o, rfl, hbo⟩ := HR.out.at (by have := HL.out; omega)
        clear hbo
        obtain ⟨ys, hys⟩ : ∃ ys, ys = (zs.drop at').take size := ⟨_, rfl⟩
        have hyl : ys.length = size := by rw [hys]; simp; have := HL.out; omega
        have hyz : Bts ys := by rw [hys]; exact (HZ.out.drop at').take size
        have hyr : Rd w (some ⟨b, o + at', none⟩) ys := by rw [hys]; exact (Rd.drop (HR.out.below HBW'.out) at').take size
        have hbe : be (num ys) size = ys := by have := be_num ys hyz; rwa [hyl] at this
        have hlt := num_lt ys hyz
        rw [hyl] at hlt
        have HG := Lib.hid (get_rd (some ⟨b, o, none⟩) len cap zs at' size w HL.out hlc (by unfold maxLen; omega) (HR.out.below HBW'.out) HZ.out h3 h4 (by omega))
        rw [← hys] at HG
        obtain ⟨k, hk⟩ : ∃ k, k = num ys := ⟨_, rfl⟩
        rw [← hk] at HG hbe hlt
        have HP2 := Lib.hid (put_rd none 0 0 [] k size w rfl (by omega) (Rd.nil _ _) h3 h4 hlt)
        rw [List.nil_append, hbe, Nat.zero_add] at HP2
        have HYL := Lib.hid hyl; have HYR := Lib.hid hyr
        have hcap : ¬ cap = at' := by omega
        have s4 : at' + size ≤ len := by omega
        clear hys hyl hyz hyr hbe hlt hk s1 s2 s3
        refine HG.out.mono ?_
        rintro e w3 ⟨rfl, rfl⟩
        go_wp2_with (first
          | (go_at_call 10; refine HP2.out.mono ?_; rintro e w4 ⟨rfl, hb4, hB4⟩; have HB4 := Lib.hid hb4; clear hb4)
          | (go_at_call 12; refine (bytes_rd _ _ _ _ size ys _ HYL.out (by omega) (Rd.block HB4.out) (HYR.out.below hB4)).mono ?_; rintro e w5 ⟨rfl, hB5⟩)
          | (go_at_call 20; refine (wakes_any _).mono ?_; rintro e w6 ⟨rfl, hB6⟩))
        go_ret
        have hB45 := hB4.trans (hB5.mono hB4.size)
        exact ⟨rfl, HBW'.out.trans ((hB45.trans (hB6.mono hB45.size)).mono HBW'.out.size)⟩

theorem more_int (ao : Option Addr) (len cap : Nat) (n : Int) (size : Nat) (w : World) (h1 : 1 ≤ size) (h2 : size ≤ 7) (h5 : size = 7) (hn : 72057594037927936 ≤ n) :
    Calls Try.prog 10 #[.slice ao len cap, .int .i64 n, .int .i64 size] w fun e w' => e = .returned (.tuple #[.slice none 0 0, .int .i64 1]) ∧ w = w' := by
  obtain ⟨m, rfl⟩ := Int.eq_ofNat_of_zero_le (by omega : 0 ≤ n)
  exact put_more ao len cap m size w h1 h2 (by subst h5; omega)

set_option maxRecDepth 100000 in
set_option maxHeartbeats 2000000 in
theorem sizes_more7 (n : Int) (size : Nat) (at' : Int) (ao : Option Addr) (len cap : Nat) (zs : List Int) (w : World) (hl : zs.length = len) (hlc : len ≤ cap) (hm : cap ≤ maxLen) (hr : Rd w ao zs) (hz : Bts zs) (h2 : len ≤ 2000) (h3 : 1 ≤ size) (h4 : size ≤ 7) (h5 : size = 7) (hn : 72057594037927936 ≤ n) :
    Calls Try.prog 7 #[.int .i64 n, .int .i64 size, .int .i64 at', .slice ao len cap] w fun e w' => e = .returned (.bool true) ∧ Below w.heap.size w w' := by
  have HP := Lib.hid (more_int ao len cap n size w h3 h4 h5 hn)
  have d1 : decide ((1 : Int) ≤ size) = true := by simp; omega
  have d2 : decide ((size : Int) ≤ 7) = true := by simp; omega
  have d3 : ((size : Int) == 7) = true := beq_iff_eq.2 (by omega)
  have d5 : decide (n < 72057594037927936) = false := decide_eq_false (by omega)
  have d7 : decide (0 ≤ n) = true := decide_eq_true (by omega)
  have d8 : decide ((size : Int) < 7) = false := decide_eq_false (by omega)
  have d6 : decide (2000 < (len : Int)) = false := by simp; omega
  have HL := Lib.hid hl; have HR := Lib.hid hr; have HZ := Lib.hid hz
  clear hl hr hz hn h5
  unfold maxLen at hm
  go_enter Try.func7, Try.ntmps7
  go_wp2_with (first
    | (go_at_call 10; refine HP.out.mono ?_; rintro e w1 ⟨rfl, rfl⟩)
    | (go_at_call 14; fail))
  have hB : Below w.heap.size w w := Below.refl _ _
  have HBW' := Lib.hid hB
  clear hB
  have k1 : decide ((size : Int) < 1) = false := by simp; omega
  have k2 : decide ((7 : Int) < size) = false := by simp; omega
  by_cases s1 : at' < 0
  · have k3 : decide (at' < 0) = true := by simpa using s1
    refine (get_arg ao len cap at' size _ (by unfold maxLen; omega) (.inr (.inr (.inl s1)))).mono ?_
    rintro e w3 ⟨rfl, rfl⟩
    clear s1
    go_wp2_with (go_at_call 20; refine (wakes_any _).mono ?_; rintro e w4 ⟨rfl, hB4⟩)
    go_ret
    exact ⟨rfl, HBW'.out.trans (hB4.mono HBW'.out.size)⟩
  · have k3 : decide (at' < 0) = false := by simpa using s1
    by_cases s2 : (len : Int) < at'
    · have k4 : decide ((len : Int) < at') = true := by simpa using s2
      refine (get_arg ao len cap at' size _ (by unfold maxLen; omega) (.inr (.inr (.inr s2)))).mono ?_
      rintro e w3 ⟨rfl, rfl⟩
      clear s1 s2
      go_wp2_with (go_at_call 20; refine (wakes_any _).mono ?_; rintro e w4 ⟨rfl, hB4⟩)
      go_ret
      exact ⟨rfl, HBW'.out.trans (hB4.mono HBW'.out.size)⟩
    · by_cases s3 : (len : Int) - at' < size
      · have k4 : decide ((len : Int) < at') = false := by simpa using s2
        have k5 : decide ((len : Int) - at' < size) = true := by simpa using s3
        refine (get_short ao len cap at' size _ (by unfold maxLen; omega) (by omega) (by omega) (by omega) (by omega) s3).mono ?_
        rintro e w3 ⟨rfl, rfl⟩
        have s1' : 0 ≤ at' := by omega
        have s2' : at' ≤ len := by omega
        clear s1 s2 s3
        go_wp2_with (go_at_call 20; refine (wakes_any _).mono ?_; rintro e w4 ⟨rfl, hB4⟩)
        go_ret
        exact ⟨rfl, HBW'.out.trans (hB4.mono HBW'.out.size)⟩
      · obtain ⟨at', rfl⟩ := Int.eq_ofNat_of_zero_le (by omega : 0 ≤ at')
        have k4 : decide ((len : Int) < ((at' : Nat) : Int)) = false := by simpa using s2
        have k4' : decide (len < at') = false := by simp; omega
        have k5 : decide ((len : Int) - ((at' : Nat) : Int) < size) = false := by simpa using s3
        obtain ⟨b, o, rfl, hbo⟩ := HR.out.at (by have := HL.out; omega)
        clear hbo
        obtain ⟨ys, hys⟩ : ∃ ys, ys = (zs.drop at').take size := ⟨_, rfl⟩
        have hyl : ys.length = size := by rw [hys]; simp; have := HL.out; omega
        have hyz : Bts ys := by rw [hys]; exact (HZ.out.drop at').take size
        have hyr : Rd w (some ⟨b, o + at', none⟩) ys := by rw [hys]; exact (Rd.drop (HR.out.below HBW'.out) at').take size
        have hbe : be (num ys) size = ys := by have := be_num ys hyz; rwa [hyl] at this
        have hlt := num_lt ys hyz
        rw [hyl] at hlt
        have HG := Lib.hid (get_rd (some ⟨b, o, none⟩) len cap zs at' size w HL.out hlc (by unfold maxLen; omega) (HR.out.below HBW'.out) HZ.out h3 h4 (by omega))
        rw [← hys] at HG
        obtain ⟨k, hk⟩ : ∃ k, k = num ys := ⟨_, rfl⟩
        rw [← hk] at HG hbe hlt
        have HP2 := Lib.hid (put_rd none 0 0 [] k size w rfl (by omega) (Rd.nil _ _) h3 h4 hlt)
        rw [List.nil_append, hbe, Nat.zero_add] at HP2
        have HYL := Lib.hid hyl; have HYR := Lib.hid hyr
        have hcap : ¬ cap = at' := by omega
        have s4 : at' + size ≤ len := by omega
        clear hys hyl hyz hyr hbe hlt hk s1 s2 s3
        refine HG.out.mono ?_
        rintro e w3 ⟨rfl, rfl⟩
        go_wp2_with (first
          | (go_at_call 10; refine HP2.out.mono ?_; rintro e w4 ⟨rfl, hb4, hB4⟩; have HB4 := Lib.hid hb4; clear hb4)
          | (go_at_call 12; refine (bytes_rd _ _ _ _ size ys _ HYL.out (by omega) (Rd.block HB4.out) (HYR.out.below hB4)).mono ?_; rintro e w5 ⟨rfl, hB5⟩)
          | (go_at_call 20; refine (wakes_any _).mono ?_; rintro e w6 ⟨rfl, hB6⟩))
        go_ret
        have hB45 := hB4.trans (hB5.mono hB4.size)
        exact ⟨rfl, HBW'.out.trans ((hB45.trans (hB6.mono hB45.size)).mono HBW'.out.size)⟩

end Go.Proofs.Ytilpehbbjhignaa
