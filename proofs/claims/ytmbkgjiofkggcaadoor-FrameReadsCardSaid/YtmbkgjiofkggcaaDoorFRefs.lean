/-
  Frames: the contracts of the document's own check, number and digits.
-/
import Derived.Test.YtmbkgjiofkggcaaDoorFrame1
import Derived.Test.YtmbkgjiofkggcaaDoorRefs
namespace Go.Proofs.YtmbkgjiofkggcaaDoor
open Go.RowKit
set_option linter.unusedVariables false

set_option maxHeartbeats 2000000 in
theorem rbe1_ok (n size : Nat) (w : World) (h1 : 1 ≤ size) (h2 : size ≤ 7) (hn : n < 9223372036854775807) :
    Calls Tryd.prog 42 #[.int .i64 n, .int .i64 size] w (R1 w size (be n size)) := by
  go_enter Tryd.func42, Tryd.ntmps42
  go_wp2
  go_loopw [5, 6] (fun v i wr => ∃ (m : Nat) (ko : Option Addr) (kc : Nat), m ≤ size ∧ i = .int .i64 ((m : Int) - 1) ∧ v = .slice ko (size - m) kc ∧ Ow wr w.heap.size ko (size - m) kc ((be n size).take (size - m)) ∧ Below w.heap.size w wr) (fun _ i _ => (intOf i + 1).toNat)
  case atStart => exact ⟨size, none, 0, Nat.le_refl _, rfl, by rw [Nat.sub_self], by rw [Nat.sub_self]; exact ⟨rfl, Nat.le_refl _, Nat.zero_le _, World.ownsRow_nil _ _ _ _⟩, Below.refl _ _⟩
  case round =>
    obtain ⟨m, ko, kc, hm1, hi', rfl, how, hB⟩ := hrel
    have HOW := Lib.hid how; have HB := Lib.hid hB
    clear how hB
    rcases m with _ | m
    · rw [show (((0 : Nat) : Int) - 1) = -1 by rfl] at hi'
      subst hi'
      go_wp2
      go_ret
      refine ⟨ko, kc, rfl, ?_, HB.out⟩
      have := HOW.out
      rw [Nat.sub_zero, List.take_of_length_le (by rw [be_length]; exact Nat.le_refl _)] at this
      exact this
    · rw [show (((m + 1 : Nat) : Int) - 1) = (m : Int) by omega] at hi'
      subst hi'
      have hdig : ((n : Int) / 2 ^ (8 * m) % 256) = digit n size (size - (m + 1)) := by
        have := digit_int n size (size - (m + 1))
        rwa [show size - 1 - (size - (m + 1)) = m by omega] at this
      obtain ⟨x, hx⟩ : ∃ x, x = (n : Int) / 2 ^ (8 * m) % 256 := ⟨_, rfl⟩
      have HX := Lib.hid hx; have HD := Lib.hid hdig
      have hnew : Hid (Rd (wr.alloc (.cells #[.int .u8 ((n : Int) / 2 ^ (8 * m) % 256)] 5)) (some ⟨wr.heap.size, 0, none⟩) [(n : Int) / 2 ^ (8 * m) % 256]) := .inr ⟨wr.heap.size, 0, rfl, fun j hj => by
        have : j = 0 := by simp at hj; omega
        subst this
        rw [World.cell?_alloc_mark]; rfl⟩
      clear hdig hx
      go_wp2_with (at_builtin; refine append_bytes rfl (.tmp 13) (.tmp 20) rfl w.heap.size (size - (m + 1)) kc 1 1 ko (some ⟨wr.heap.size, 0, none⟩) _ [(n : Int) / 2 ^ (8 * m) % 256] rfl (HOW.out.below ((Below.refl _ _).alloc (Nat.le_refl _) _)) rfl hnew.out rfl (fun h => by cases h) (by omega) (by have := HB.out.size; simp; omega) ?_; intro ko' kc' w3 how3 hB3; have HO3 := Lib.hid how3; have HB3 := Lib.hid ((HB.out.alloc HB.out.size _).trans hB3); clear how3 hB3)
      go_roundw
      case rel => exact ⟨m, ko', kc', by omega, rfl, by rw [show size - m = size - (m + 1) + 1 by omega], by
        have := HO3.out
        rw [show size - (m + 1) + 1 = size - m by omega] at this
        rw [show size - m = size - (m + 1) + 1 by omega, be_take_succ n size _ (by omega), ← HD.out, show size - (m + 1) + 1 = size - m by omega]; exact this, HB3.out⟩
      case measure => first | (simp [intOf]; done) | (simp [intOf]; omega)

theorem rnum1_ok (b o len cap : Nat) (zs : List Int) (w : World) (hl : zs.length = len) (hlc : len ≤ cap) (hm : cap ≤ maxLen) (hc : ∀ j, j < len → w.cell? ⟨b, o + j, none⟩ = some (.int .u8 (zs.getD j 0)))
    (hz : Bts zs) (h2 : len ≤ 6) :
    Calls Tryd.prog 48 #[.slice (some ⟨b, o, none⟩) len cap] w fun e w' => e = .returned (.int .i64 (num zs)) ∧ w = w' := by
  unfold maxLen at hm
  have HL := Lib.hid hl; have HZ := Lib.hid hz; have HC := Lib.hid hc
  clear hc hz hl
  go_enter Tryd.func48, Tryd.ntmps48
  go_wp2
  go_loop [3, 4] (fun n i => ∃ k : Nat, k ≤ len ∧ i = .int .i64 k ∧ n = .int .i64 (num (zs.take k))) (fun _ i => len - (intOf i).toNat)
  case atStart => exact ⟨0, Nat.zero_le _, rfl, rfl⟩
  case round =>
    obtain ⟨k, hk, rfl, rfl⟩ := hrel
    by_cases hlt : k < len
    · have hcell := HC.out k hlt
      have hbd := HZ.out k (by rw [HL.out]; exact hlt)
      obtain ⟨c, hcc⟩ : ∃ c, c = zs.getD k 0 := ⟨_, rfl⟩
      rw [← hcc] at hcell hbd
      have hnl := num_take_lt zs HZ.out k (by rw [HL.out]; exact hk)
      have hp : 256 ^ k ≤ 256 ^ 6 := Nat.pow_le_pow_right (by decide) (by omega)
      have hnl2 : num (zs.take k) < 281474976710656 := by omega
      have HN := Lib.hid (num_take zs k (by rw [HL.out]; exact hlt))
      rw [← hcc] at HN
      have HCC := Lib.hid hcc
      clear hcc hnl hp
      obtain ⟨n, hn⟩ : ∃ n, n = num (zs.take k) := ⟨_, rfl⟩
      rw [← hn] at hnl2 HN ⊢
      have HNN := Lib.hid hn
      clear hn
      have d1 : decide ((k : Int) < (len : Int)) = true := decide_eq_true (by omega)
      go_wp2
      go_round
      case rel => exact ⟨k + 1, by omega, by go_num, by rw [HN.out, or_shift n c hnl2 hbd.1 hbd.2]; go_num⟩
      case measure => simp [intOf]; omega
    · have d1 : decide ((k : Int) < (len : Int)) = false := decide_eq_false (by omega)
      go_wp2
      go_ret
      have : k = len := by omega
      subst this
      exact ⟨by rw [List.take_of_length_le (by rw [HL.out]; exact Nat.le_refl _)]; rfl, rfl⟩

theorem rnum1_any (ao : Option Addr) (len cap : Nat) (zs : List Int) (w : World) (hl : zs.length = len) (h1 : 1 ≤ len) (hlc : len ≤ cap) (hm : cap ≤ maxLen) (hr : Rd w ao zs) (hz : Bts zs) (h2 : len ≤ 6) :
    Calls Tryd.prog 48 #[.slice ao len cap] w fun e w' => e = .returned (.int .i64 (num zs)) ∧ w = w' := by
  obtain ⟨b, o, rfl, hc⟩ := hr.at (by omega)
  exact rnum1_ok b o len cap zs w hl hlc hm (fun j hj => hc j (by omega)) hz h2


/-- THE DOCUMENT'S OWN CHECK OF A RECORD. -/
theorem rrec_any (r : Rec) (w : World) : Calls Tryd.prog 16 #[r.v] w fun e w' => e = .returned (.int .i64 (chk r.k r.s r.d.l)) ∧ Below w.heap.size w w' := by
  obtain ⟨k, s, ⟨a, n, c, z⟩⟩ := r
  show Calls Tryd.prog 16 #[.agg #[.int .i64 k, .int .i64 s, .slice a n c]] w _
  simp only
  obtain ⟨q, hq⟩ : ∃ q, q = chk k s n := ⟨_, rfl⟩
  rw [← hq]
  have HB := Lib.hid (fun A => (Below.refl w.heap.size w).alloc (Nat.le_refl _) (.cells A 29))
  by_cases h1 : k < 1
  · have d1 : decide (k < 1) = true := decide_eq_true h1
    obtain rfl : q = 1 := by rw [hq]; unfold chk; rw [if_neg (fun h => by have := h.1; omega)]
    clear hq h1
    go_enter Tryd.func16, Tryd.ntmps16
    go_wp2
    go_ret
    exact ⟨rfl, HB.out _⟩
  have d1 : decide (k < 1) = false := decide_eq_false h1
  by_cases h2 : 5 < k
  · have d2 : decide (5 < k) = true := decide_eq_true h2
    obtain rfl : q = 1 := by rw [hq]; unfold chk; rw [if_neg (fun h => by have := h.2.1; omega)]
    clear hq h1 h2
    go_enter Tryd.func16, Tryd.ntmps16
    go_wp2
    go_ret
    exact ⟨rfl, HB.out _⟩
  have d2 : decide (5 < k) = false := decide_eq_false h2
  by_cases h3 : s < 0
  · have d3 : decide (s < 0) = true := decide_eq_true h3
    obtain rfl : q = 1 := by rw [hq]; unfold chk; rw [if_neg (fun h => by have := h.2.2.1; omega)]
    clear hq h1 h2 h3
    go_enter Tryd.func16, Tryd.ntmps16
    go_wp2
    go_ret
    exact ⟨rfl, HB.out _⟩
  have d3 : decide (s < 0) = false := decide_eq_false h3
  by_cases h4 : 1073741824 ≤ s
  · have d4 : decide (1073741824 ≤ s) = true := decide_eq_true h4
    obtain rfl : q = 1 := by rw [hq]; unfold chk; rw [if_neg (fun h => by have := h.2.2.2; omega)]
    clear hq h1 h2 h3 h4
    go_enter Tryd.func16, Tryd.ntmps16
    go_wp2
    go_ret
    exact ⟨rfl, HB.out _⟩
  have d4 : decide (1073741824 ≤ s) = false := decide_eq_false h4
  have hnok : nok k s := ⟨by omega, by omega, by omega, by omega⟩
  by_cases h5 : n ≤ 8000
  · have d5 : decide ((8000 : Int) < (n : Int)) = false := decide_eq_false (by omega)
    obtain rfl : q = 0 := by rw [hq]; unfold chk; rw [if_pos hnok, if_pos h5]
    clear hq h1 h2 h3 h4 h5 hnok
    go_enter Tryd.func16, Tryd.ntmps16
    go_wp2
    go_ret
    exact ⟨rfl, HB.out _⟩
  · have d5 : decide ((8000 : Int) < (n : Int)) = true := decide_eq_true (by omega)
    obtain rfl : q = 2 := by rw [hq]; unfold chk; rw [if_pos hnok, if_neg h5]
    clear hq h1 h2 h3 h4 h5 hnok
    go_enter Tryd.func16, Tryd.ntmps16
    go_wp2
    go_ret
    exact ⟨rfl, HB.out _⟩

end Go.Proofs.YtmbkgjiofkggcaaDoor
