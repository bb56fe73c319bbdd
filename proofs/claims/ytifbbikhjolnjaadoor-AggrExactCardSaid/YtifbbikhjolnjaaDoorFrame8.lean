/-
  Frames: the comparison of records; which lists are left out.
-/
import Derived.Test.YtifbbikhjolnjaaDoorFrame2
import Derived.Deep.RegionHeld3
namespace Go.Proofs.YtifbbikhjolnjaaDoor
open Go.RowKit
set_option linter.unusedVariables false

theorem keep_rec (r r' : Rec) (w : World) (h : r.d.ok w) (h' : r'.d.ok w) :
    Calls Tryd.prog 20 #[r.v, r'.v] w fun e w' => e = .returned (.bool (decide (r.k = r'.k ∧ r.s = r'.s ∧ r.d.z = r'.d.z))) ∧ Below w.heap.size w w' := by
  obtain ⟨k, s, ⟨a, n, c, z⟩⟩ := r
  obtain ⟨k', s', ⟨a', n', c', z'⟩⟩ := r'
  show Calls Tryd.prog 20 #[.agg #[.int .i64 k, .int .i64 s, .slice a n c], .agg #[.int .i64 k', .int .i64 s', .slice a' n' c']] w _
  simp only
  have hB : ∀ A B, Below w.heap.size w ((w.alloc (.cells A 43)).alloc (.cells B 43)) := fun A B => ((Below.refl _ _).alloc (Nat.le_refl _) _).alloc (by simp) _
  have hbc := fun V (hV : Below w.heap.size w V) => bytes_cmp a a' n n' c c' z z' V h.len h'.len h.small (h.rd.below hV) (h'.rd.below hV)
  obtain ⟨q, hq⟩ : ∃ q, q = decide (k = k' ∧ s = s' ∧ z = z') := ⟨_, rfl⟩
  rw [← hq]
  have HB := Lib.hid hB
  clear hB h h'
  by_cases h1 : k = k'
  · have d1 : (k == k') = true := beq_iff_eq.2 h1
    by_cases h2 : s = s'
    · have d2 : (s == s') = true := beq_iff_eq.2 h2
      have hz : q = decide (z = z') := by rw [hq]; simp [h1, h2]
      rw [← hz] at hbc
      have HBC := Lib.hid hbc
      clear hbc hq h1 h2 hz
      go_enter Tryd.func20, Tryd.ntmps20
      go_wp2_with (go_at_call 21; refine (HBC.out _ (HB.out _ _)).mono ?_; rintro e w1 ⟨rfl, qn, hqn⟩; have HW1 : Hid (Below w.heap.size w w1) := (by rw [hqn]; exact below_drewN (HB.out _ _) qn); clear hqn)
      go_ret
      exact ⟨rfl, HW1.out⟩
    · have d2 : (s == s') = false := beq_eq_false_iff_ne.2 h2
      obtain rfl : q = false := by rw [hq]; exact decide_eq_false fun h => h2 h.2.1
      clear hbc hq h1 h2
      go_enter Tryd.func20, Tryd.ntmps20
      go_wp2
      go_ret
      exact ⟨rfl, HB.out _ _⟩
  · have d1 : (k == k') = false := beq_eq_false_iff_ne.2 h1
    obtain rfl : q = false := by rw [hq]; exact decide_eq_false fun h => h1 h.1
    clear hbc hq h1
    go_enter Tryd.func20, Tryd.ntmps20
    go_wp2
    go_ret
    exact ⟨rfl, HB.out _ _⟩
theorem heavy_any (ao : Option Addr) (n cap : Nat) (rs : List Rec) (w : World) (hl : rs.length = n) (hm : n ≤ maxLen) (h : Rs w ao rs) :
    Calls Tryd.prog 8 #[.slice ao n cap] w fun e w' => (e = .returned (.bool true) ∨ (e = .returned (.bool false) ∧ n ≤ 80 ∧ ∀ i, (hi : i < rs.length) → rs[i].d.l ≤ 400)) ∧ w = w' := by
  have HL := Lib.hid hl; have HR := Lib.hid h
  unfold maxLen at hm
  clear hl h
  by_cases h80 : 80 < n
  · have d1 : decide ((80 : Int) < (n : Int)) = true := decide_eq_true (by omega)
    have d1' : decide (80 < n) = true := decide_eq_true h80
    go_enter Tryd.func8, Tryd.ntmps8
    go_wp2
    go_ret
    exact ⟨.inl rfl, rfl⟩
  have d1 : decide ((80 : Int) < (n : Int)) = false := decide_eq_false (by omega)
  have d1' : decide (80 < n) = false := decide_eq_false h80
  go_enter Tryd.func8, Tryd.ntmps8
  go_wp2
  go_loop [3] (fun i => ∃ k : Nat, k ≤ n ∧ i = .int .i64 k ∧ ∀ j, (hj : j < rs.length) → j < k → rs[j].d.l ≤ 400) (fun i => n - (intOf i).toNat)
  case atStart => exact ⟨0, Nat.zero_le _, rfl, fun j _ hj => absurd hj (Nat.not_lt_zero _)⟩
  case round =>
    obtain ⟨k, hk, rfl, hall⟩ := hrel
    have HALL := Lib.hid hall
    by_cases hlt : k < n
    · have d2 : decide ((k : Int) < (n : Int)) = true := decide_eq_true (by omega)
      have hlt' : k < rs.length := by rw [HL.out]; exact hlt
      obtain ⟨b, o, rfl, hc⟩ : ∃ b o, ao = some ⟨b, o, none⟩ ∧ _ := by
        rcases HR.out with h | h
        · rw [h] at hlt'; exact absurd hlt' (Nat.not_lt_zero _)
        · exact h
      obtain ⟨c0, c1, c2, hd⟩ := hc k hlt'
      obtain ⟨r, hr⟩ : ∃ r, r = rs[k] := ⟨_, rfl⟩
      rw [← hr] at c2
      have HRR := Lib.hid hr
      clear hall hc c0 c1 hd hr
      by_cases h4 : 400 < r.d.l
      · have d3 : decide ((400 : Int) < (r.d.l : Int)) = true := decide_eq_true (by omega)
        have d3' : decide (400 < r.d.l) = true := decide_eq_true h4
        go_wp2
        go_ret
        exact ⟨.inl rfl, rfl⟩
      · have d3 : decide ((400 : Int) < (r.d.l : Int)) = false := decide_eq_false (by omega)
        have d3' : decide (400 < r.d.l) = false := decide_eq_false h4
        go_wp2
        go_round
        case rel => exact ⟨k + 1, by omega, by go_num, fun j hj hjk => by
          by_cases hjk' : j < k
          · exact HALL.out j hj hjk'
          · obtain rfl : j = k := by omega
            rw [← HRR.out]; omega⟩
        case measure => simp [intOf]; omega
    · have d2 : decide ((k : Int) < (n : Int)) = false := decide_eq_false (by omega)
      clear hall
      go_wp2
      go_ret
      refine ⟨.inr ⟨rfl, by omega, fun i hi => HALL.out i hi ?_⟩, rfl⟩
      rw [HL.out] at hi; omega

end Go.Proofs.YtifbbikhjolnjaaDoor
