/-
  The drive: what the laws begin with, and what wakes asks.
-/
import Derived.Test.YtmcbmemgeegodaaDr6
namespace Go.Proofs.Ytmcbmemgeegodaa
open Go.RowKit
set_option linter.unusedVariables false

theorem fileC_zero (ks : List Key) : fileC ks 0 = (0, 0) := by unfold fileC; rw [if_pos rfl]
theorem fileC_at (ks : List Key) (n j : Nat) (hj : j < ks.length) (hm1 : marks (ks.take (j + 1)) = n) (hm2 : marks (ks.take j) + 1 = n) : fileC ks n = ((j : Int) + 1, 0) := by
  unfold fileC
  rw [if_neg (show ¬ n = 0 by omega)]
  have hex : ∃ j : Nat, j < ks.length ∧ marks (ks.take (j + 1)) = n ∧ marks (ks.take j) + 1 = n := ⟨j, hj, hm1, hm2⟩
  rw [dif_pos hex]
  have hs := Classical.choose_spec hex
  obtain ⟨i, hi⟩ : ∃ i, i = Classical.choose hex := ⟨_, rfl⟩
  rw [← hi] at hs ⊢
  have : i = j := by
    rcases Nat.lt_trichotomy i j with h | h | h
    · have := marks_upto ks (show i + 1 ≤ j by omega); omega
    · exact h
    · have := marks_upto ks (show j + 1 ≤ i by omega); omega
  rw [this]
theorem fileC_none (ks : List Key) (n : Nat) (hn : marks ks < n) : fileC ks n = (0, 8) := by
  unfold fileC
  rw [if_neg (show ¬ n = 0 by omega), dif_neg]
  rintro ⟨j, hj, hm1, hm2⟩
  have := marks_all ks (j + 1); omega
theorem mkd_none (ks : List Key) (f u : Nat) (h : marks ks = 0) : mkd ks f u = false := by
  unfold mkd
  unfold marks at h
  have h0 := List.length_eq_zero_iff.1 h
  rw [List.filter_eq_nil_iff] at h0
  rw [List.any_eq_false]
  intro x hx
  exact h0 x (List.mem_of_mem_take (List.mem_of_mem_drop hx))
theorem loc_wakes : TD.loc ⟨9, [(1, [120], false), (2, [], false)], 2⟩ false 1 0 = (0, 2) := by
  have h := fileC_at [(1, [120], false), (2, [], false)] 1 1 (by decide) (by decide) (by decide)
  unfold TD.loc
  rw [if_neg (by decide), if_neg (by decide), show (1 : Int).toNat = 1 from rfl]
  simp only
  rw [h]
  rfl
theorem blank_good (p : Int) (h1 : 1 ≤ p) (h2 : p ≤ 400) : goodK p [] = true := by unfold goodK; simp; omega
/-- A blank tape, spelt out. -/
theorem tap_blank (w : World) (p : Int) : Tap.ok w ⟨p, none, 0, 0, []⟩ := ⟨rfl, Nat.le_refl _, Nat.zero_le _, .inl rfl, fun _ => rfl⟩

theorem part_x {w : World} {g : Nat} {fr : Nat × Nat} (h : w.heap[g]? = some (.cells #[.int .u8 120] 5 fr)) : Part.ok w ⟨some ⟨g, 0, none⟩, 1, 1, [120]⟩ :=
  ⟨.inr ⟨g, 0, rfl, fun j hj => by
      have : j = 0 := by simp at hj; omega
      subst this
      rw [Joins.cell_of_block h]; rfl⟩, rfl, (fun j hj => by
      have : j = 0 := by simp at hj; omega
      subst this
      exact (show (0 : Int) ≤ 120 ∧ (120 : Int) ≤ 255 by decide)), (show 1 ≤ maxLen by decide), (fun h => by cases h), Nat.le_refl _, (show 1 ≤ maxLen by decide)⟩

set_option maxRecDepth 100000 in
set_option maxHeartbeats 4000000 in
theorem wakes12 (w : World) : Calls Try.prog 15 #[] w fun e w' => e = .returned (.bool true) ∧ Below w.heap.size w w' := by
  have HN := Lib.hid (pnew w)
  go_enter Try.func15, Try.ntmps15
  go_wp2_with (go_at_call 10; fail)
  refine HN.out.mono ?_
  rintro e w1 ⟨rfl, hp1, hB1⟩
  have hd := dnew_good w.heap.size w.heap.size w1.heap.size PP.new ⟨9, none, 0, 0, []⟩ w1 (tap_blank _ _) (blank_good _ (by decide) (by decide)) hp1 (Nat.le_refl _)
  rw [show Tap.ks ⟨9, none, 0, 0, []⟩ = [] from rfl] at hd
  simp only at hd
  have HD := Lib.hid hd; have HB1 := Lib.hid hB1
  clear hd hp1 hB1 HN
  go_wp2_with (go_at_call 13; fail)
  refine HD.out.mono ?_
  rintro e w2 ⟨g, rfl, hg, hs2, hB2⟩
  have hb2 : Below w.heap.size w w2 := HB1.out.trans (hB2.mono HB1.out.size)
  have kc := fun (w : World) (C : Array Value) (n c : Nat) => Lib.run_convert_bytes_const (P := Try.prog) w 42 5 C n c Try.underlying42 Try.underlying5
  have hal : Below w2.heap.size w2 (w2.alloc (.cells #[.int .u8 120] 5 (1, 2))) := (Below.refl _ _).alloc (Nat.le_refl _) _
  have hp3 : (w2.alloc (.cells #[.int .u8 120] 5 (1, 2))).heap[w2.heap.size]? = some (.cells #[.int .u8 120] 5 (1, 2)) := heap_alloc_new _ _
  have hs3 := hs2.refl.below hal
  have hw := dwrite ⟨some ⟨w2.heap.size, 0, none⟩, 1, 1, [120]⟩ hs3 (fun V' hV' hk => part_x (hk.keep _ _ _ _ (fun e => by cases e) rfl hp3))
  simp only at hw
  rw [show TD.wri ⟨9, [], 0⟩ PP.new [120] = (0, ⟨9, [(1, [120], false)], 1⟩, PP.new) from rfl] at hw
  simp only at hw
  have HW := Lib.hid hw; have HBB := Lib.hid hb2
  clear hw hs3 hp3 hal hb2 hs2 hB2 hg HD HB1
  go_wp2_with (go_at_call 34; fail)
  refine HW.out.mono ?_
  rintro e w4 ⟨rfl, hs4⟩
  have hm := dmark hs4
  rw [show TD.mark ⟨9, [(1, [120], false)], 1⟩ PP.new = (0, ⟨9, [(1, [120], false), (2, [], false)], 2⟩, PP.new) from rfl] at hm
  simp only at hm
  have HM := Lib.hid hm
  clear hm hs4 HW
  go_wp2_with (go_at_call 21; fail)
  refine HM.out.mono ?_
  rintro e w5 ⟨rfl, hs5⟩
  have hl := dlocate hs5 1 0 (by decide) (by decide)
  rw [show PP.off PP.new = false from rfl, loc_wakes] at hl
  simp only at hl
  have HL := Lib.hid hl
  clear hl hs5 HM
  go_wp2_with (go_at_call 25; fail)
  refine HL.out.mono ?_
  rintro e w6 ⟨rfl, hs6⟩
  have HP := Lib.hid (dplace hs6)
  have HF := Lib.hid (dleft hs6)
  have HS6 := Lib.hid hs6
  clear hs6 HL
  go_wp2_with (go_at_call 37; fail)
  refine HP.out.mono ?_
  rintro e w7 ⟨rfl, rfl⟩
  go_wp2_with (go_at_call 38; fail)
  refine HF.out.mono ?_
  rintro e w8 ⟨rfl, q8, rfl⟩
  go_wp2
  go_ret
  exact ⟨rfl, below_drewN (HBB.out.trans HS6.out.bel) _⟩
end Go.Proofs.Ytmcbmemgeegodaa
