/-
  Tapes: wakes.
-/
import Derived.Test.YtojcinkchdhjpaaMed7
namespace Go.Proofs.Ytojcinkchdhjpaa
open Go.RowKit
set_option linter.unusedVariables false

theorem MPost.elim {w : World} {er p : Int} {ks : List Key} {e : Ending} {w' : World} (h : MPost w (er, p, ks) e w') : ∃ ko n kc cs, e = .returned (.tuple #[.agg #[.int .i64 p, .slice ko n kc], .int .i64 er]) ∧ OCs w' w.heap.size ko n kc cs ∧ keys cs = ks ∧ Below w.heap.size w w' := h
theorem heap2 {w : World} {g T : Nat} {v0 v1 : Value} (h : w.heap[g]? = some (.cells #[v0, v1] T (0, 0))) (u0 u1 : Value) : ((w.setCell ⟨g, 0, none⟩ u0).setCell ⟨g, 1, none⟩ u1).heap[g]? = some (.cells #[u0, u1] T (0, 0)) := by
  have b2 := Go.Joins.block_setCell (i := 1) (Go.Joins.block_setCell (i := 0) h u0) u1
  simpa using b2
theorem new_cell {w : World} (v0 v1 : Value) (T : Nat) : (w.alloc (.cells #[v0, v1] T)).heap[w.heap.size]? = some (.cells #[v0, v1] T (0, 0)) := heap_alloc_new _ _

set_option maxHeartbeats 2000000 in
theorem wakes_any (w : World) : Calls Try.prog 26 #[] w fun e w' => e = .returned (.bool true) ∧ Below w.heap.size w w' := by
  have hn : newK 5 = (0, 5, []) := by decide
  have hnew := new_any 5 w
  rw [hn] at hnew
  have HN := Lib.hid hnew
  clear hn hnew
  go_enter Try.func26, Try.ntmps26
  go_wp2_with (go_at_call 38; fail)
  refine HN.out.mono ?_
  intro e w1 h1
  obtain ⟨ko, n, kc, cs, rfl, hO, hk, hB⟩ := h1.elim
  obtain ⟨V, hV⟩ : ∃ V, V = w1.alloc (.cells #[.int .i64 5, .slice ko n kc] 24) := ⟨_, rfl⟩
  obtain ⟨g, hg⟩ : ∃ g, g = w1.heap.size := ⟨_, rfl⟩
  have hb1 : Below w1.heap.size w1 V := by rw [hV]; exact (Below.refl _ _).alloc (Nat.le_refl _) _
  have hx : V.heap[g]? = some (.cells #[.int .i64 5, .slice ko n kc] 24 (0, 0)) := by rw [hV, hg]; exact new_cell _ _ _
  have ht := (hO.below hb1).tap 5
  have hks : Tap.ks ⟨5, ko, n, kc, cs⟩ = [] := hk
  have hm1 := mark_any ⟨5, ko, n, kc, cs⟩ 0 V ht (by rw [hks]; exact (by decide : goodK 5 [] = true))
  rw [hks, show markK (Tap.mk 5 ko n kc cs).p [] 0 = (0, 5, [(2, [], false)]) from (by decide : markK 5 [] 0 = (0, 5, [(2, [], false)]))] at hm1
  have hgw : w.heap.size ≤ g := by rw [hg]; exact hB.size
  have HB1 := Lib.hid (hB.trans (hb1.mono hB.size)); have HX := Lib.hid hx; have HM := Lib.hid hm1; have HV := Lib.hid hV; have HG := Lib.hid hg
  clear h1 hO hk hB hb1 hx ht hks hm1 hV hg HN
  go_wp2_with (go_at_call 15; fail)
  rw [← HV.out, ← HG.out]
  refine HM.out.mono ?_
  intro e w2 h2
  obtain ⟨ko2, n2, kc2, cs2, rfl, hO, hk, hB⟩ := h2.elim
  have hx := cells2at HX.out hB
  obtain ⟨a0, a1, af⟩ := cells2 hx
  have hx3 := heap2 hx (.int .i64 5) (.slice ko2 n2 kc2)
  obtain ⟨z0, z1, _⟩ := cells2 hx3
  have hO3 := hO.set2 hx (.int .i64 5) (.slice ko2 n2 kc2) (by decide) (by decide)
  have hb3 := below2 (HB1.out.trans (hB.mono HB1.out.size)) hgw (.int .i64 5) (.slice ko2 n2 kc2)
  obtain ⟨W3, hW3⟩ : ∃ W3, W3 = (w2.setCell ⟨g, 0, none⟩ (.int .i64 5)).setCell ⟨g, 1, none⟩ (.slice ko2 n2 kc2) := ⟨_, rfl⟩
  rw [← hW3] at hx3 hO3 hb3
  have ht := hO3.tap 5
  have hks : Tap.ks ⟨5, ko2, n2, kc2, cs2⟩ = [(2, [], false)] := hk
  have hm1 := mark_any ⟨5, ko2, n2, kc2, cs2⟩ 1 W3 ht (by rw [hks]; exact (by decide : goodK 5 [(2, [], false)] = true))
  rw [hks, show markK (Tap.mk 5 ko2 n2 kc2 cs2).p [(2, [], false)] 1 = (0, 5, [(2, [], false), (2, [], false)]) from (by decide : markK 5 [(2, [], false)] 1 = (0, 5, [(2, [], false), (2, [], false)]))] at hm1
  have HB3 := Lib.hid hb3; have HX3 := Lib.hid hx3; have HM3 := Lib.hid hm1; have HW3 := Lib.hid hW3
  clear h2 hO hk hB hx hx3 ht hks hm1 hW3 hO3 hb3
  go_wp2_with (go_at_call 15; fail)
  rw [← HW3.out]
  refine HM3.out.mono ?_
  intro e w4 h4
  obtain ⟨ko4, n4, kc4, cs4, rfl, hO, hk, hB⟩ := h4.elim
  have hx := cells2at HX3.out hB
  clear a0 a1 af z0 z1
  obtain ⟨a0, a1, af⟩ := cells2 hx
  have hx5 := heap2 hx (.int .i64 5) (.slice ko4 n4 kc4)
  obtain ⟨z0, z1, _⟩ := cells2 hx5
  have hO5 := hO.set2 hx (.int .i64 5) (.slice ko4 n4 kc4) (by decide) (by decide)
  have hb5 := below2 (HB3.out.trans (hB.mono HB3.out.size)) hgw (.int .i64 5) (.slice ko4 n4 kc4)
  obtain ⟨W5, hW5⟩ : ∃ W5, W5 = (w4.setCell ⟨g, 0, none⟩ (.int .i64 5)).setCell ⟨g, 1, none⟩ (.slice ko4 n4 kc4) := ⟨_, rfl⟩
  rw [← hW5] at hx5 hO5 hb5
  have ht := hO5.tap 5
  have hks : Tap.ks ⟨5, ko4, n4, kc4, cs4⟩ = [(2, [], false), (2, [], false)] := hk
  have hfi := file_any ⟨5, ko4, n4, kc4, cs4⟩ 1 W5 ht (by rw [hks]; exact (by decide : goodK 5 [(2, [], false), (2, [], false)] = true)) (by omega)
  rw [hks] at hfi
  have hfs := fun V (hV : Below W5.heap.size W5 V) => files_any ⟨5, ko4, n4, kc4, cs4⟩ V (ht.below hV) (by rw [hks]; exact (by decide : goodK 5 [(2, [], false), (2, [], false)] = true))
  rw [hks] at hfs
  simp only [show marks [(2, [], false), (2, [], false)] = 2 from rfl] at hfs
  have HB5 := Lib.hid hb5; have HX5 := Lib.hid hx5; have HFI := Lib.hid hfi; have HFS := Lib.hid hfs; have HW5 := Lib.hid hW5
  clear h4 hO hk hB hx hx5 ht hks hfi hfs hW5 hO5 hb5
  go_wp2_with (go_at_call 18; fail)
  rw [← HW5.out]
  refine HFI.out.mono ?_
  rintro e w6 ⟨hB6, h6⟩
  have he : e = .returned (.tuple #[.int .i64 1, .int .i64 0]) := by
    rcases h6 with ⟨h, _⟩ | ⟨_, j, hj, hm, hm2, he⟩ | ⟨_, h, _⟩
    · omega
    · have hj0 : j = 0 := by
        match j, hj with
        | 0, _ => rfl
        | 1, _ => exact absurd hm (by decide)
      subst hj0
      exact he
    · exact absurd h (by decide)
  subst he
  clear h6 a0 a1 af z0 z1
  obtain ⟨a0, a1, _⟩ := cells2 (cells2at HX5.out hB6)
  have HB6 := Lib.hid hB6
  clear hB6
  go_wp2_with (go_at_call 24; refine (HFS.out _ HB6.out).mono ?_; rintro e w7 ⟨rfl, hB7⟩; have HB7 := Lib.hid hB7; clear hB7)
  go_ret
  exact ⟨rfl, HB5.out.trans ((HB6.out.trans (HB7.out.mono HB6.out.size)).mono HB5.out.size)⟩

end Go.Proofs.Ytojcinkchdhjpaa
