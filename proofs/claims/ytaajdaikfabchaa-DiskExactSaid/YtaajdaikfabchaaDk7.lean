/-
  The disk: New.
-/
import Derived.Test.YtaajdaikfabchaaDk6
namespace Go.Proofs.Ytaajdaikfabchaa
open Go.RowKit
set_option linter.unusedVariables false

theorem dnew_bad (w : World) (gp : Nat) (s : Int) (h : s < 1 ∨ 600 < s) : Calls Try.prog 10 #[.pointer (some ⟨gp, 0, none⟩), .int .i64 s] w fun e w' => e = .returned (.tuple #[.pointer none, .int .i64 1]) ∧ w = w' := by
  by_cases h1 : s < 1
  · have d1 : decide (s < 1) = true := decide_eq_true h1
    clear h
    go_enter Try.func10, Try.ntmps10
    go_wp2
    go_ret2
    exact ⟨rfl, rfl⟩
  · have d1 : decide (s < 1) = false := decide_eq_false h1
    have d2 : decide (600 < s) = true := decide_eq_true (by omega)
    clear h
    go_enter Try.func10, Try.ntmps10
    go_wp2
    go_ret2
    exact ⟨rfl, rfl⟩

theorem three_allocs (w : World) (o1 o2 o3 : Obj) : Below w.heap.size w (((w.alloc o1).alloc o2).alloc o3).drew ∧ (((w.alloc o1).alloc o2).alloc o3).drew.heap[w.heap.size]? = some o1 ∧ (((w.alloc o1).alloc o2).alloc o3).drew.heap[w.heap.size + 1]? = some o2 ∧ (((w.alloc o1).alloc o2).alloc o3).drew.heap[w.heap.size + 1 + 1]? = some o3 := by
  have e1 := heap_alloc_new w o1
  have e2 := heap_alloc_new (w.alloc o1) o2
  have e3 := heap_alloc_new ((w.alloc o1).alloc o2) o3
  simp only [World.size_alloc] at e2 e3
  have b2 : Below (w.heap.size + 1) (w.alloc o1) (((w.alloc o1).alloc o2).alloc o3) := ((Below.refl _ _).alloc (by simp) _).alloc (by simp) _
  have b3 : Below (w.heap.size + 1 + 1) ((w.alloc o1).alloc o2) (((w.alloc o1).alloc o2).alloc o3) := (Below.refl _ _).alloc (by simp) _
  refine ⟨((((Below.refl _ _).alloc (Nat.le_refl _) _).alloc (by simp) _).alloc (by simp; omega) _).drew, ?_, ?_, e3⟩
  · show (((w.alloc o1).alloc o2).alloc o3).heap[w.heap.size]? = _
    rw [b2.block _ (by omega)]; exact e1
  · show (((w.alloc o1).alloc o2).alloc o3).heap[w.heap.size + 1]? = _
    rw [b3.block _ (by omega)]; exact e2

/-- A disk, just made. -/
theorem dnew_sy {w W : World} {B Bp gp g gn gs n : Nat} {life : Int} {P : PP} (hp : PwM w Bp gp P) (hBl : Below w.heap.size w W) (hB : B ≤ gp) (hn : 1 ≤ n) (hn6 : n ≤ 600) (h1 : W.heap[gn]? = some (.cells (scs (secs0 n)).toArray 73)) (h2 : W.heap[gs]? = some (.cells (scs (secs0 n)).toArray 73))
    (h3 : W.heap[g]? = some (.cells #[.pointer (some ⟨gp, 0, none⟩), .int .i64 life, .slice (some ⟨gn, 0, none⟩) n n, .slice (some ⟨gs, 0, none⟩) n n, .slice none 0 0] 67)) (hg : w.heap.size ≤ g ∧ w.heap.size ≤ gn ∧ w.heap.size ≤ gs) (hne : gn ≠ gs) :
    Sy w W B Bp g gp gn gs life n none 0 0 (secs0 n) (secs0 n) [] P := by
  have hlt := hp.lt.1
  exact ⟨⟨h3, h1, h2, World.ownsRow_nil _ _ _ _, by unfold secs0; rw [List.length_replicate], by unfold secs0; rw [List.length_replicate], rfl, hne, ⟨hn, hn6⟩, ⟨by omega, by omega, by omega, hB, Nat.le_trans (by omega) hBl.size⟩,
    fun s hs => by rw [mem_secs0 hs]; exact .inl rfl, fun s hs => by rw [mem_secs0 hs]; exact .inl rfl, fun x hx => by cases hx⟩, hp.below hBl, hBl.mono (by omega), KT.below _ _ hBl⟩

set_option maxHeartbeats 2000000 in
theorem dnew_any (w : World) (B Bp gp n : Nat) (P : PP) (hp : PwM w Bp gp P) (hB : B ≤ gp) (hn : 1 ≤ n) (hn6 : n ≤ 600) : Calls Try.prog 10 #[.pointer (some ⟨gp, 0, none⟩), .int .i64 n] w fun e w' => ∃ g, e = .returned (.tuple #[.pointer (some ⟨g, 0, none⟩), .int .i64 0]) ∧ w.heap.size ≤ g ∧ Sys w w' B Bp g gp n ⟨P.life, secs0 n, secs0 n, []⟩ P ∧ Below w.heap.size w w' := by
  have d1 : decide ((n : Int) < 1) = false := decide_eq_false (by omega)
  have d2 : decide ((600 : Int) < (n : Int)) = false := decide_eq_false (by omega)
  have d2' : decide (600 < n) = false := decide_eq_false (by omega)
  have HL : Hid (∀ V, Below w.heap.size w V → Calls Try.prog 33 #[.pointer (some ⟨gp, 0, none⟩)] V fun e w' => e = .returned (.int .i64 P.life) ∧ V = w') := fun V hV => plife V Bp gp P (hp.below hV)
  have hmk := make_secs n (by omega)
  obtain ⟨Z, hZ⟩ : ∃ Z, Z = (scs (secs0 n)).toArray := ⟨_, rfl⟩
  rw [← hZ] at hmk
  have HP := Lib.hid hp; have HZ := Lib.hid hZ
  clear hp hZ
  go_enter Try.func10, Try.ntmps10
  go_wp2
  go_region_held3 (fun _ => True) (trivial) ((go_at_call 33; (with_reducible refine (HL.out _ ?_).mono ?_); (first | exact (Below.refl _ _).drew | exact ((Below.refl _ _).alloc (Nat.le_refl _) _).drew | exact (((Below.refl _ _).alloc (Nat.le_refl _) _).alloc (by simp) _).drew); rintro e w5 ⟨rfl, rfl⟩))
  all_goals first
    | (obtain ⟨hB3, x1, x2, x3⟩ := three_allocs w (.cells Z 73) (.cells Z 73) (.cells #[.pointer (some ⟨gp, 0, none⟩), .int .i64 P.life, .slice (some ⟨w.heap.size, 0, none⟩) n n, .slice (some ⟨w.heap.size + 1, 0, none⟩) n n, .slice none 0 0] 67)
       have hsy : Sy w _ B Bp (w.heap.size + 1 + 1) gp (w.heap.size) (w.heap.size + 1) P.life n none 0 0 (secs0 n) (secs0 n) [] P := dnew_sy HP.out hB3 hB hn hn6 (by rw [← HZ.out]; first | exact x1 | exact x2) (by rw [← HZ.out]; first | exact x2 | exact x1) x3 (by omega) (by omega)
       have HSY := Lib.hid hsy; have HB3 := Lib.hid hB3
       clear x1 x2 x3 hsy hB3 hmk
       go_wp2
       go_ret2
       exact ⟨_, rfl, by omega, ⟨_, _, _, _, _, HSY.out⟩, HB3.out⟩)
    | (obtain ⟨hB3, x1, x2, x3⟩ := three_allocs w (.cells Z 73) (.cells Z 73) (.cells #[.pointer (some ⟨gp, 0, none⟩), .int .i64 P.life, .slice (some ⟨w.heap.size + 1, 0, none⟩) n n, .slice (some ⟨w.heap.size, 0, none⟩) n n, .slice none 0 0] 67)
       have hsy : Sy w _ B Bp (w.heap.size + 1 + 1) gp (w.heap.size + 1) (w.heap.size) P.life n none 0 0 (secs0 n) (secs0 n) [] P := dnew_sy HP.out hB3 hB hn hn6 (by rw [← HZ.out]; first | exact x1 | exact x2) (by rw [← HZ.out]; first | exact x2 | exact x1) x3 (by omega) (by omega)
       have HSY := Lib.hid hsy; have HB3 := Lib.hid hB3
       clear x1 x2 x3 hsy hB3 hmk
       go_wp2
       go_ret2
       exact ⟨_, rfl, by omega, ⟨_, _, _, _, _, HSY.out⟩, HB3.out⟩)

end Go.Proofs.Ytaajdaikfabchaa
