/-
  Frames: Read.
-/
import Derived.Test.YtifbbikhjolnjaaDoorFrame3
namespace Go.Proofs.YtifbbikhjolnjaaDoor
open Go.RowKit
set_option linter.unusedVariables false

/-- The fields of the bytes ys. -/
def rk (ys : List Int) : Int := ((num (ys.take 1) : Nat) : Int)
def rs' (ys : List Int) : Int := ((num ((ys.drop 1).take 4) : Nat) : Int)
def rn (ys : List Int) : Nat := num ((ys.drop 5).take 4)
def rz (ys : List Int) : List Int := (ys.drop 13).take (rn ys)
/-- What Read tells of the bytes ys, which begin at its offset. -/
def rer (ys : List Int) : Int :=
  if ys.length < 9 then 3
  else if ¬ nok (rk ys) (rs' ys) ∨ 8000 < rn ys ∨ ys.length < 13 + rn ys then 3
  else if (ys.drop 9).take 4 = l4 ((sumOf (ys.take 9 ++ rz ys)).toNat : Int) then 0 else 4
/-- Nothing read. -/
def RF0 (w : World) (er : Int) (r : Ending) (w' : World) : Prop :=
  r = .returned (.tuple #[.agg #[.int .i64 0, .int .i64 0, .slice none 0 0], .int .i64 0, .int .i64 er]) ∧ Below w.heap.size w w'
/-- A record read. -/
def RF (w : World) (k s : Int) (n : Nat) (z : List Int) (nx : Int) (r : Ending) (w' : World) : Prop :=
  ∃ ko kc, r = .returned (.tuple #[.agg #[.int .i64 k, .int .i64 s, .slice ko n kc], .int .i64 nx, .int .i64 0]) ∧ Ow w' w.heap.size ko n kc z ∧ Below w.heap.size w w'
theorem fread_err1 (b : Value) (at' : Int) (w : World) (er : Int) (he : er ≠ 0)
    (hg : ∀ V, Below w.heap.size w V → Calls Tryd.prog 27 #[b, .int .i64 at', .int .i64 1] V fun e w' => e = .returned (.tuple #[.int .i64 0, .int .i64 0, .int .i64 er]) ∧ V = w') :
    Calls Tryd.prog 19 #[b, .int .i64 at'] w (RF0 w er) := by
  have d1 : (er != 0) = true := by simp [he]
  have HG := Lib.hid hg
  clear hg he
  go_enter Tryd.func19, Tryd.ntmps19
  go_wp2_with (go_at_call 27; refine (HG.out _ ((Below.refl _ _).alloc (Nat.le_refl _) _)).mono ?_; rintro r w1 ⟨rfl, rfl⟩)
  refine bodyPost_ret (v := .tuple #[.agg #[.int .i64 0, .int .i64 0, .slice none 0 0], .int .i64 0, .int .i64 er]) (by simp [results, Tryd.results19, go_sem]) rfl ⟨rfl, ?_⟩
  first | exact (Below.refl _ _).alloc (Nat.le_refl _) _ | exact ((((Below.refl _ _).alloc (Nat.le_refl _) _).setCell (Nat.le_refl _) _).setCell (Nat.le_refl _) _).setCell (Nat.le_refl _) _
theorem fread_err2 (b : Value) (at' x nx : Int) (w : World) (er : Int) (he : er ≠ 0)
    (hg : ∀ V, Below w.heap.size w V → Calls Tryd.prog 27 #[b, .int .i64 at', .int .i64 1] V fun e w' => e = .returned (.tuple #[.int .i64 x, .int .i64 nx, .int .i64 0]) ∧ V = w')
    (hg2 : ∀ V, Below w.heap.size w V → Calls Tryd.prog 27 #[b, .int .i64 nx, .int .i64 4] V fun e w' => e = .returned (.tuple #[.int .i64 0, .int .i64 0, .int .i64 er]) ∧ V = w') :
    Calls Tryd.prog 19 #[b, .int .i64 at'] w (RF0 w er) := by
  have d1 : (er != 0) = true := by simp [he]
  have HG := Lib.hid hg; have HG2 := Lib.hid hg2
  clear hg he hg2
  go_enter Tryd.func19, Tryd.ntmps19
  go_wp2_with (first
    | (go_at_call 27; (with_reducible refine (HG.out _ ((Below.refl _ _).alloc (Nat.le_refl _) _)).mono ?_); rintro r w1 ⟨rfl, rfl⟩)
    | (go_at_call 27; (with_reducible refine (HG2.out _ ((Below.refl _ _).alloc (Nat.le_refl _) _)).mono ?_); rintro r w1 ⟨rfl, rfl⟩))
  refine bodyPost_ret (v := .tuple #[.agg #[.int .i64 0, .int .i64 0, .slice none 0 0], .int .i64 0, .int .i64 er]) (by simp [results, Tryd.results19, go_sem]) rfl ⟨rfl, ?_⟩
  first | exact (Below.refl _ _).alloc (Nat.le_refl _) _ | exact ((((Below.refl _ _).alloc (Nat.le_refl _) _).setCell (Nat.le_refl _) _).setCell (Nat.le_refl _) _).setCell (Nat.le_refl _) _
theorem fread_err3 (b : Value) (at' x nx y ny : Int) (w : World) (er : Int) (he : er ≠ 0)
    (hg : ∀ V, Below w.heap.size w V → Calls Tryd.prog 27 #[b, .int .i64 at', .int .i64 1] V fun e w' => e = .returned (.tuple #[.int .i64 x, .int .i64 nx, .int .i64 0]) ∧ V = w')
    (hg2 : ∀ V, Below w.heap.size w V → Calls Tryd.prog 27 #[b, .int .i64 nx, .int .i64 4] V fun e w' => e = .returned (.tuple #[.int .i64 y, .int .i64 ny, .int .i64 0]) ∧ V = w')
    (hg3 : ∀ V, Below w.heap.size w V → Calls Tryd.prog 27 #[b, .int .i64 ny, .int .i64 4] V fun e w' => e = .returned (.tuple #[.int .i64 0, .int .i64 0, .int .i64 er]) ∧ V = w') :
    Calls Tryd.prog 19 #[b, .int .i64 at'] w (RF0 w er) := by
  have d1 : (er != 0) = true := by simp [he]
  have HG := Lib.hid hg; have HG2 := Lib.hid hg2; have HG3 := Lib.hid hg3
  clear hg he hg2 hg3
  go_enter Tryd.func19, Tryd.ntmps19
  go_wp2_with (go_at_call 27; fail)
  refine (HG.out _ ((Below.refl _ _).alloc (Nat.le_refl _) _)).mono ?_
  rintro r w1 ⟨rfl, rfl⟩
  go_wp2_with (go_at_call 27; fail)
  refine (HG2.out _ ((Below.refl _ _).alloc (Nat.le_refl _) _)).mono ?_
  rintro r w1 ⟨rfl, rfl⟩
  go_wp2_with (go_at_call 27; fail)
  refine (HG3.out _ ((Below.refl _ _).alloc (Nat.le_refl _) _)).mono ?_
  rintro r w1 ⟨rfl, rfl⟩
  go_wp2
  refine bodyPost_ret (v := .tuple #[.agg #[.int .i64 0, .int .i64 0, .slice none 0 0], .int .i64 0, .int .i64 er]) (by simp [results, Tryd.results19, go_sem]) rfl ⟨rfl, ?_⟩
  first | exact (Below.refl _ _).alloc (Nat.le_refl _) _ | exact ((((Below.refl _ _).alloc (Nat.le_refl _) _).setCell (Nat.le_refl _) _).setCell (Nat.le_refl _) _).setCell (Nat.le_refl _) _
theorem fread_bad (ao : Option Addr) (len cap a n : Nat) (k s : Int) (w : World) (hm : len ≤ 1000000000)
    (hg : ∀ V, Below w.heap.size w V → Calls Tryd.prog 27 #[.slice ao len cap, .int .i64 a, .int .i64 1] V fun e w' => e = .returned (.tuple #[.int .i64 k, .int .i64 ((a : Int) + 1), .int .i64 0]) ∧ V = w')
    (hg2 : ∀ V, Below w.heap.size w V → Calls Tryd.prog 27 #[.slice ao len cap, .int .i64 ((a : Int) + 1), .int .i64 4] V fun e w' => e = .returned (.tuple #[.int .i64 s, .int .i64 ((a : Int) + 5), .int .i64 0]) ∧ V = w')
    (hg3 : ∀ V, Below w.heap.size w V → Calls Tryd.prog 27 #[.slice ao len cap, .int .i64 ((a : Int) + 5), .int .i64 4] V fun e w' => e = .returned (.tuple #[.int .i64 n, .int .i64 ((a : Int) + 9), .int .i64 0]) ∧ V = w')
    (hal : a + 9 ≤ len) (hn32 : n < 4294967296) (hbad : ¬ nok k s ∨ 8000 < n ∨ len < a + 13 + n) :
    Calls Tryd.prog 19 #[.slice ao len cap, .int .i64 a] w (RF0 w 3) := by
  have HG := Lib.hid hg; have HG2 := Lib.hid hg2; have HG3 := Lib.hid hg3
  have HN := Lib.hid (fun V => numbered_any k s V)
  clear hg hg2 hg3
  by_cases hnok : nok k s
  · rw [decide_eq_true hnok] at HN
    by_cases hn8 : 8000 < n
    · have d2 : decide ((8000 : Int) < (n : Int)) = true := decide_eq_true (by omega)
      clear hbad hnok
      go_enter Tryd.func19, Tryd.ntmps19
      go_wp2_with (go_at_call 27; fail)
      refine (HG.out _ ((Below.refl _ _).alloc (Nat.le_refl _) _)).mono ?_
      rintro r w1 ⟨rfl, rfl⟩
      go_wp2_with (go_at_call 27; fail)
      refine (HG2.out _ ((Below.refl _ _).alloc (Nat.le_refl _) _)).mono ?_
      rintro r w1 ⟨rfl, rfl⟩
      go_wp2_with (go_at_call 27; fail)
      refine (HG3.out _ ((Below.refl _ _).alloc (Nat.le_refl _) _)).mono ?_
      rintro r w1 ⟨rfl, rfl⟩
      go_wp2_with (go_at_call 28; refine (HN.out _).mono ?_; rintro r w1 ⟨rfl, rfl⟩)
      refine bodyPost_ret (v := .tuple #[.agg #[.int .i64 0, .int .i64 0, .slice none 0 0], .int .i64 0, .int .i64 3]) (by simp [results, Tryd.results19, go_sem]) rfl ⟨rfl, ?_⟩
      first | exact (Below.refl _ _).alloc (Nat.le_refl _) _ | exact ((((Below.refl _ _).alloc (Nat.le_refl _) _).setCell (Nat.le_refl _) _).setCell (Nat.le_refl _) _).setCell (Nat.le_refl _) _
    · have d2 : decide ((8000 : Int) < (n : Int)) = false := decide_eq_false (by omega)
      have hls : len < a + 13 + n := by
        rcases hbad with h | h | h
        · exact absurd hnok h
        · exact absurd h hn8
        · exact h
      have d3 : decide ((len : Int) - ((a : Int) + 9) < 4 + (n : Int)) = true := decide_eq_true (by omega)
      clear hbad hnok
      go_enter Tryd.func19, Tryd.ntmps19
      go_wp2_with (go_at_call 27; fail)
      refine (HG.out _ ((Below.refl _ _).alloc (Nat.le_refl _) _)).mono ?_
      rintro r w1 ⟨rfl, rfl⟩
      go_wp2_with (go_at_call 27; fail)
      refine (HG2.out _ ((Below.refl _ _).alloc (Nat.le_refl _) _)).mono ?_
      rintro r w1 ⟨rfl, rfl⟩
      go_wp2_with (go_at_call 27; fail)
      refine (HG3.out _ ((Below.refl _ _).alloc (Nat.le_refl _) _)).mono ?_
      rintro r w1 ⟨rfl, rfl⟩
      go_wp2_with (go_at_call 28; refine (HN.out _).mono ?_; rintro r w1 ⟨rfl, rfl⟩)
      refine bodyPost_ret (v := .tuple #[.agg #[.int .i64 0, .int .i64 0, .slice none 0 0], .int .i64 0, .int .i64 3]) (by simp [results, Tryd.results19, go_sem]) rfl ⟨rfl, ?_⟩
      first | exact (Below.refl _ _).alloc (Nat.le_refl _) _ | exact ((((Below.refl _ _).alloc (Nat.le_refl _) _).setCell (Nat.le_refl _) _).setCell (Nat.le_refl _) _).setCell (Nat.le_refl _) _
  · rw [decide_eq_false hnok] at HN
    clear hbad hnok
    go_enter Tryd.func19, Tryd.ntmps19
    go_wp2_with (go_at_call 27; fail)
    refine (HG.out _ ((Below.refl _ _).alloc (Nat.le_refl _) _)).mono ?_
    rintro r w1 ⟨rfl, rfl⟩
    go_wp2_with (go_at_call 27; fail)
    refine (HG2.out _ ((Below.refl _ _).alloc (Nat.le_refl _) _)).mono ?_
    rintro r w1 ⟨rfl, rfl⟩
    go_wp2_with (go_at_call 27; fail)
    refine (HG3.out _ ((Below.refl _ _).alloc (Nat.le_refl _) _)).mono ?_
    rintro r w1 ⟨rfl, rfl⟩
    go_wp2_with (go_at_call 28; refine (HN.out _).mono ?_; rintro r w1 ⟨rfl, rfl⟩)
    refine bodyPost_ret (v := .tuple #[.agg #[.int .i64 0, .int .i64 0, .slice none 0 0], .int .i64 0, .int .i64 3]) (by simp [results, Tryd.results19, go_sem]) rfl ⟨rfl, ?_⟩
    first | exact (Below.refl _ _).alloc (Nat.le_refl _) _ | exact ((((Below.refl _ _).alloc (Nat.le_refl _) _).setCell (Nat.le_refl _) _).setCell (Nat.le_refl _) _).setCell (Nat.le_refl _) _

end Go.Proofs.YtifbbikhjolnjaaDoor
