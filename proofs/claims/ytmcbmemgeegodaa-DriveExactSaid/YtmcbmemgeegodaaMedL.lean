/-
  Tapes: what the law of every call wants.
-/
import Derived.Test.YtmcbmemgeegodaaMedK
import Derived.Test.YtmcbmemgeegodaaMedC
namespace Go.Proofs.Ytmcbmemgeegodaa
open Go.RowKit
set_option linter.unusedVariables false

/-- A variable that holds a tape. -/
def Var (V : World) (g : Nat) (p : Int) (a : Option Addr) (n c : Nat) (cs : List Cel) : Prop := V.heap[g]? = some (.cells #[.int .i64 p, .slice a n c] 24 (0, 0)) ∧ Tap.ok V ⟨p, a, n, c, cs⟩
theorem Var.below {V V' : World} {g : Nat} {p : Int} {a : Option Addr} {n c : Nat} {cs : List Cel} (h : Var V g p a n c cs) (hB : Below V.heap.size V V') : Var V' g p a n c cs := ⟨cells2at h.1 hB, h.2.below hB⟩
theorem ReadPost.out {w w' : World} {c : Int} {z : List Int} {e : Ending} (h : ReadPost w (c, z) e w') : ∃ ko kc, e = .returned (.tuple #[.slice ko z.length kc, .int .i64 c]) ∧ Ow w' w.heap.size ko z.length kc z ∧ Below w.heap.size w w' := h
theorem MPost.var {C w' : World} {er p : Int} {ks : List Key} {e : Ending} (h : MPost C (er, p, ks) e w') : ∃ ko n kc cs, e = .returned (.tuple #[.agg #[.int .i64 p, .slice ko n kc], .int .i64 er]) ∧ keys cs = ks ∧
    ∀ V, V = w'.alloc (.cells #[.int .i64 p, .slice ko n kc] 24) → Below C.heap.size C V ∧ Var V w'.heap.size p ko n kc cs ∧ OCs V C.heap.size ko n kc cs := by
  obtain ⟨ko, n, kc, cs, rfl, hO, hk, hB⟩ := h.elim
  refine ⟨ko, n, kc, cs, rfl, hk, fun V hV => ?_⟩
  have hb : Below w'.heap.size w' V := by rw [hV]; exact (Below.refl _ _).alloc (Nat.le_refl _) _
  exact ⟨hB.trans (hb.mono hB.size), ⟨by rw [hV]; exact new_cell _ _ _, (hO.below hb).tap p⟩, hO.below hb⟩
theorem marks_upto (ks : List Key) {a b : Nat} (h : a ≤ b) : marks (ks.take a) ≤ marks (ks.take b) := by
  have : ks.take a = (ks.take b).take a := by rw [List.take_take, Nat.min_eq_left h]
  rw [this]
  exact ((List.take_sublist a (ks.take b)).filter _).length_le
theorem marks_all (ks : List Key) (a : Nat) : marks (ks.take a) ≤ marks ks := ((List.take_sublist a ks).filter _).length_le
open Classical in
/-- Where the n-th file begins. -/
noncomputable def fileC (ks : List Key) (n : Nat) : Int × Int :=
  if n = 0 then (0, 0) else if h : ∃ j : Nat, j < ks.length ∧ marks (ks.take (j + 1)) = n ∧ marks (ks.take j) + 1 = n then (((Classical.choose h : Nat) : Int) + 1, 0) else (0, 8)
theorem FilePost.val {w w' : World} {ks : List Key} {n : Nat} {e : Ending} (h : FilePost w ks n e w') : e = .returned (.tuple #[.int .i64 (fileC ks n).1, .int .i64 (fileC ks n).2]) ∧ Below w.heap.size w w' := by
  obtain ⟨hB, h⟩ := h
  refine ⟨?_, hB⟩
  unfold fileC
  rcases h with ⟨h0, rfl⟩ | ⟨h1, j, hj, hm1, hm2, rfl⟩ | ⟨h1, hm, rfl⟩
  · rw [if_pos h0]
  · rw [if_neg (show ¬ n = 0 by omega)]
    have hex : ∃ j : Nat, j < ks.length ∧ marks (ks.take (j + 1)) = n ∧ marks (ks.take j) + 1 = n := ⟨j, hj, hm1, hm2⟩
    rw [dif_pos hex]
    have hs := Classical.choose_spec hex
    obtain ⟨i, hi⟩ : ∃ i, i = Classical.choose hex := ⟨_, rfl⟩
    rw [← hi] at hs ⊢
    have : i = j := by
      rcases Nat.lt_trichotomy i j with h | h | h
      · have := marks_upto ks (show i + 1 ≤ j by omega); omega
      · exact h
      · have := marks_upto ks (show j + 1 ≤ i by omega); omega
    rw [this]
  · rw [if_neg (show ¬ n = 0 by omega), dif_neg]
    rintro ⟨j, hj, hm1, hm2⟩
    have := marks_all ks (j + 1); omega



set_option maxHeartbeats 2000000 in
theorem rfile_neg (t : Tap) (q : Int) (w : World) (h : t.ok w) (hq : q < 0) : Calls Try.prog 59 #[.agg #[.int .i64 t.p, .slice t.a t.n t.c], .int .i64 q] w fun e w' => e = .returned (.tuple #[.int .i64 0, .int .i64 8]) ∧ Below w.heap.size w w' := by
  have hm := Nat.le_trans h.room h.cm
  unfold maxLen at hm
  obtain ⟨p, a, n, c, cs⟩ := t
  simp only at hm ⊢
  clear h
  have HB0 := Lib.hid ((Below.refl w.heap.size w).alloc (Nat.le_refl _) (.cells #[.int .i64 p, .slice a n c] 24))
  have HX0 := Lib.hid (new_cell (w := w) (.int .i64 p) (.slice a n c) 24)
  have e0 : (q == 0) = false := beq_eq_false_iff_ne.2 (by omega)
  have e1 : decide (0 < q) = false := decide_eq_false (by omega)
  go_enter Try.func59, Try.ntmps59
  go_wp2
  go_loopw [1, 6] (fun s i wr => s = .int .i64 q ∧ i = .int .i64 0 ∧ wr.heap[w.heap.size]? = some (.cells #[.int .i64 p, .slice a n c] 24 (0, 0)) ∧ Below w.heap.size w wr) (fun _ i _ => n - (intOf i).toNat)
  case atStart => exact ⟨rfl, rfl, HX0.out, HB0.out⟩
  case round =>
    obtain ⟨rfl, rfl, hx, hB⟩ := hrel
    have HBR := Lib.hid hB
    obtain ⟨y0, y1, _⟩ := cells2 hx
    clear hx hB
    by_cases h0 : 0 < n
    · have e2 : decide ((0 : Int) < (n : Int)) = true := decide_eq_true (by omega)
      have e2' : decide (0 < n) = true := decide_eq_true h0
      go_wp2
      go_ret2
      exact ⟨rfl, HBR.out⟩
    · obtain rfl : n = 0 := by omega
      go_wp2
      go_ret2
      exact ⟨rfl, HBR.out⟩
/-- FILE, of whatever number, of both. -/
theorem files_two (t t' : Tap) (n : Int) (w : World) (hk : t'.ks = t.ks) (hn1 : -9223372036854775808 ≤ n) (hn2 : n ≤ 9223372036854775807) : ∃ a c, ((decide (n < 0) = true ∧ a = 0 ∧ c = 8) ∨ decide (n < 0) = false) ∧
    (∀ V, t'.ok V → goodK t'.p t'.ks = true → Calls Try.prog 43 #[.agg #[.int .i64 t'.p, .slice t'.a t'.n t'.c], .int .i64 n] V fun e V' => e = .returned (.tuple #[.int .i64 a, .int .i64 c]) ∧ Below V.heap.size V V') ∧
    (∀ V, t.ok V → Calls Try.prog 59 #[.agg #[.int .i64 t.p, .slice t.a t.n t.c], .int .i64 n] V fun e V' => e = .returned (.tuple #[.int .i64 a, .int .i64 c]) ∧ Below V.heap.size V V') := by
  by_cases h : n < 0
  · exact ⟨0, 8, .inl ⟨decide_eq_true h, rfl, rfl⟩, fun V hV hg => file_neg t' n V hV hg h hn1, fun V hV => rfile_neg t n V hV h⟩
  · obtain ⟨m, rfl⟩ : ∃ m : Nat, n = m := ⟨n.toNat, by omega⟩
    refine ⟨(fileC t.ks m).1, (fileC t.ks m).2, .inr (decide_eq_false h), fun V hV hg => ?_, fun V hV => ?_⟩
    · have h1 := file_big t' m V hV hg (by omega)
      rw [hk] at h1
      exact h1.mono fun _ _ h => h.val
    · exact (rfile_any t m V hV (by omega)).mono fun _ _ h => h.val
end Go.Proofs.Ytmcbmemgeegodaa
